/-
  From the listed variables' data to what the walks ask of them, a heap that meets them, and the frame that keeps the world's shape; conditions as each theorem has them.
-/
import Derived.Test.YtfjglcihlkmpnaaDoorV
import Derived.ProofKit
import Derived.LaidMore
import Derived.LaidHandle
import Derived.OpenShut
import Derived.Stop.Joined
import Derived.HandedShaped
import Derived.Lib.SmallJoins
set_option linter.unusedSimpArgs false
set_option linter.unusedVariables false
set_option linter.constructorNameAsVariable false
set_option maxRecDepth 100000
namespace Go.Proofs.YtfjglcihlkmpnaaDoor
open Go.ChangeShapes Go.WideShapes Go.ChangeAt Go.RowKit

def laidL : List (String × DataW Unit) := [("unicode/utf8.acceptRanges", Rows.laid_unicode_utf8_acceptRanges), ("errors.errorType", Rows.laid_errors_errorType), ("unicode/utf8.first", Rows.laid_unicode_utf8_first)]
/-- The door's heap with the pinned table laid. -/
noncomputable def laidW (os : Os) : World :=
  let w0 := World.doorLaid Tryd.prog 41 os
  { w0 with heap := w0.heap.modify 3 fun
      | .cells _ t frozen => .cells (Go.Pinned.utf8FirstZ.map fun (z : Nat) => Value.int .u8 (z : Int)).toArray t frozen
      | o => o }
set_option maxRecDepth 100000 in
theorem door_met (os : Os) (args : Array Value) : laidMetH Tryd.prog laidL ((laidW os).forCall (fun _ _ => 0) ⟨#[], args, []⟩).memory :=
  laidMetH_of_parts3 (fuel := 8) (laidMet_of_run' 8 (by kernel_rfl) (by kernel_rfl)) (by kernel_rfl) (by kernel_rfl)
theorem et1 : Tryd.prog.globalNamed "errors.errorType" = some 1 := by kernel_rfl
theorem rt1 : (Tryd.prog.cutTypes.find? (·.1 == "internal/reflectlite.rtype")).map (·.2) = some 127 := by kernel_rfl
theorem oneRow : ((List.range 189).filter fun t => Tryd.prog.rowNamed t [101, 114, 114, 111, 114]) = [25] := by kernel_rfl
theorem tsize : Tryd.prog.types.size = 189 := by kernel_rfl
theorem varE_of {W : World} {x : String × DataW Unit} (hx : x = ("errors.errorType", Rows.laid_errors_errorType)) {hs : List (String × DataW Unit)} (hm : x ∈ hs) (h : handlesMet Tryd.prog hs W) : VarE W := by
  have h1 := h x hm
  subst hx
  obtain ⟨name, u, ty, e1, e2, e3, e4, e5⟩ := h1
  have en : name = [101, 114, 114, 111, 114] := (Option.some.inj e1).symm
  subst en
  obtain rfl := Option.some.inj (rt1.symm.trans e2)
  have hm : ty ∈ (List.range 189).filter fun t => Tryd.prog.rowNamed t [101, 114, 114, 111, 114] := List.mem_filter.2 ⟨List.mem_range.2 (by rw [← tsize]; exact e3), e4⟩
  rw [oneRow] at hm
  obtain rfl := List.mem_singleton.1 hm
  have hh : typeHandle Tryd.prog 25 = .pointer (some ⟨7, 25, none⟩) := by kernel_rfl
  rw [hh] at e5
  unfold VarE
  simpa using World.var?_cell et1 e5 0
set_option maxRecDepth 100000 in
theorem of_laid {W : World} (h : laidMetH Tryd.prog laidL W) (hs : W.ShapedOpen Tryd.prog) : Tabs W := by
  have h' : laidMet Tryd.prog [("unicode/utf8.acceptRanges", Rows.laid_unicode_utf8_acceptRanges), ("unicode/utf8.first", Rows.laid_unicode_utf8_first)] W ∧ handlesMet Tryd.prog [("errors.errorType", Rows.laid_errors_errorType)] W := h
  exact ⟨Tryd.laysM146.s1_3 W hs, varE_of rfl (List.mem_singleton.2 rfl) h'.2⟩

/-- The plain frame with a condition on the variables, the world's shape kept. -/
theorem lift_shaped {H : Type} {enc : TypeId × Value → H} {a : Assume} {C : Checked} {os : Os} {f : FuncId} {fn : Func} {s : ChangeSpec} {conds : List PathCond} {apart fresh handsOn again : Bool} {X : World → Array Value → Prop}
    (hX : ∀ (w w' : World) (args : Array Value), w.heap = w'.heap → X w args → X w' args)
    (own : ownKnob C.prog.godebug = none) (started : os.Started) (noInit : C.prog.inits.idxOf? f = none) (hfn : C.prog.funcs[f]? = some fn)
    (witness : ∃ (w : World) (tape : Tape) (i : Input), w.os = os ∧ (w.forCall tape i).Shaped C.prog ∧ i.vars = [] ∧ Input.okWide C.prog (w.forCall tape i) .any w.heap.size f i ∧
      ((s.pre enc C.prog fn conds apart (w.forCall tape i).memory i.args ∧ X (w.forCall tape i).memory i.args) ∧ sizedMet enc C.prog fn (OpenSpec.ofChange s) apart (w.forCall tape i).memory i.args) ∧ a.holds C.prog (lone (Frame.enter C.prog f i.args .normal) [] (w.forCall tape i)))
    (contract : ∀ (W : World) (base : Nat) (args : Array Value) (ds gs : List (DataW H)) (before : List MemPlace),
      (∀ (j : Nat) t v, fn.params[j]? = some t → args[j]? = some v → Value.okWide C.prog W .any base t v) →
      DataW.Whole enc C.prog fn.params.toList s.vars apart W args.toList ds gs before →
      (DataW.weightsEach C.prog (fn.params.toList ++ s.plain.varTypes C.prog) (ds ++ gs)).all (· ≤ reachBytes) = true → X W args → W.ShapedOpen C.prog →
      Calls C.prog f args W fun e W' => ∃ v, e = .returned v ∧ s.post enc C.prog fn apart fresh handsOn again W args v W') :
    ReturnsInHanded a C os f .any (fun w args => (s.pre enc C.prog fn conds apart w args ∧ X w args) ∧ sizedMet enc C.prog fn (OpenSpec.ofChange s) apart w args) (s.post enc C.prog fn apart fresh handsOn again) := by
  refine returnsInHanded_of_calls own started noInit witness ?_
  intro w tape i _ hsh _ hok hpre hholds
  obtain ⟨_, _, _, fn', hfn', _, _, _, _, hval⟩ := hok
  have e : fn' = fn := Option.some.inj (hfn'.symm.trans hfn)
  subst e
  obtain ⟨⟨⟨ds, gs, before, hw, hc⟩, hx⟩, hz⟩ := hpre
  have hw' := DataW.Whole.of_heap (w' := w.forCall tape i) (by rfl) hw
  refine (contract (w.forCall tape i) w.heap.size i.args ds gs before hval hw' (hz.weights hw) (hX _ _ _ (by rfl) hx) hsh).mono fun e W' ⟨v, he, hp⟩ => ?_
  subst he
  exact ChangeSpec.post_blind hp

theorem byte_of {n : Int} (h : (Lit.int .u8 n).wf = true) : ∃ k : Nat, k < 256 ∧ n = k := by
  have hb := bounds_u8 h
  exact ⟨n.toNat, by omega, by omega⟩
theorem one_cell {c : Value} {l : List Value} (h : [c] = l) {v : Value} (hl : l = [v]) : c = v := by rw [hl] at h; simpa using h
theorem ad_of {H : Type} {enc : TypeId × Value → H} {W : World} {base : Nat} {sp : Nat → Bool} {held : Bool} {fuel : Nat} {cs : List Value} {x : DataW H × List MemPlace} (h : DataW.trod enc Tryd.prog W base sp held fuel 23 cs = some x) :
    ∃ a : Ad, a.ok ∧ cs = [.int .u8 (a.1 : Nat), .int .u8 (a.2.1 : Nat), .int .u8 (a.2.2.1 : Nat), .int .u8 (a.2.2.2 : Nat)] := by
  obtain ⟨y0, y1, y2, y3, n, _, hl, h0, h1, h2, h3⟩ := Go.Joins.trod_struct4 Tryd.underlying23 h
  have c23 : Tryd.prog.cellsOf 23 = 4 := by kernel_rfl
  have c5 : Tryd.prog.cellsOf 5 = 1 := by kernel_rfl
  rw [c23] at hl
  obtain ⟨c0, c1, c2, c3, rfl⟩ : ∃ c0 c1 c2 c3, cs = [c0, c1, c2, c3] := by
    match cs, hl with
    | [a, b, c, d], _ => exact ⟨a, b, c, d, rfl⟩
  simp only [c5] at h0 h1 h2 h3
  obtain ⟨n0, e0, _, w0⟩ := DataW.trod_int Tryd.underlying5 h0
  obtain ⟨n1, e1, _, w1⟩ := DataW.trod_int Tryd.underlying5 h1
  obtain ⟨n2, e2, _, w2⟩ := DataW.trod_int Tryd.underlying5 h2
  obtain ⟨n3, e3, _, w3⟩ := DataW.trod_int Tryd.underlying5 h3
  obtain ⟨k0, l0, rfl⟩ := byte_of w0
  obtain ⟨k1, l1, rfl⟩ := byte_of w1
  obtain ⟨k2, l2, rfl⟩ := byte_of w2
  obtain ⟨k3, l3, rfl⟩ := byte_of w3
  have f0 : c0 = .int .u8 (k0 : Nat) := one_cell rfl e0
  have f1 : c1 = .int .u8 (k1 : Nat) := one_cell rfl e1
  have f2 : c2 = .int .u8 (k2 : Nat) := one_cell rfl e2
  have f3 : c3 = .int .u8 (k3 : Nat) := one_cell rfl e3
  exact ⟨(k0, k1, k2, k3), ⟨l0, l1, l2, l3⟩, by rw [f0, f1, f2, f3]⟩
/-- An address that came in. -/
theorem open_ad {H : Type} {enc : TypeId × Value → H} {W : World} {base b0 : Nat} {r : Reach} {sp : Nat → Bool} {held : Bool} {v : Value} {d : DataW H} {ps : List MemPlace} (hval : Value.okWide Tryd.prog W r b0 23 v) (hd : DataW.Trod enc Tryd.prog W base sp held 23 v d ps) :
    ∃ a : Ad, a.ok ∧ v = adV a := by
  obtain ⟨cs, rfl⟩ : ∃ cs, v = .agg cs := by
    have h := hval
    unfold Value.okWide at h
    rw [Tryd.underlying23] at h
    cases v <;> simp at h
    exact ⟨_, rfl⟩
  obtain ⟨fuel, hf⟩ := hd
  obtain ⟨a, ha, e⟩ := ad_of hf
  have e' : cs.toList = [.int .u8 (a.1 : Nat), .int .u8 (a.2.1 : Nat), .int .u8 (a.2.2.1 : Nat), .int .u8 (a.2.2.2 : Nat)] := e
  refine ⟨a, ha, ?_⟩
  unfold adV
  congr 1
  apply Array.ext'
  rw [e']
/-- A destination that came in. -/
def deV (a : Ad) (n : ByteArray) (p : Int) : Value := .agg #[.int .u8 (a.1 : Nat), .int .u8 (a.2.1 : Nat), .int .u8 (a.2.2.1 : Nat), .int .u8 (a.2.2.2 : Nat), .string n, .int .i64 p]
theorem open_de {H : Type} {enc : TypeId × Value → H} {W : World} {base b0 : Nat} {r : Reach} {sp : Nat → Bool} {held : Bool} {v : Value} {d : DataW H} {ps : List MemPlace} (hval : Value.okWide Tryd.prog W r b0 53 v) (hd : DataW.Trod enc Tryd.prog W base sp held 53 v d ps) :
    ∃ (a : Ad) (n : ByteArray) (p : Int), a.ok ∧ n.size ≤ maxLen ∧ (Lit.int .i64 p).wf = true ∧ v = deV a n p := by
  obtain ⟨cs, rfl⟩ : ∃ cs, v = .agg cs := by
    have h := hval
    unfold Value.okWide at h
    rw [Tryd.underlying53] at h
    cases v <;> simp at h
    exact ⟨_, rfl⟩
  obtain ⟨fuel, hf⟩ := hd
  have c53 : Tryd.prog.cellsOf 53 = 6 := by kernel_rfl
  have c40 : Tryd.prog.cellsOf 40 = 5 := by kernel_rfl
  have c23 : Tryd.prog.cellsOf 23 = 4 := by kernel_rfl
  have c9 : Tryd.prog.cellsOf 9 = 1 := by kernel_rfl
  have c3 : Tryd.prog.cellsOf 3 = 1 := by kernel_rfl
  obtain ⟨y0, y1, n, _, hl, h0, h1⟩ := trod_struct2 Tryd.underlying53 hf
  simp only [Value.cells] at hl h0 h1
  rw [c53] at hl
  obtain ⟨z0, z1, m, _, hl2, g0, g1⟩ := trod_struct2 Tryd.underlying40 h0
  obtain ⟨a, ha, ea⟩ := ad_of g0
  obtain ⟨s, es, _, hs⟩ := DataW.trod_string Tryd.underlying9 g1
  obtain ⟨p, ep, _, hp⟩ := DataW.trod_int Tryd.underlying3 h1
  obtain ⟨x0, x1, x2, x3, x4, x5, hcs⟩ : ∃ x0 x1 x2 x3 x4 x5, cs.toList = [x0, x1, x2, x3, x4, x5] := by
    generalize cs.toList = l at hl
    match l, hl with
    | [a, b, c, d, e, f], _ => exact ⟨a, b, c, d, e, f, rfl⟩
  rw [hcs] at ea es ep
  simp only [c40, c23, c9, c3, List.drop, List.take] at ea es ep
  refine ⟨a, s, p, ha, hs, hp, ?_⟩
  unfold deV
  congr 1
  apply Array.ext'
  rw [hcs]
  simp at ea es ep
  obtain ⟨rfl, rfl, rfl, rfl⟩ := ea
  subst es ep
  rfl
end Go.Proofs.YtfjglcihlkmpnaaDoor
