/-
  From the listed variables' data to what the walks ask of them, a heap that meets them, the frame that keeps the world's shape, and rules, destinations and lists of rules that came in; conditions as each theorem has them.
-/
import Derived.Test.YtiejandeoopiiaaGreatDoorWK
import Derived.ProofKit
import Derived.LaidMore
import Derived.OpenShut
import Derived.Stop.Joined
import Derived.Stop.LaidErr
import Derived.HandedShaped
import Derived.Lib.SmallJoins
import Derived.Lib.LaidTab
import Derived.Deep.Strs
import Derived.SliceStrings
import Derived.SizedLaws
import Derived.ChangeSame
set_option linter.unusedSimpArgs false
set_option linter.unusedVariables false
set_option linter.constructorNameAsVariable false
set_option maxRecDepth 100000
namespace Go.Proofs.YtiejandeoopiiaaGreatDoor
open Go.ChangeShapes Go.WideShapes Go.ChangeAt Go.RowKit

def laidL : List (String × DataW Unit) := [("math/bits.deBruijn32tab", Rows.laid_math_bits_deBruijn32tab), ("math/bits.deBruijn64tab", Rows.laid_math_bits_deBruijn64tab), ("internal/strconv.uint64pow10", Rows.laid_internal_strconv_uint64pow10), ("unicode/utf8.acceptRanges", Rows.laid_unicode_utf8_acceptRanges), ("strconv.ErrRange", Rows.laid_strconv_ErrRange), ("strconv.ErrSyntax", Rows.laid_strconv_ErrSyntax), ("unicode/utf8.first", Rows.laid_unicode_utf8_first)]
/-- A heap with the pinned table laid. -/
def pinW (w0 : World) : World :=
  { w0 with heap := w0.heap.modify 4 fun
      | .cells _ t frozen => .cells (Go.Pinned.utf8FirstZ.map fun (z : Nat) => Value.int .u8 (z : Int)).toArray t frozen
      | o => o }
set_option maxRecDepth 100000 in
theorem door_met (os : Os) (args : Array Value) : laidMetH Tryz.prog laidL ((pinW (World.doorLaid Tryz.prog 72 os)).forCall (fun _ _ => 0) ⟨#[], args, []⟩).memory :=
  laidMetH_of_parts3 (fuel := 8) (laidMet_of_run' 8 (by kernel_rfl) (by kernel_rfl)) (by kernel_rfl) (by kernel_rfl)
theorem vars_of {W : World} (hs : W.ShapedOpen Tryz.prog) : Vars W :=
  Go.Proofs.cell_of_shapedOpen_int (zero := #[.int .i64 0]) (t := 3) hs (of_decide_eq_true (by kernel_rfl)) (by kernel_rfl) rfl (by kernel_rfl) (by kernel_rfl) Tryz.underlying3
theorem star : "*" ++ "errors.errorString" = "*errors.errorString" := by decide
theorem rowES (u : TypeId) (h : Tryz.prog.typeName? 3 u = some "*errors.errorString") : u = 147 :=
  typeName_ptr_named (nm := "errors.errorString") (by rw [star]; kernel_rfl) (by kernel_rfl) (by decide) u (by rw [star]; exact h)
theorem laid_tail {x : String × DataW Unit} {xs : List (String × DataW Unit)} {W : World} (h : laidMet Tryz.prog (x :: xs) W) : laidMet Tryz.prog xs W := by
  obtain ⟨ps, ⟨g, t, cs, fuel, p, q, hg, ht, hv, hd, hr, e⟩, hn, hb⟩ := h
  subst e
  exact ⟨q, hr, (List.nodup_append.1 hn).2.1, fun b o hm => hb b o (List.mem_append_right _ hm)⟩
theorem gRange : Tryz.prog.globalNamed "strconv.ErrRange" = some 2 := by kernel_rfl
theorem gSynt : Tryz.prog.globalNamed "strconv.ErrSyntax" = some 1 := by kernel_rfl
set_option maxRecDepth 100000 in
theorem of_laid {W : World} (h : laidMetH Tryz.prog laidL W) (hs : W.ShapedOpen Tryz.prog) : Tabs W := by
  have h' : laidMet Tryz.prog [("math/bits.deBruijn32tab", Rows.laid_math_bits_deBruijn32tab), ("math/bits.deBruijn64tab", Rows.laid_math_bits_deBruijn64tab), ("internal/strconv.uint64pow10", Lib.tabData .u64 Lib.pow10Tab), ("unicode/utf8.acceptRanges", Rows.laid_unicode_utf8_acceptRanges), ("strconv.ErrRange", Rows.laid_strconv_ErrRange), ("strconv.ErrSyntax", Rows.laid_strconv_ErrSyntax), ("unicode/utf8.first", Rows.laid_unicode_utf8_first)] W := h
  refine ⟨vars_of hs, ?_, ?_, ?_⟩
  · exact Lib.tabIs_of_head (g := 3) (t := 140) (e := 124) (n := 20) (by kernel_rfl) (by kernel_rfl) (by kernel_rfl) (by kernel_rfl) (by kernel_rfl) (by kernel_rfl) (laid_tail (laid_tail h'))
  · obtain ⟨a0, s0, hv0, _⟩ := laid_sentinel (laid_tail (laid_tail (laid_tail (laid_tail (laid_tail h'))))) gSynt (by kernel_rfl) Tryz.underlying72 rowES Tryz.underlying147 Tryz.underlying149 rfl rfl Tryz.underlying9 (by kernel_rfl) (by kernel_rfl)
    exact ⟨_, by simpa using World.var?_cell gSynt hv0 0, Or.inr ⟨_, _, rfl⟩⟩
  · obtain ⟨a0, s0, hv0, _⟩ := laid_sentinel (laid_tail (laid_tail (laid_tail (laid_tail h')))) gRange (by kernel_rfl) Tryz.underlying72 rowES Tryz.underlying147 Tryz.underlying149 rfl rfl Tryz.underlying9 (by kernel_rfl) (by kernel_rfl)
    exact ⟨_, by simpa using World.var?_cell gRange hv0 0, Or.inr ⟨_, _, rfl⟩⟩

/-- The plain frame with a condition on the variables, the world's shape kept. -/
theorem lift_shaped {H : Type} {enc : TypeId × Value → H} {a : Assume} {C : Checked} {os : Os} {f : FuncId} {fn : Func} {s : ChangeSpec} {conds : List PathCond} {apart fresh handsOn again : Bool} {X : World → Array Value → Prop}
    (hX : ∀ (w w' : World) (args : Array Value), w.heap = w'.heap → X w args → X w' args)
    (own : ownKnob C.prog.godebug = none) (started : os.Started) (noInit : C.prog.inits.idxOf? f = none) (hfn : C.prog.funcs[f]? = some fn)
    (witness : ∃ (w : World) (tape : Tape) (i : Input), w.os = os ∧ (w.forCall tape i).Shaped C.prog ∧ i.vars = [] ∧ Input.okWide C.prog (w.forCall tape i) .any w.heap.size f i ∧
      ((s.pre enc C.prog fn conds apart (w.forCall tape i).memory i.args ∧ X (w.forCall tape i).memory i.args) ∧ sizedMet enc C.prog fn (OpenSpec.ofChange s) apart (w.forCall tape i).memory i.args) ∧ a.holds C.prog (lone (Frame.enter C.prog f i.args .normal) [] (w.forCall tape i)))
    (contract : ∀ (W : World) (base : Nat) (args : Array Value) (ds gs : List (DataW H)) (before : List MemPlace),
      (∀ (j : Nat) t v, fn.params[j]? = some t → args[j]? = some v → Value.okWide C.prog W .any base t v) →
      DataW.Whole enc C.prog fn.params.toList s.vars apart W args.toList ds gs before →
      (DataW.weightsEach C.prog (fn.params.toList ++ s.plain.varTypes C.prog) (ds ++ gs)).all (· ≤ reachBytes) = true → X W args → W.ShapedOpen C.prog →
      Calls C.prog f args W fun e W' => ∃ v, e = .returned v ∧ s.post enc C.prog fn apart fresh handsOn again W args v W') :
    ReturnsInHanded a C os f .any (fun w args => (s.pre enc C.prog fn conds apart w args ∧ X w args) ∧ sizedMet enc C.prog fn (OpenSpec.ofChange s) apart w args) (s.post enc C.prog fn apart fresh handsOn again) := by
  refine returnsInHanded_of_calls own started noInit witness ?_
  intro w tape i _ hsh _ hok hpre hholds
  obtain ⟨_, _, _, fn', hfn', _, _, _, _, hval⟩ := hok
  have e : fn' = fn := Option.some.inj (hfn'.symm.trans hfn)
  subst e
  obtain ⟨⟨⟨ds, gs, before, hw, hc⟩, hx⟩, hz⟩ := hpre
  have hw' := DataW.Whole.of_heap (w' := w.forCall tape i) (by rfl) hw
  refine (contract (w.forCall tape i) w.heap.size i.args ds gs before hval hw' (hz.weights hw) (hX _ _ _ (by rfl) hx) hsh).mono fun e W' ⟨v, he, hp⟩ => ?_
  subst he
  exact ChangeSpec.post_blind hp

theorem byte_of {n : Int} (h : (Lit.int .u8 n).wf = true) : ∃ k : Nat, k < 256 ∧ n = k := by
  have hb := bounds_u8 h
  exact ⟨n.toNat, by omega, by omega⟩
theorem one_cell {c : Value} {l : List Value} (h : [c] = l) {v : Value} (hl : l = [v]) : c = v := by rw [hl] at h; simpa using h
theorem ad_of {H : Type} {enc : TypeId × Value → H} {W : World} {base : Nat} {sp : Nat → Bool} {held : Bool} {fuel : Nat} {cs : List Value} {x : DataW H × List MemPlace} (h : DataW.trod enc Tryz.prog W base sp held fuel 24 cs = some x) :
    ∃ a : Ad, a.ok ∧ cs = [.int .u8 (a.1 : Nat), .int .u8 (a.2.1 : Nat), .int .u8 (a.2.2.1 : Nat), .int .u8 (a.2.2.2 : Nat)] := by
  obtain ⟨y0, y1, y2, y3, n, _, hl, h0, h1, h2, h3⟩ := Go.Joins.trod_struct4 Tryz.underlying24 h
  have c23 : Tryz.prog.cellsOf 24 = 4 := by kernel_rfl
  have c5 : Tryz.prog.cellsOf 5 = 1 := by kernel_rfl
  rw [c23] at hl
  obtain ⟨c0, c1, c2, c3, rfl⟩ : ∃ c0 c1 c2 c3, cs = [c0, c1, c2, c3] := by
    match cs, hl with
    | [a, b, c, d], _ => exact ⟨a, b, c, d, rfl⟩
  simp only [c5] at h0 h1 h2 h3
  obtain ⟨n0, e0, _, w0⟩ := DataW.trod_int Tryz.underlying5 h0
  obtain ⟨n1, e1, _, w1⟩ := DataW.trod_int Tryz.underlying5 h1
  obtain ⟨n2, e2, _, w2⟩ := DataW.trod_int Tryz.underlying5 h2
  obtain ⟨n3, e3, _, w3⟩ := DataW.trod_int Tryz.underlying5 h3
  obtain ⟨k0, l0, rfl⟩ := byte_of w0
  obtain ⟨k1, l1, rfl⟩ := byte_of w1
  obtain ⟨k2, l2, rfl⟩ := byte_of w2
  obtain ⟨k3, l3, rfl⟩ := byte_of w3
  have f0 : c0 = .int .u8 (k0 : Nat) := one_cell rfl e0
  have f1 : c1 = .int .u8 (k1 : Nat) := one_cell rfl e1
  have f2 : c2 = .int .u8 (k2 : Nat) := one_cell rfl e2
  have f3 : c3 = .int .u8 (k3 : Nat) := one_cell rfl e3
  exact ⟨(k0, k1, k2, k3), ⟨l0, l1, l2, l3⟩, by rw [f0, f1, f2, f3]⟩
/-- An address that came in. -/
theorem open_ad {H : Type} {enc : TypeId × Value → H} {W : World} {base b0 : Nat} {r : Reach} {sp : Nat → Bool} {held : Bool} {v : Value} {d : DataW H} {ps : List MemPlace} (hval : Value.okWide Tryz.prog W r b0 24 v) (hd : DataW.Trod enc Tryz.prog W base sp held 24 v d ps) :
    ∃ a : Ad, a.ok ∧ v = adV a := by
  obtain ⟨cs, rfl⟩ : ∃ cs, v = .agg cs := by
    have h := hval
    unfold Value.okWide at h
    rw [Tryz.underlying24] at h
    cases v <;> simp at h
    exact ⟨_, rfl⟩
  obtain ⟨fuel, hf⟩ := hd
  obtain ⟨a, ha, e⟩ := ad_of hf
  have e' : cs.toList = [.int .u8 (a.1 : Nat), .int .u8 (a.2.1 : Nat), .int .u8 (a.2.2.1 : Nat), .int .u8 (a.2.2.2 : Nat)] := e
  refine ⟨a, ha, ?_⟩
  unfold adV
  congr 1
  apply Array.ext'
  rw [e']
theorem open_de {H : Type} {enc : TypeId × Value → H} {W : World} {base b0 : Nat} {r : Reach} {sp : Nat → Bool} {held : Bool} {v : Value} {d : DataW H} {ps : List MemPlace} (hval : Value.okWide Tryz.prog W r b0 28 v) (hd : DataW.Trod enc Tryz.prog W base sp held 28 v d ps) :
    ∃ (a : Ad) (n : ByteArray) (p : Int), a.ok ∧ n.size ≤ maxLen ∧ (Lit.int .i64 p).wf = true ∧ v = deV a n p := by
  obtain ⟨cs, rfl⟩ : ∃ cs, v = .agg cs := by
    have h := hval
    unfold Value.okWide at h
    rw [Tryz.underlying28] at h
    cases v <;> simp at h
    exact ⟨_, rfl⟩
  obtain ⟨fuel, hf⟩ := hd
  have c53 : Tryz.prog.cellsOf 28 = 6 := by kernel_rfl
  have c40 : Tryz.prog.cellsOf 26 = 5 := by kernel_rfl
  have c23 : Tryz.prog.cellsOf 24 = 4 := by kernel_rfl
  have c9 : Tryz.prog.cellsOf 9 = 1 := by kernel_rfl
  have c3 : Tryz.prog.cellsOf 3 = 1 := by kernel_rfl
  obtain ⟨y0, y1, n, _, hl, h0, h1⟩ := trod_struct2 Tryz.underlying28 hf
  simp only [Value.cells] at hl h0 h1
  rw [c53] at hl
  obtain ⟨z0, z1, m, _, hl2, g0, g1⟩ := trod_struct2 Tryz.underlying26 h0
  obtain ⟨a, ha, ea⟩ := ad_of g0
  obtain ⟨s, es, _, hs⟩ := DataW.trod_string Tryz.underlying9 g1
  obtain ⟨p, ep, _, hp⟩ := DataW.trod_int Tryz.underlying3 h1
  obtain ⟨x0, x1, x2, x3, x4, x5, hcs⟩ : ∃ x0 x1 x2 x3 x4 x5, cs.toList = [x0, x1, x2, x3, x4, x5] := by
    generalize cs.toList = l at hl
    match l, hl with
    | [a, b, c, d, e, f], _ => exact ⟨a, b, c, d, e, f, rfl⟩
  rw [hcs] at ea es ep
  simp only [c40, c23, c9, c3, List.drop, List.take] at ea es ep
  refine ⟨a, s, p, ha, hs, hp, ?_⟩
  unfold deV
  congr 1
  apply Array.ext'
  rw [hcs]
  simp at ea es ep
  obtain ⟨rfl, rfl, rfl, rfl⟩ := ea
  subst es ep
  rfl

/-- A rule that came in. -/
theorem trod_struct6 {H : Type} {enc : TypeId × Value → H} {P : Program} {w : World} {base : Nat} {spare : Nat → Bool} {held : Bool} {t : TypeId} {f0 f1 f2 f3 f4 f5 : Field} {fuel : Nat} {cs : List Value} {x : DataW H × List MemPlace} (ht : P.underlying t = some (.struct #[f0, f1, f2, f3, f4, f5])) (h : DataW.trod enc P w base spare held fuel t cs = some x) :
    ∃ y0 y1 y2 y3 y4 y5 n, cs.length = P.cellsOf t ∧ DataW.trod enc P w base spare held n f0.type ((cs.drop f0.offset).take (P.cellsOf f0.type)) = some y0 ∧
      DataW.trod enc P w base spare held n f1.type ((cs.drop f1.offset).take (P.cellsOf f1.type)) = some y1 ∧ DataW.trod enc P w base spare held n f2.type ((cs.drop f2.offset).take (P.cellsOf f2.type)) = some y2 ∧
      DataW.trod enc P w base spare held n f3.type ((cs.drop f3.offset).take (P.cellsOf f3.type)) = some y3 ∧ DataW.trod enc P w base spare held n f4.type ((cs.drop f4.offset).take (P.cellsOf f4.type)) = some y4 ∧ DataW.trod enc P w base spare held n f5.type ((cs.drop f5.offset).take (P.cellsOf f5.type)) = some y5 := by
  obtain ⟨xs, n, _, rfl, hl, hlen, hf⟩ := DataW.trod_struct ht h
  match xs, hlen with
  | [y0, y1, y2, y3, y4, y5], _ => exact ⟨y0, y1, y2, y3, y4, y5, n, hl, by simpa using hf 0 f0 rfl, by simpa using hf 1 f1 rfl, by simpa using hf 2 f2 rfl, by simpa using hf 3 f3 rfl, by simpa using hf 4 f4 rfl, by simpa using hf 5 f5 rfl⟩
theorem ru_of {H : Type} {enc : TypeId × Value → H} {W : World} {base : Nat} {sp : Nat → Bool} {held : Bool} {fuel : Nat} {cs : List Value} {x : DataW H × List MemPlace} (h : DataW.trod enc Tryz.prog W base sp held fuel 37 cs = some x) :
    ∃ r : Ru, r.ok ∧ cs = ruC r := by
  obtain ⟨y0, y1, y2, y3, y4, y5, n, hl, h0, h1, h2, h3, h4, h5⟩ := trod_struct6 Tryz.underlying37 h
  have cR : Tryz.prog.cellsOf 37 = 9 := by kernel_rfl
  have cA : Tryz.prog.cellsOf 24 = 4 := by kernel_rfl
  have c9 : Tryz.prog.cellsOf 9 = 1 := by kernel_rfl
  have c3 : Tryz.prog.cellsOf 3 = 1 := by kernel_rfl
  have c4 : Tryz.prog.cellsOf 4 = 1 := by kernel_rfl
  rw [cR] at hl
  obtain ⟨x0, x1, x2, x3, x4, x5, x6, x7, x8, rfl⟩ : ∃ x0 x1 x2 x3 x4 x5 x6 x7 x8, cs = [x0, x1, x2, x3, x4, x5, x6, x7, x8] := by
    match cs, hl with
    | [a, b, c, d, e, f, g, h, i], _ => exact ⟨a, b, c, d, e, f, g, h, i, rfl⟩
  obtain ⟨al, ea, _⟩ := DataW.trod_bool Tryz.underlying4 h0
  obtain ⟨a, ha, en⟩ := ad_of h1
  obtain ⟨bt, eb, _, hb⟩ := DataW.trod_int Tryz.underlying3 h2
  obtain ⟨sf, es, _, hs⟩ := DataW.trod_string Tryz.underlying9 h3
  obtain ⟨lw, el, _, hlw⟩ := DataW.trod_int Tryz.underlying3 h4
  obtain ⟨hg, eg, _, hhg⟩ := DataW.trod_int Tryz.underlying3 h5
  simp only [cA, c9, c3, c4, List.drop, List.take] at ea en eb es el eg
  refine ⟨⟨al, a, bt, sf, lw, hg⟩, ⟨ha, hs, bounds_i64 hb, bounds_i64 hlw, bounds_i64 hhg⟩, ?_⟩
  simp at ea en eb es el eg
  obtain ⟨rfl, rfl, rfl, rfl⟩ := en
  subst ea eb es el eg
  rfl
theorem open_ru {H : Type} {enc : TypeId × Value → H} {W : World} {base b0 : Nat} {r : Reach} {sp : Nat → Bool} {held : Bool} {v : Value} {d : DataW H} {ps : List MemPlace} (hval : Value.okWide Tryz.prog W r b0 37 v) (hd : DataW.Trod enc Tryz.prog W base sp held 37 v d ps) :
    ∃ r : Ru, r.ok ∧ v = .agg (ruC r).toArray := by
  obtain ⟨cs, rfl⟩ : ∃ cs, v = .agg cs := by
    have h := hval
    unfold Value.okWide at h
    rw [Tryz.underlying37] at h
    cases v <;> simp at h
    exact ⟨_, rfl⟩
  obtain ⟨fuel, hf⟩ := hd
  obtain ⟨r, hr, e⟩ := ru_of hf
  have e' : cs.toList = ruC r := e
  refine ⟨r, hr, ?_⟩
  congr 1
  apply Array.ext'
  rw [e']
theorem byRu : Tryz.prog.bytesOf 37 = 48 := by kernel_rfl
/-- Rules that came in. -/
theorem open_rus {H : Type} {enc : TypeId × Value → H} {W : World} {base : Nat} {sp : Nat → Bool} {held : Bool} {fuel : Nat} {a : Option Addr} {n c : Nat} {d : DataW H} {ps : List MemPlace} (hf : DataW.trod enc Tryz.prog W base sp held fuel 22 [.slice a n c] = some (d, ps))
    (hw : ∀ k ∈ d.weights Tryz.prog 22, k ≤ reachBytes) : ∃ l, SrcR W a n c l ∧ n * 48 ≤ 140737488351232 := by
  rcases Deep.open_slice Tryz.underlying22 hf with ⟨hcs, _⟩ | ⟨x, l, c', m, nn, D, Pl, hcs, _, hl, hm, hmm, hx, hr⟩
  · simp at hcs
    obtain ⟨rfl, rfl, rfl⟩ := hcs
    exact ⟨[], SrcR.nilS W, by omega⟩
  · simp at hcs
    obtain ⟨rfl, rfl, rfl⟩ := hcs
    simp only [Prod.mk.injEq] at hx
    have hnm : n ≤ m := by rw [hmm]; split <;> omega
    have hwt := hw _ (show ((List.range n).map D).length * 48 + ((List.range (m - n)).map fun j => D (n + j)).length * 48 ∈ d.weights Tryz.prog 22 by rw [hx.1]; simp only [DataW.weights, Tryz.underlying22, byRu, List.mem_cons]; exact Or.inl (by rw [Nat.add_mul]))
    unfold reachBytes at hwt
    simp only [List.length_map, List.length_range] at hwt
    have cR : Tryz.prog.cellsOf 37 = 9 := by kernel_rfl
    have each : ∀ i, i < n → ∃ r : Ru, r.ok ∧ ∀ j, j < 9 → W.cell? (x.add (i * 9 + j)) = (ruC r)[j]? := fun i hi => by
      obtain ⟨cs, hc, ht⟩ := hr i (by omega)
      rw [cR] at hc
      obtain ⟨_, hcl, hce⟩ := World.cells?_some hc
      obtain ⟨r, hd, e⟩ := ru_of ht
      refine ⟨r, hd, fun j hj => ?_⟩
      have g := hce j (by omega)
      rw [Deep.add_add] at g
      rw [g, ← e]
    haveI : Inhabited Ru := ⟨noRu⟩
    obtain ⟨S, hS⟩ := Deep.choose_lt each
    have hgd : ∀ i, i < n → ((List.range n).map fun i => S i).getD i noRu = S i := fun i hi => by simp [List.getD, hi]
    refine ⟨(List.range n).map fun i => S i, ⟨by simp, hl, hm, (by intro e; cases e), fun h0 => ?_, ?_⟩, by omega⟩
    · obtain ⟨b, o, s⟩ := x
      have h00 := (hS 0 h0).2 0 (by omega)
      have h01 : W.cell? ((⟨b, o, s⟩ : Addr).add (0 * 9 + 0)) = some (.bool (S 0).al) := h00
      have hsp : s = none := by simpa [Addr.add] using World.cell?_spot h01
      subst hsp
      refine ⟨b, o, rfl, by simpa [Addr.add] using lt_of_cell h01, fun j u hu => ?_⟩
      have hj := (List.getElem?_eq_some_iff.1 hu).1
      rw [ruCs_len] at hj
      simp only [List.length_map, List.length_range] at hj
      obtain ⟨i, k, hk, rfl⟩ : ∃ i k, k < 9 ∧ j = i * 9 + k := ⟨j / 9, j % 9, by omega, by omega⟩
      have hin : i < n := by omega
      rw [ruCs_get _ i k (by simpa using hin) hk, hgd i hin] at hu
      have := (hS i hin).2 k hk
      rw [add_none] at this
      rw [this]
      exact hu
    · intro f hf
      obtain ⟨i, hi, rfl⟩ := List.mem_map.1 hf
      exact (hS i (List.mem_range.1 hi)).1
theorem rules_of {H : Type} {enc : TypeId × Value → H} {W : World} {base : Nat} {sp : Nat → Bool} {held : Bool} {fuel : Nat} {v : Value} {x : DataW H × List MemPlace} (hf : DataW.trod enc Tryz.prog W base sp held fuel 22 [v] = some x) : ∃ a n c, v = .slice a n c := by
  rcases Deep.open_slice Tryz.underlying22 hf with ⟨hcs, _⟩ | ⟨x, l, c', m, nn, D, Pl, hcs, _⟩
  · simp at hcs; exact ⟨_, _, _, hcs⟩
  · simp at hcs; exact ⟨_, _, _, hcs⟩
end Go.Proofs.YtiejandeoopiiaaGreatDoor
