/-
  From the listed variables' data to what the walks ask of them, a heap that meets them, the frame that keeps the world's shape, and fields, lists of fields and requests that came in; conditions as each theorem has them.
-/
import Derived.Test.YtffjhhacegnhmaaGreatDoorWK
import Derived.Test.YtffjhhacegnhmaaGreatDoorV
import Derived.ProofKit
import Derived.LaidMore
import Derived.LaidHandle
import Derived.OpenShut
import Derived.Stop.Joined
import Derived.HandedShaped
import Derived.Lib.SmallJoins
import Derived.SizedLaws
import Derived.Stop.LaidErr
import Derived.Lib.LaidTab
import Derived.Deep.Strs
import Derived.ChangeSame
set_option linter.unusedSimpArgs false
set_option linter.unusedVariables false
set_option linter.constructorNameAsVariable false
set_option maxRecDepth 100000
namespace Go.Proofs.YtffjhhacegnhmaaGreatDoor
open Go.ChangeShapes Go.WideShapes Go.ChangeAt Go.RowKit

def laidL : List (String × DataW Unit) := [("unicode/utf8.acceptRanges", Rows.laid_unicode_utf8_acceptRanges), ("unicode/utf8.first", Rows.laid_unicode_utf8_first)]
/-- A heap with the pinned table laid. -/
def pinW (w0 : World) : World :=
  { w0 with heap := w0.heap.modify 1 fun
      | .cells _ t frozen => .cells (Go.Pinned.utf8FirstZ.map fun (z : Nat) => Value.int .u8 (z : Int)).toArray t frozen
      | o => o }
set_option maxRecDepth 100000 in
theorem door_met (os : Os) (args : Array Value) : laidMetH Tryz.prog laidL ((pinW (World.doorLaid Tryz.prog 34 os)).forCall (fun _ _ => 0) ⟨#[], args, []⟩).memory :=
  laidMetH_of_parts3 (fuel := 8) (laidMet_of_run' 8 (by kernel_rfl) (by kernel_rfl)) (by kernel_rfl) (by kernel_rfl)
theorem vars_of {W : World} (hs : W.ShapedOpen Tryz.prog) : Vars W :=
  Go.Proofs.cell_of_shapedOpen_int (zero := #[.int .i64 0]) (t := 3) hs (of_decide_eq_true (by kernel_rfl)) (by kernel_rfl) rfl (by kernel_rfl) (by kernel_rfl) Tryz.underlying3
def laidL2 : List (String × DataW Unit) := [("math/bits.deBruijn32tab", Rows.laid_math_bits_deBruijn32tab), ("math/bits.deBruijn64tab", Rows.laid_math_bits_deBruijn64tab), ("internal/strconv.uint64pow10", Rows.laid_internal_strconv_uint64pow10), ("unicode/utf8.acceptRanges", Rows.laid_unicode_utf8_acceptRanges), ("unicode/utf8.first", Rows.laid_unicode_utf8_first)]
set_option maxRecDepth 100000 in
theorem door_met2 (os : Os) (args : Array Value) : laidMetH Tryz.prog laidL2 ((pinW (World.doorLaid Tryz.prog 34 os)).forCall (fun _ _ => 0) ⟨#[], args, []⟩).memory :=
  laidMetH_of_parts3 (fuel := 8) (laidMet_of_run' 8 (by kernel_rfl) (by kernel_rfl)) (by kernel_rfl) (by kernel_rfl)
/-- The plain frame with a condition on the variables, the world's shape kept. -/
theorem lift_shaped {H : Type} {enc : TypeId × Value → H} {a : Assume} {C : Checked} {os : Os} {f : FuncId} {fn : Func} {s : ChangeSpec} {conds : List PathCond} {apart fresh handsOn again : Bool} {X : World → Array Value → Prop}
    (hX : ∀ (w w' : World) (args : Array Value), w.heap = w'.heap → X w args → X w' args)
    (own : ownKnob C.prog.godebug = none) (started : os.Started) (noInit : C.prog.inits.idxOf? f = none) (hfn : C.prog.funcs[f]? = some fn)
    (witness : ∃ (w : World) (tape : Tape) (i : Input), w.os = os ∧ (w.forCall tape i).Shaped C.prog ∧ i.vars = [] ∧ Input.okWide C.prog (w.forCall tape i) .any w.heap.size f i ∧
      ((s.pre enc C.prog fn conds apart (w.forCall tape i).memory i.args ∧ X (w.forCall tape i).memory i.args) ∧ sizedMet enc C.prog fn (OpenSpec.ofChange s) apart (w.forCall tape i).memory i.args) ∧ a.holds C.prog (Go.lone (Frame.enter C.prog f i.args .normal) [] (w.forCall tape i)))
    (contract : ∀ (W : World) (base : Nat) (args : Array Value) (ds gs : List (DataW H)) (before : List MemPlace),
      (∀ (j : Nat) t v, fn.params[j]? = some t → args[j]? = some v → Value.okWide C.prog W .any base t v) →
      DataW.Whole enc C.prog fn.params.toList s.vars apart W args.toList ds gs before →
      (DataW.weightsEach C.prog (fn.params.toList ++ s.plain.varTypes C.prog) (ds ++ gs)).all (· ≤ reachBytes) = true → X W args → W.ShapedOpen C.prog →
      Calls C.prog f args W fun e W' => ∃ v, e = .returned v ∧ s.post enc C.prog fn apart fresh handsOn again W args v W') :
    ReturnsInHanded a C os f .any (fun w args => (s.pre enc C.prog fn conds apart w args ∧ X w args) ∧ sizedMet enc C.prog fn (OpenSpec.ofChange s) apart w args) (s.post enc C.prog fn apart fresh handsOn again) := by
  refine returnsInHanded_of_calls own started noInit witness ?_
  intro w tape i _ hsh _ hok hpre hholds
  obtain ⟨_, _, _, fn', hfn', _, _, _, _, hval⟩ := hok
  have e : fn' = fn := Option.some.inj (hfn'.symm.trans hfn)
  subst e
  obtain ⟨⟨⟨ds, gs, before, hw, hc⟩, hx⟩, hz⟩ := hpre
  have hw' := DataW.Whole.of_heap (w' := w.forCall tape i) (by rfl) hw
  refine (contract (w.forCall tape i) w.heap.size i.args ds gs before hval hw' (hz.weights hw) (hX _ _ _ (by rfl) hx) hsh).mono fun e W' ⟨v, he, hp⟩ => ?_
  subst he
  exact ChangeSpec.post_blind hp
theorem byte_of {n : Int} (h : (Lit.int .u8 n).wf = true) : ∃ k : Nat, k < 256 ∧ n = k := by
  have hb := bounds_u8 h
  exact ⟨n.toNat, by omega, by omega⟩
theorem one_cell {c : Value} {l : List Value} (h : [c] = l) {v : Value} (hl : l = [v]) : c = v := by rw [hl] at h; simpa using h
theorem ad_of {H : Type} {enc : TypeId × Value → H} {W : World} {base : Nat} {sp : Nat → Bool} {held : Bool} {fuel : Nat} {cs : List Value} {x : DataW H × List MemPlace} (h : DataW.trod enc Tryz.prog W base sp held fuel 24 cs = some x) :
    ∃ a : Ad, a.ok ∧ cs = [.int .u8 (a.1 : Nat), .int .u8 (a.2.1 : Nat), .int .u8 (a.2.2.1 : Nat), .int .u8 (a.2.2.2 : Nat)] := by
  obtain ⟨y0, y1, y2, y3, n, _, hl, h0, h1, h2, h3⟩ := Go.Joins.trod_struct4 Tryz.underlying24 h
  have c37 : Tryz.prog.cellsOf 24 = 4 := by kernel_rfl
  have c5 : Tryz.prog.cellsOf 5 = 1 := by kernel_rfl
  rw [c37] at hl
  obtain ⟨c0, c1, c2, c3, rfl⟩ : ∃ c0 c1 c2 c3, cs = [c0, c1, c2, c3] := by
    match cs, hl with
    | [a, b, c, d], _ => exact ⟨a, b, c, d, rfl⟩
  simp only [c5] at h0 h1 h2 h3
  obtain ⟨n0, e0, _, w0⟩ := DataW.trod_int Tryz.underlying5 h0
  obtain ⟨n1, e1, _, w1⟩ := DataW.trod_int Tryz.underlying5 h1
  obtain ⟨n2, e2, _, w2⟩ := DataW.trod_int Tryz.underlying5 h2
  obtain ⟨n3, e3, _, w3⟩ := DataW.trod_int Tryz.underlying5 h3
  obtain ⟨k0, l0, rfl⟩ := byte_of w0
  obtain ⟨k1, l1, rfl⟩ := byte_of w1
  obtain ⟨k2, l2, rfl⟩ := byte_of w2
  obtain ⟨k3, l3, rfl⟩ := byte_of w3
  have f0 : c0 = .int .u8 (k0 : Nat) := one_cell rfl e0
  have f1 : c1 = .int .u8 (k1 : Nat) := one_cell rfl e1
  have f2 : c2 = .int .u8 (k2 : Nat) := one_cell rfl e2
  have f3 : c3 = .int .u8 (k3 : Nat) := one_cell rfl e3
  exact ⟨(k0, k1, k2, k3), ⟨l0, l1, l2, l3⟩, by rw [f0, f1, f2, f3]⟩
theorem laid_tail {x : String × DataW Unit} {xs : List (String × DataW Unit)} {W : World} (h : laidMet Tryz.prog (x :: xs) W) : laidMet Tryz.prog xs W := by
  obtain ⟨ps, ⟨g, t, cs, fuel, p, q, hg, ht, hv, hd, hr, e⟩, hn, hb⟩ := h
  subst e
  exact ⟨q, hr, (List.nodup_append.1 hn).2.1, fun b o hm => hb b o (List.mem_append_right _ hm)⟩
theorem bulk_one {H : Type} (d : DataW H) : 1 ≤ Rows.uptoBulk d := by
  cases d with
  | lit l => cases l <;> simp [Rows.uptoBulk]
  | nil => simp [Rows.uptoBulk]
  | ptr d => simp [Rows.uptoBulk]
  | slice elems spare => simp [Rows.uptoBulk]
  | agg parts => simp [Rows.uptoBulk]
  | iface t d => simp [Rows.uptoBulk]
  | map entries => simp [Rows.uptoBulk]
  | held h => simp [Rows.uptoBulk]
theorem bulk_len {H : Type} (l : List (DataW H)) : l.length ≤ Rows.uptoBulkAll l := by
  induction l with
  | nil => simp [Rows.uptoBulkAll]
  | cons x r ih => have := bulk_one x; simp only [Rows.uptoBulkAll, List.length_cons]; omega
theorem c76 : Tryz.prog.cellsOf 43 = 2 := by kernel_rfl
theorem c9 : Tryz.prog.cellsOf 9 = 1 := by kernel_rfl
theorem c3 : Tryz.prog.cellsOf 3 = 1 := by kernel_rfl
theorem c42 : Tryz.prog.cellsOf 22 = 1 := by kernel_rfl
theorem c41 : Tryz.prog.cellsOf 28 = 6 := by kernel_rfl
theorem c44 : Tryz.prog.cellsOf 30 = 9 := by kernel_rfl
theorem by76 : Tryz.prog.bytesOf 43 = 32 := by kernel_rfl
theorem str_open {H : Type} {enc : TypeId × Value → H} {W : World} {base : Nat} {sp : Nat → Bool} {held : Bool} {fuel : Nat} {c : Value} {x : DataW H × List MemPlace} (h : DataW.trod enc Tryz.prog W base sp held fuel 9 [c] = some x) : ∃ s : ByteArray, c = .string s ∧ s.size ≤ maxLen ∧ x.1 = .lit (.string s.data.toList) := by
  obtain ⟨s, e, hx, hs⟩ := DataW.trod_string Tryz.underlying9 h
  simp at e
  exact ⟨s, e, hs, by rw [hx]⟩
theorem fld_open {H : Type} {enc : TypeId × Value → H} {W : World} {base : Nat} {sp : Nat → Bool} {held : Bool} {fuel : Nat} {cs : List Value} {x : DataW H × List MemPlace} (h : DataW.trod enc Tryz.prog W base sp held fuel 43 cs = some x) :
    ∃ s t : ByteArray, cs = [.string s, .string t] ∧ (s.size ≤ maxLen ∧ t.size ≤ maxLen) ∧ x.1.weights Tryz.prog 43 = [s.size, t.size] ∧ x.1 = .agg [.lit (.string s.data.toList), .lit (.string t.data.toList)] := by
  obtain ⟨y0, y1, m, hx, hl, h0, h1⟩ := trod_struct2 Tryz.underlying43 h
  rw [c76] at hl
  obtain ⟨u0, u1, rfl⟩ : ∃ a b, cs = [a, b] := by
    match cs, hl with
    | [a, b], _ => exact ⟨a, b, rfl⟩
  have g0 : DataW.trod enc Tryz.prog W base sp held m 9 [u0] = some y0 := by simpa [c9] using h0
  have g1 : DataW.trod enc Tryz.prog W base sp held m 9 [u1] = some y1 := by simpa [c9] using h1
  obtain ⟨s, rfl, hs, e0⟩ := str_open g0
  obtain ⟨t, rfl, ht, e1⟩ := str_open g1
  refine ⟨s, t, rfl, ⟨hs, ht⟩, ?_, by rw [hx, e0, e1]⟩
  rw [hx, e0, e1]
  simp only [DataW.weights, Tryz.underlying43, DataW.weightsEach, List.map_cons, List.map_nil, List.cons_append, List.nil_append, List.append_nil, Array.length_toList]
  rfl
/-- Fields that came in, none too long. -/
def Short (fs : List Fd) : Prop := ∀ f ∈ fs, f.1.length ≤ 140737488351232 ∧ f.2.length ≤ 140737488351232
theorem weightsAll_mem {H : Type} {P : Program} {e : TypeId} : ∀ {l : List (DataW H)} {d : DataW H}, d ∈ l → ∀ n ∈ d.weights P e, n ∈ DataW.weightsAll P e l
  | x :: r, d, h, n, hn => by
    simp only [DataW.weightsAll, List.mem_append]
    rcases List.mem_cons.1 h with rfl | h
    · exact Or.inl hn
    · exact Or.inr (weightsAll_mem h n hn)
theorem open_flds {H : Type} {enc : TypeId × Value → H} {W : World} {base : Nat} {sp : Nat → Bool} {held : Bool} {fuel : Nat} {a : Option Addr} {n c : Nat} {d : DataW H} {ps : List MemPlace} (hf : DataW.trod enc Tryz.prog W base sp held fuel 22 [.slice a n c] = some (d, ps))
    (hw : ∀ k ∈ d.weights Tryz.prog 22, k ≤ reachBytes) : ∃ fs, SrcF W a n c fs ∧ Short fs ∧ n * 32 ≤ 140737488351232 ∧ (fs.map fun f => f.1.length + f.2.length + 3).sum ≤ Rows.uptoBulk d := by
  rcases Deep.open_slice Tryz.underlying22 hf with ⟨hcs, _⟩ | ⟨x, l, c', m, nn, D, Pl, hcs, _, hl, hm, hmm, hx, hr⟩
  · simp at hcs
    obtain ⟨rfl, rfl, rfl⟩ := hcs
    exact ⟨[], SrcF.nilS W, (fun f hf => by simp at hf), by omega, by simp⟩
  · simp at hcs
    obtain ⟨rfl, rfl, rfl⟩ := hcs
    simp only [Prod.mk.injEq] at hx
    have hnm : n ≤ m := by rw [hmm]; split <;> omega
    have hwt := hw _ (show ((List.range n).map D).length * 32 + ((List.range (m - n)).map fun j => D (n + j)).length * 32 ∈ d.weights Tryz.prog 22 by rw [hx.1]; simp only [DataW.weights, Tryz.underlying22, by76, List.mem_cons]; exact Or.inl (by rw [Nat.add_mul]))
    unfold reachBytes at hwt
    simp only [List.length_map, List.length_range] at hwt
    have each : ∀ i, i < n → ∃ st : ByteArray × ByteArray, W.cell? (x.add (2 * i)) = some (.string st.1) ∧ W.cell? (x.add (2 * i + 1)) = some (.string st.2) ∧ st.1.size ≤ 140737488351232 ∧ st.2.size ≤ 140737488351232 ∧ D i = .agg [.lit (.string st.1.data.toList), .lit (.string st.2.data.toList)] := fun i hi => by
      obtain ⟨cs, hc, ht⟩ := hr i (by omega)
      rw [c76] at hc
      obtain ⟨_, hcl, hce⟩ := World.cells?_some hc
      obtain ⟨s, t, rfl, ⟨hs, ht'⟩, hwe, hDi⟩ := fld_open ht
      have hme : D i ∈ (List.range n).map D := List.mem_map.2 ⟨i, List.mem_range.2 hi, rfl⟩
      have hin : ∀ k ∈ (D i).weights Tryz.prog 43, k ≤ reachBytes := fun k hk => hw k (by rw [hx.1]; simp only [DataW.weights, Tryz.underlying22, List.mem_cons, List.mem_append]; exact Or.inr (Or.inl (weightsAll_mem hme k hk)))
      rw [hwe] at hin
      have w1 := hin s.size (by simp)
      have w2 := hin t.size (by simp)
      unfold reachBytes at w1 w2
      have g0 := hce 0 (by omega)
      have g1 := hce 1 (by omega)
      rw [Deep.add_add] at g0 g1
      refine ⟨(s, t), ?_, ?_, w1, w2, hDi⟩
      · rw [Nat.mul_comm]; simpa using g0
      · rw [Nat.mul_comm]; simpa using g1
    obtain ⟨S, hS⟩ := Deep.choose_lt each
    have hgd : ∀ i, i < n → ((List.range n).map fun i => (byt (S i).1, byt (S i).2)).getD i ([], []) = (byt (S i).1, byt (S i).2) := fun i hi => by simp [List.getD, hi]
    refine ⟨(List.range n).map fun i => (byt (S i).1, byt (S i).2), ⟨by simp, hl, hm, (by intro e; cases e), fun h0 => ?_, ?_⟩, ?_, by omega, ?_⟩
    · obtain ⟨b, o, s⟩ := x
      have h00 := (hS 0 h0).1
      have hsp : s = none := by simpa [Addr.add] using World.cell?_spot h00
      subst hsp
      refine ⟨b, o, rfl, by simpa [Addr.add] using lt_of_cell h00, fun j u hu => ?_⟩
      have hj := (List.getElem?_eq_some_iff.1 hu).1
      rw [fcs_len] at hj
      simp only [List.length_map, List.length_range] at hj
      obtain ⟨i, hi | hi⟩ : ∃ i, j = 2 * i ∨ j = 2 * i + 1 := ⟨j / 2, by omega⟩
      · have hin : i < n := by omega
        obtain ⟨q1, q2⟩ := fcs_get ((List.range n).map fun i => (byt (S i).1, byt (S i).2)) i (by simpa using hin)
        have r1 := (hS i hin).1
        rw [add_none] at r1
        rw [hi] at hu ⊢
        rw [q1, hgd i hin, strN_byt] at hu
        rw [r1]; exact hu
      · have hin : i < n := by omega
        obtain ⟨q1, q2⟩ := fcs_get ((List.range n).map fun i => (byt (S i).1, byt (S i).2)) i (by simpa using hin)
        have r1 := (hS i hin).2.1
        rw [add_none] at r1
        rw [hi] at hu ⊢
        rw [q2, hgd i hin, strN_byt] at hu
        rw [r1]; exact hu
    · intro f hf
      obtain ⟨i, _, rfl⟩ := List.mem_map.1 hf
      exact ⟨byt_lt _, byt_lt _⟩
    · intro f hf
      obtain ⟨i, hi, rfl⟩ := List.mem_map.1 hf
      have := hS i (List.mem_range.1 hi)
      simp only [byt_length]
      exact ⟨this.2.2.1, this.2.2.2.1⟩
    · rw [hx.1]
      have key : ∀ (l : List Nat), (∀ i ∈ l, i < n) → ((l.map fun i => (byt (S i).1, byt (S i).2)).map fun f => f.1.length + f.2.length + 3).sum ≤ Rows.uptoBulkAll (l.map D) := by
        intro l
        induction l with
        | nil => intro _; simp [Rows.uptoBulkAll]
        | cons i r ih =>
          intro hl
          have hD := (hS i (hl i List.mem_cons_self)).2.2.2.2
          have h2 := ih fun j hj => hl j (List.mem_cons_of_mem _ hj)
          have h3 : Rows.uptoBulk (D i) = (byt (S i).1).length + (byt (S i).2).length + 3 := by
            rw [hD, byt_length, byt_length]
            simp only [Rows.uptoBulk, Rows.uptoBulkAll, Array.length_toList]
            show (S i).1.data.size + 1 + ((S i).2.data.size + 1 + 0) + 1 = (S i).1.data.size + (S i).2.data.size + 3
            omega
          simp only [List.map_cons, List.sum_cons, Rows.uptoBulkAll]
          rw [h3]
          exact Nat.add_le_add (Nat.le_refl _) h2
      have h4 := key (List.range n) (fun i hi => List.mem_range.1 hi)
      refine Nat.le_trans h4 ?_
      simp only [Rows.uptoBulk]
      omega
theorem slice_of {H : Type} {enc : TypeId × Value → H} {W : World} {base : Nat} {sp : Nat → Bool} {held : Bool} {fuel : Nat} {v : Value} {x : DataW H × List MemPlace} (hf : DataW.trod enc Tryz.prog W base sp held fuel 22 [v] = some x) : ∃ a n c, v = .slice a n c := by
  rcases Deep.open_slice Tryz.underlying22 hf with ⟨hcs, _⟩ | ⟨x, l, c', m, nn, D, Pl, hcs, _⟩
  · simp at hcs; exact ⟨_, _, _, hcs⟩
  · simp at hcs; exact ⟨_, _, _, hcs⟩
theorem int_of {H : Type} {enc : TypeId × Value → H} {W : World} {base : Nat} {sp : Nat → Bool} {held : Bool} {fuel : Nat} {c : Value} {x : DataW H × List MemPlace} (h : DataW.trod enc Tryz.prog W base sp held fuel 3 [c] = some x) : ∃ p, c = .int .i64 p ∧ (Lit.int .i64 p).wf = true := by
  obtain ⟨n, e, _, hw⟩ := DataW.trod_int Tryz.underlying3 h
  simp at e
  exact ⟨n, e, hw⟩
/-- A destination within a row. -/
theorem de_of {H : Type} {enc : TypeId × Value → H} {W : World} {base : Nat} {sp : Nat → Bool} {held : Bool} {fuel : Nat} {cs : List Value} {x : DataW H × List MemPlace} (hf : DataW.trod enc Tryz.prog W base sp held fuel 28 cs = some x) :
    ∃ (a : Ad) (n : ByteArray) (p : Int), a.ok ∧ n.size ≤ maxLen ∧ (Lit.int .i64 p).wf = true ∧ cs = [.int .u8 (a.1 : Nat), .int .u8 (a.2.1 : Nat), .int .u8 (a.2.2.1 : Nat), .int .u8 (a.2.2.2 : Nat), .string n, .int .i64 p] := by
  have c39 : Tryz.prog.cellsOf 26 = 5 := by kernel_rfl
  have c37 : Tryz.prog.cellsOf 24 = 4 := by kernel_rfl
  obtain ⟨y0, y1, n, _, hl, h0, h1⟩ := trod_struct2 Tryz.underlying28 hf
  rw [c41] at hl
  obtain ⟨z0, z1, m, _, hl2, g0, g1⟩ := trod_struct2 Tryz.underlying26 h0
  obtain ⟨a, ha, ea⟩ := ad_of g0
  obtain ⟨s, es, _, hs⟩ := DataW.trod_string Tryz.underlying9 g1
  obtain ⟨p, ep, _, hp⟩ := DataW.trod_int Tryz.underlying3 h1
  obtain ⟨x0, x1, x2, x3, x4, x5, rfl⟩ : ∃ x0 x1 x2 x3 x4 x5, cs = [x0, x1, x2, x3, x4, x5] := by
    match cs, hl with
    | [a, b, c, d, e, f], _ => exact ⟨a, b, c, d, e, f, rfl⟩
  simp only [c39, c37, c9, c3, List.drop, List.take] at ea es ep
  refine ⟨a, s, p, ha, hs, hp, ?_⟩
  simp at ea es ep
  obtain ⟨rfl, rfl, rfl, rfl⟩ := ea
  subst es ep
  rfl
/-- A request that came in. -/
def rqV (m : ByteArray) (a : Ad) (h : ByteArray) (p : Int) (t : ByteArray) (v : Value) : Value := .agg #[.string m, .int .u8 (a.1 : Nat), .int .u8 (a.2.1 : Nat), .int .u8 (a.2.2.1 : Nat), .int .u8 (a.2.2.2 : Nat), .string h, .int .i64 p, .string t, v]
/-- A request in memory. -/
structure IsRq (W : World) (v : Value) (m : ByteArray) (a : Ad) (h : ByteArray) (p : Int) (t : ByteArray) (x : Option Addr) (n c : Nat) (fs : List Fd) : Prop where
  val : v = rqV m a h p t (.slice x n c)
  ok : a.ok
  hm : m.size ≤ 140737488351232
  hh : h.size ≤ maxLen
  hp : -9223372036854775808 ≤ p ∧ p ≤ 9223372036854775807
  ht : t.size ≤ 140737488351232
  src : SrcF W x n c fs
  sht : Short fs
  len : n * 32 ≤ 140737488351232
theorem open_rq {H : Type} {enc : TypeId × Value → H} {W : World} {base b0 : Nat} {r : Reach} {sp : Nat → Bool} {held : Bool} {v : Value} {d : DataW H} {ps : List MemPlace} (hval : Value.okWide Tryz.prog W r b0 30 v) (hd : DataW.Trod enc Tryz.prog W base sp held 30 v d ps)
    (hw : ∀ k ∈ d.weights Tryz.prog 30, k ≤ reachBytes) : ∃ m a h p t x n c fs, IsRq W v m a h p t x n c fs := by
  obtain ⟨cs, rfl⟩ : ∃ cs, v = .agg cs := by
    have h := hval
    unfold Value.okWide at h
    rw [Tryz.underlying30] at h
    cases v <;> simp at h
    exact ⟨_, rfl⟩
  obtain ⟨fuel, hf⟩ := hd
  obtain ⟨y0, y1, y2, y3, n, hx, hl, h0, h1, h2, h3⟩ := Go.Joins.trod_struct4 Tryz.underlying30 hf
  simp only [Value.cells] at hl h0 h1 h2 h3
  rw [c44] at hl
  obtain ⟨x0, x1, x2, x3, x4, x5, x6, x7, x8, hcs⟩ : ∃ x0 x1 x2 x3 x4 x5 x6 x7 x8, cs.toList = [x0, x1, x2, x3, x4, x5, x6, x7, x8] := by
    generalize cs.toList = l at hl
    match l, hl with
    | [a, b, c, d, e, f, g, h, i], _ => exact ⟨a, b, c, d, e, f, g, h, i, rfl⟩
  rw [hcs] at h0 h1 h2 h3
  simp only [c9, c41, c42, List.drop, List.take] at h0 h1 h2 h3
  obtain ⟨m, rfl, hm, em⟩ := str_open h0
  obtain ⟨a, ho, p, ha, hh, hp, ed⟩ := de_of h1
  obtain ⟨t, rfl, ht, et⟩ := str_open h2
  obtain ⟨ax, nx, cx, rfl⟩ := slice_of h3
  simp only [Prod.mk.injEq] at hx
  have hwd : ∀ k, k ∈ y0.1.weights Tryz.prog 9 ∨ k ∈ y2.1.weights Tryz.prog 9 ∨ k ∈ y3.1.weights Tryz.prog 22 → k ≤ reachBytes := fun k hk => hw k (by
    rw [hx.1]
    simp only [DataW.weights, Tryz.underlying30, DataW.weightsEach, List.map_cons, List.map_nil, List.mem_append]
    rcases hk with h | h | h
    · exact Or.inl h
    · exact Or.inr (Or.inr (Or.inl h))
    · exact Or.inr (Or.inr (Or.inr (Or.inl h))))
  have w0 := hwd m.size (Or.inl (by rw [em]; simp only [DataW.weights, Array.length_toList, List.mem_singleton]; rfl))
  have w2 := hwd t.size (Or.inr (Or.inl (by rw [et]; simp only [DataW.weights, Array.length_toList, List.mem_singleton]; rfl)))
  unfold reachBytes at w0 w2
  obtain ⟨fs, hsrc, hsh, hn, _⟩ := open_flds (d := y3.1) (ps := y3.2) h3 (fun k hk => hwd k (Or.inr (Or.inr hk)))
  simp at ed
  obtain ⟨rfl, rfl, rfl, rfl, rfl, rfl⟩ := ed
  refine ⟨m, a, ho, p, t, ax, nx, cx, fs, ?_, ha, w0, hh, by have := bounds_i64 hp; omega, w2, hsrc, hsh, hn⟩
  unfold rqV
  congr 1
  apply Array.ext'
  rw [hcs]
theorem sized_of {H : Type} {P : Program} {ts : List TypeId} {ds : List (DataW H)} (h : (DataW.weightsEach P ts ds).all (· ≤ reachBytes) = true) {j : Nat} {t : TypeId} {d : DataW H} (ht : ts[j]? = some t) (hd : ds[j]? = some d) : ∀ k ∈ d.weights P t, k ≤ reachBytes := fun k hk => by
  have := List.all_eq_true.1 h k (DataW.weights_mem_each ht hd k hk)
  simpa using this
set_option maxRecDepth 100000 in
theorem of_laid2 {W : World} (h : laidMetH Tryz.prog laidL2 W) (hs : W.ShapedOpen Tryz.prog) : Vars W ∧ Pow W := by
  have h' : laidMet Tryz.prog [("math/bits.deBruijn32tab", Rows.laid_math_bits_deBruijn32tab), ("math/bits.deBruijn64tab", Rows.laid_math_bits_deBruijn64tab), ("internal/strconv.uint64pow10", Lib.tabData .u64 Lib.pow10Tab), ("unicode/utf8.acceptRanges", Rows.laid_unicode_utf8_acceptRanges), ("unicode/utf8.first", Rows.laid_unicode_utf8_first)] W := h
  exact ⟨vars_of hs, Lib.tabIs_of_head (g := 3) (t := 152) (e := 145) (n := 20) (by kernel_rfl) (by kernel_rfl) (by kernel_rfl) (by kernel_rfl) (by kernel_rfl) (by kernel_rfl) (laid_tail (laid_tail h'))⟩
theorem few_of {fs : List Fd} {b : Nat} (h : (fs.map fun f => f.1.length + f.2.length + 3).sum ≤ b) (hb : b ≤ 1048576) : Few fs ∧ fs.length ≤ 1048576 := by
  have each : ∀ (l : List Fd), (l.map fun f => f.2.length + 1).sum ≤ (l.map fun f => f.1.length + f.2.length + 3).sum ∧ l.length ≤ (l.map fun f => f.1.length + f.2.length + 3).sum ∧ ∀ f ∈ l, f.1.length + f.2.length ≤ (l.map fun f => f.1.length + f.2.length + 3).sum := by
    intro l
    induction l with
    | nil => simp
    | cons f r ih =>
      obtain ⟨h1, h2, h3⟩ := ih
      simp only [List.map_cons, List.sum_cons, List.length_cons]
      refine ⟨by omega, by omega, fun g hg => ?_⟩
      rcases List.mem_cons.1 hg with rfl | hg
      · omega
      · have := h3 g hg; omega
  obtain ⟨h1, h2, h3⟩ := each fs
  refine ⟨⟨fun f hf => ?_, by omega⟩, by omega⟩
  have := h3 f hf
  omega
/-- A field that came in. -/
theorem open_fld {H : Type} {enc : TypeId × Value → H} {W : World} {base b0 : Nat} {r : Reach} {sp : Nat → Bool} {held : Bool} {v : Value} {d : DataW H} {ps : List MemPlace} (hval : Value.okWide Tryz.prog W r b0 43 v) (hd : DataW.Trod enc Tryz.prog W base sp held 43 v d ps) :
    ∃ s t : ByteArray, v = .agg #[.string s, .string t] ∧ s.size + t.size + 3 ≤ Rows.uptoBulk d := by
  obtain ⟨cs, rfl⟩ : ∃ cs, v = .agg cs := by
    have h := hval
    unfold Value.okWide at h
    rw [Tryz.underlying43] at h
    cases v <;> simp at h
    exact ⟨_, rfl⟩
  obtain ⟨fuel, hf⟩ := hd
  obtain ⟨s, t, hcs, ⟨hs, ht⟩, _, hx⟩ := fld_open hf
  simp only [Value.cells] at hcs
  refine ⟨s, t, ?_, ?_⟩
  · congr 1
    apply Array.ext'
    rw [hcs]
  · simp only at hx
    rw [hx]
    simp only [Rows.uptoBulk, Rows.uptoBulkAll, Array.length_toList]
    show s.data.size + t.data.size + 3 ≤ s.data.size + 1 + (t.data.size + 1 + 0) + 1
    omega
end Go.Proofs.YtffjhhacegnhmaaGreatDoor
