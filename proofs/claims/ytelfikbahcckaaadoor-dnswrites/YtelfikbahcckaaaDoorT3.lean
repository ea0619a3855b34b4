/-
  Answers and queries that came in; conditions as each theorem has them.
-/
import Derived.Test.YtelfikbahcckaaaDoorT
import Derived.Test.YtelfikbahcckaaaDoorSA
set_option maxRecDepth 100000
set_option linter.unusedSimpArgs false
set_option linter.unusedVariables false
namespace Go.Proofs.YtelfikbahcckaaaDoor
open Go.ChangeShapes Go.WideShapes Go.ChangeAt Go.RowKit
theorem c75 : Tryd.prog.cellsOf 75 = 4 := by kernel_rfl
theorem c9 : Tryd.prog.cellsOf 9 = 1 := by kernel_rfl
theorem c3 : Tryd.prog.cellsOf 3 = 1 := by kernel_rfl
theorem c41 : Tryd.prog.cellsOf 41 = 1 := by kernel_rfl
theorem c40 : Tryd.prog.cellsOf 40 = 2 := by kernel_rfl
theorem c43 : Tryd.prog.cellsOf 43 = 5 := by kernel_rfl
theorem by75 : Tryd.prog.bytesOf 75 = 4 := by kernel_rfl
theorem str_open {H : Type} {enc : TypeId × Value → H} {W : World} {base : Nat} {sp : Nat → Bool} {held : Bool} {fuel : Nat} {c : Value} {x : DataW H × List MemPlace} (h : DataW.trod enc Tryd.prog W base sp held fuel 9 [c] = some x) : ∃ s : ByteArray, c = .string s ∧ s.size ≤ maxLen ∧ x.1 = .lit (.string s.data.toList) := by
  obtain ⟨s, e, hx, hs⟩ := DataW.trod_string Tryd.underlying9 h
  simp at e
  exact ⟨s, e, hs, by rw [hx]⟩
theorem int_of {H : Type} {enc : TypeId × Value → H} {W : World} {base : Nat} {sp : Nat → Bool} {held : Bool} {fuel : Nat} {c : Value} {x : DataW H × List MemPlace} (h : DataW.trod enc Tryd.prog W base sp held fuel 3 [c] = some x) : ∃ p, c = .int .i64 p ∧ (Lit.int .i64 p).wf = true := by
  obtain ⟨n, e, _, hw⟩ := DataW.trod_int Tryd.underlying3 h
  simp at e
  exact ⟨n, e, hw⟩
theorem slice_of {H : Type} {enc : TypeId × Value → H} {W : World} {base : Nat} {sp : Nat → Bool} {held : Bool} {fuel : Nat} {v : Value} {x : DataW H × List MemPlace} (hf : DataW.trod enc Tryd.prog W base sp held fuel 41 [v] = some x) : ∃ a n c, v = .slice a n c := by
  rcases Deep.open_slice Tryd.underlying41 hf with ⟨hcs, _⟩ | ⟨x, l, c', m, nn, D, Pl, hcs, _⟩
  · simp at hcs; exact ⟨_, _, _, hcs⟩
  · simp at hcs; exact ⟨_, _, _, hcs⟩
theorem open_ads {H : Type} {enc : TypeId × Value → H} {W : World} {base : Nat} {sp : Nat → Bool} {held : Bool} {fuel : Nat} {a : Option Addr} {n c : Nat} {d : DataW H} {ps : List MemPlace} (hf : DataW.trod enc Tryd.prog W base sp held fuel 41 [.slice a n c] = some (d, ps))
    (hw : ∀ k ∈ d.weights Tryd.prog 41, k ≤ reachBytes) : ∃ l, SrcA W a n c l ∧ n * 4 ≤ 140737488351232 := by
  rcases Deep.open_slice Tryd.underlying41 hf with ⟨hcs, _⟩ | ⟨x, l, c', m, nn, D, Pl, hcs, _, hl, hm, hmm, hx, hr⟩
  · simp at hcs
    obtain ⟨rfl, rfl, rfl⟩ := hcs
    exact ⟨[], SrcA.nilS W, by omega⟩
  · simp at hcs
    obtain ⟨rfl, rfl, rfl⟩ := hcs
    simp only [Prod.mk.injEq] at hx
    have hnm : n ≤ m := by rw [hmm]; split <;> omega
    have hwt := hw _ (show ((List.range n).map D).length * 4 + ((List.range (m - n)).map fun j => D (n + j)).length * 4 ∈ d.weights Tryd.prog 41 by rw [hx.1]; simp only [DataW.weights, Tryd.underlying41, by75, List.mem_cons]; exact Or.inl (by rw [Nat.add_mul]))
    unfold reachBytes at hwt
    simp only [List.length_map, List.length_range] at hwt
    have each : ∀ i, i < n → ∃ d : Ad, d.ok ∧ W.cell? (x.add (4 * i)) = some (.int .u8 (d.1 : Nat)) ∧ W.cell? (x.add (4 * i + 1)) = some (.int .u8 (d.2.1 : Nat)) ∧ W.cell? (x.add (4 * i + 2)) = some (.int .u8 (d.2.2.1 : Nat)) ∧ W.cell? (x.add (4 * i + 3)) = some (.int .u8 (d.2.2.2 : Nat)) := fun i hi => by
      obtain ⟨cs, hc, ht⟩ := hr i (by omega)
      rw [c75] at hc
      obtain ⟨_, hcl, hce⟩ := World.cells?_some hc
      obtain ⟨d, hd, rfl⟩ := ad_of ht
      have g0 := hce 0 (by omega)
      have g1 := hce 1 (by omega)
      have g2 := hce 2 (by omega)
      have g3 := hce 3 (by omega)
      rw [Deep.add_add] at g0 g1 g2 g3
      refine ⟨d, hd, ?_, ?_, ?_, ?_⟩
      · rw [Nat.mul_comm]; simpa using g0
      · rw [Nat.mul_comm]; simpa using g1
      · rw [Nat.mul_comm]; simpa using g2
      · rw [Nat.mul_comm]; simpa using g3
    obtain ⟨S, hS⟩ := Deep.choose_lt each
    have hgd : ∀ i, i < n → ((List.range n).map fun i => S i).getD i (0, 0, 0, 0) = S i := fun i hi => by simp [List.getD, hi]
    refine ⟨(List.range n).map fun i => S i, ⟨by simp, hl, hm, (by intro e; cases e), fun h0 => ?_, ?_⟩, by omega⟩
    · obtain ⟨b, o, s⟩ := x
      have h00 := (hS 0 h0).2.1
      have hsp : s = none := by simpa [Addr.add] using World.cell?_spot h00
      subst hsp
      refine ⟨b, o, rfl, by simpa [Addr.add] using lt_of_cell h00, fun j u hu => ?_⟩
      have hj := (List.getElem?_eq_some_iff.1 hu).1
      rw [adCs_len] at hj
      simp only [List.length_map, List.length_range] at hj
      obtain ⟨i, hi⟩ : ∃ i, j = 4 * i ∨ j = 4 * i + 1 ∨ j = 4 * i + 2 ∨ j = 4 * i + 3 := ⟨j / 4, by omega⟩
      have hin : i < n := by omega
      obtain ⟨q1, q2, q3, q4⟩ := adCs_get ((List.range n).map fun i => S i) i (by simpa using hin)
      rw [hgd i hin] at q1 q2 q3 q4
      obtain ⟨_, r1, r2, r3, r4⟩ := hS i hin
      rw [add_none] at r1 r2 r3 r4
      rcases hi with hi | hi | hi | hi
      · rw [hi] at hu ⊢; rw [q1] at hu; rw [r1]; exact hu
      · rw [hi] at hu ⊢; rw [q2] at hu; rw [r2]; exact hu
      · rw [hi] at hu ⊢; rw [q3] at hu; rw [r3]; exact hu
      · rw [hi] at hu ⊢; rw [q4] at hu; rw [r4]; exact hu
    · intro f hf
      obtain ⟨i, hi, rfl⟩ := List.mem_map.1 hf
      exact (hS i (List.mem_range.1 hi)).1
/-- An answer that came in. -/
structure IsAn (W : World) (v : Value) (id : Int) (t : ByteArray) (cd : Int) (x : Option Addr) (n c : Nat) (l : List Ad) (tl : Int) : Prop where
  val : v = .agg #[.int .i64 id, .string t, .int .i64 cd, .slice x n c, .int .i64 tl]
  ht : t.size ≤ 140737488351232
  src : SrcA W x n c l
  len : n * 4 ≤ 140737488351232
/-- A query that came in. -/
structure IsQy (v : Value) (id : Int) (t : ByteArray) : Prop where
  val : v = .agg #[.int .i64 id, .string t]
  ht : t.size ≤ 140737488351232
theorem q_of {H : Type} {enc : TypeId × Value → H} {W : World} {base : Nat} {sp : Nat → Bool} {held : Bool} {fuel : Nat} {cs : List Value} {x : DataW H × List MemPlace} (hf : DataW.trod enc Tryd.prog W base sp held fuel 40 cs = some x) (hw : ∀ k ∈ x.1.weights Tryd.prog 40, k ≤ reachBytes) :
    ∃ (id : Int) (t : ByteArray), cs = [.int .i64 id, .string t] ∧ t.size ≤ 140737488351232 := by
  obtain ⟨y0, y1, n, hx, hl, h0, h1⟩ := trod_struct2 Tryd.underlying40 hf
  rw [c40] at hl
  obtain ⟨u0, u1, rfl⟩ : ∃ a b, cs = [a, b] := by
    match cs, hl with
    | [a, b], _ => exact ⟨a, b, rfl⟩
  have g0 : DataW.trod enc Tryd.prog W base sp held n 3 [u0] = some y0 := by simpa [c3] using h0
  have g1 : DataW.trod enc Tryd.prog W base sp held n 9 [u1] = some y1 := by simpa [c9, c3] using h1
  obtain ⟨s, rfl, hs⟩ := int_of g0
  obtain ⟨t, rfl, ht, et⟩ := str_open g1
  have w1 := hw t.size (by
    rw [hx]
    simp only [DataW.weights, Tryd.underlying40, DataW.weightsEach, List.map_cons, List.map_nil, List.mem_append]
    exact Or.inr (Or.inl (by rw [et]; simp only [DataW.weights, Array.length_toList, List.mem_singleton]; rfl)))
  unfold reachBytes at w1
  exact ⟨s, t, rfl, w1⟩
theorem open_qy {H : Type} {enc : TypeId × Value → H} {W : World} {base b0 : Nat} {r : Reach} {sp : Nat → Bool} {held : Bool} {v : Value} {d : DataW H} {ps : List MemPlace} (hval : Value.okWide Tryd.prog W r b0 40 v) (hd : DataW.Trod enc Tryd.prog W base sp held 40 v d ps)
    (hw : ∀ k ∈ d.weights Tryd.prog 40, k ≤ reachBytes) : ∃ id t, IsQy v id t := by
  obtain ⟨cs, rfl⟩ : ∃ cs, v = .agg cs := by
    have h := hval
    unfold Value.okWide at h
    rw [Tryd.underlying40] at h
    cases v <;> simp at h
    exact ⟨_, rfl⟩
  obtain ⟨fuel, hf⟩ := hd
  obtain ⟨id, t, e, ht⟩ := q_of hf hw
  simp only [Value.cells] at e
  refine ⟨id, t, ?_, ht⟩
  congr 1
  apply Array.ext'
  exact e
theorem open_an {H : Type} {enc : TypeId × Value → H} {W : World} {base b0 : Nat} {r : Reach} {sp : Nat → Bool} {held : Bool} {v : Value} {d : DataW H} {ps : List MemPlace} (hval : Value.okWide Tryd.prog W r b0 43 v) (hd : DataW.Trod enc Tryd.prog W base sp held 43 v d ps)
    (hw : ∀ k ∈ d.weights Tryd.prog 43, k ≤ reachBytes) : ∃ id t cd x n c l tl, IsAn W v id t cd x n c l tl := by
  obtain ⟨cs, rfl⟩ : ∃ cs, v = .agg cs := by
    have h := hval
    unfold Value.okWide at h
    rw [Tryd.underlying43] at h
    cases v <;> simp at h
    exact ⟨_, rfl⟩
  obtain ⟨fuel, hf⟩ := hd
  obtain ⟨y0, y1, y2, y3, n, hx, hl, h0, h1, h2, h3⟩ := Go.Joins.trod_struct4 Tryd.underlying43 hf
  simp only [Value.cells] at hl h0 h1 h2 h3
  rw [c43] at hl
  obtain ⟨x0, x1, x2, x3, x4, hcs⟩ : ∃ x0 x1 x2 x3 x4, cs.toList = [x0, x1, x2, x3, x4] := by
    generalize cs.toList = l at hl
    match l, hl with
    | [a, b, c, d, e], _ => exact ⟨a, b, c, d, e, rfl⟩
  rw [hcs] at h0 h1 h2 h3
  simp only [c3, c40, c41, List.drop, List.take] at h0 h1 h2 h3
  simp only [Prod.mk.injEq] at hx
  have hwd : ∀ k, k ∈ y0.1.weights Tryd.prog 40 ∨ k ∈ y2.1.weights Tryd.prog 41 → k ≤ reachBytes := fun k hk => hw k (by
    rw [hx.1]
    simp only [DataW.weights, Tryd.underlying43, DataW.weightsEach, List.map_cons, List.map_nil, List.mem_append]
    rcases hk with h | h
    · exact Or.inl h
    · exact Or.inr (Or.inr (Or.inl h)))
  obtain ⟨id, t, e, ht⟩ := q_of h0 (fun k hk => hwd k (Or.inl hk))
  obtain ⟨cd, rfl, _⟩ := int_of h1
  obtain ⟨tl, rfl, _⟩ := int_of h3
  obtain ⟨ax, nx, cx, rfl⟩ := slice_of h2
  obtain ⟨l, hsrc, hn⟩ := open_ads (d := y2.1) (ps := y2.2) h2 (fun k hk => hwd k (Or.inr hk))
  simp at e
  obtain ⟨rfl, rfl⟩ := e
  refine ⟨id, t, cd, ax, nx, cx, l, tl, ?_, ht, hsrc, hn⟩
  congr 1
  apply Array.ext'
  rw [hcs]
theorem sized_of {H : Type} {P : Program} {ts : List TypeId} {ds : List (DataW H)} (h : (DataW.weightsEach P ts ds).all (· ≤ reachBytes) = true) {j : Nat} {t : TypeId} {d : DataW H} (ht : ts[j]? = some t) (hd : ds[j]? = some d) : ∀ k ∈ d.weights P t, k ≤ reachBytes := fun k hk => by
  have := List.all_eq_true.1 h k (DataW.weights_mem_each ht hd k hk)
  simpa using this
end Go.Proofs.YtelfikbahcckaaaDoor
