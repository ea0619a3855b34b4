/-
  A table of the reference in memory; conditions as each theorem has them.
-/
import Derived.Test.YtmolcipbopaniaaN
import Derived.Test.YtmolcipbopaniaaL
set_option linter.unusedSimpArgs false
set_option linter.unusedVariables false
namespace Go.Proofs.Ytmolcipbopaniaa
open Go.RowKit
/-- The reference's entries as they lie in memory, V: where their addresses are. -/
def enC (s : Sl) (v : Value) : List Value := [.string s.name, v, .int .i64 s.till]
def rflat (L : List Sl) (V : Nat → Value) : Nat → List Value
  | 0 => []
  | n + 1 => rflat L V n ++ enC (at0 L n) (V n)
theorem rflat_length (L : List Sl) (V : Nat → Value) : ∀ n, (rflat L V n).length = 3 * n
  | 0 => rfl
  | n + 1 => by simp only [rflat, List.length_append, rflat_length L V n, enC, List.length_cons, List.length_nil]; omega
theorem rflat_at (L : List Sl) (V : Nat → Value) : ∀ n i, i < n → (rflat L V n)[i * 3]? = some (.string (at0 L i).name) ∧ (rflat L V n)[i * 3 + 1]? = some (V i) ∧ (rflat L V n)[i * 3 + 2]? = some (.int .i64 (at0 L i).till)
  | 0, i, h => by omega
  | n + 1, i, h => by
    have hl := rflat_length L V n
    rcases Nat.lt_or_ge i n with h1 | h1
    · have := rflat_at L V n i h1
      simp only [rflat]
      rw [List.getElem?_append_left (by omega), List.getElem?_append_left (by omega), List.getElem?_append_left (by omega)]
      exact this
    · obtain rfl : i = n := by omega
      simp only [rflat]
      rw [List.getElem?_append_right (by omega), List.getElem?_append_right (by omega), List.getElem?_append_right (by omega), hl]
      rw [show i * 3 - 3 * i = 0 by omega, show i * 3 + 1 - 3 * i = 1 by omega, show i * 3 + 2 - 3 * i = 2 by omega]
      exact ⟨rfl, rfl, rfl⟩
theorem rflat_congr {L K : List Sl} {V U : Nat → Value} : ∀ n, (∀ i, i < n → at0 L i = at0 K i ∧ V i = U i) → rflat L V n = rflat K U n
  | 0, _ => rfl
  | n + 1, h => by
    simp only [rflat]
    rw [rflat_congr n (fun i hi => h i (by omega)), (h n (by omega)).1, (h n (by omega)).2]
def upd (V : Nat → Value) (i : Nat) (v : Value) : Nat → Value := fun j => if j = i then v else V j
theorem at0_set {L : List Sl} {i j : Nat} (x : Sl) (hi : i < L.length) : at0 (L.set i x) j = if j = i then x else at0 L j := by
  unfold at0
  rw [List.getD_eq_getElem?_getD, List.getElem?_set]
  by_cases h : j = i
  · rw [if_pos h.symm, if_pos hi, if_pos h]; rfl
  · rw [if_neg (fun e => h e.symm), if_neg h, List.getD_eq_getElem?_getD]
theorem rflat_set (L : List Sl) (V : Nat → Value) (x : Sl) (v : Value) (i : Nat) (hi : i < L.length) : ∀ n, i < n → (rflat L V n).take (i * 3) ++ enC x v ++ (rflat L V n).drop (i * 3 + 3) = rflat (L.set i x) (upd V i v) n
  | 0, h => by omega
  | n + 1, h => by
    have hl := rflat_length L V n
    rcases Nat.lt_or_ge i n with h1 | h1
    · have ih := rflat_set L V x v i hi n h1
      simp only [rflat]
      rw [List.take_append_of_le_length (by omega), List.drop_append_of_le_length (by omega), ← List.append_assoc, ih, at0_set x hi, if_neg (by omega)]
      unfold upd
      rw [if_neg (by omega)]
    · obtain rfl : i = n := by omega
      simp only [rflat]
      rw [List.take_append_of_le_length (by omega), List.take_of_length_le (by omega), List.drop_of_length_le (by simp [hl, enC]; omega), List.append_nil, at0_set x hi, if_pos rfl]
      unfold upd
      rw [if_pos rfl]
      congr 1
      exact rflat_congr _ (fun j hj => ⟨by rw [at0_set x hi, if_neg (by omega)], by rw [if_neg (by omega)]⟩)
theorem enC_one {s : Sl} {v : Value} (hv : v.oneCell' = true) : ∀ u ∈ enC s v, u.oneCell' = true := by
  intro u hu
  simp [enC] at hu
  rcases hu with rfl | rfl | rfl
  · rfl
  · exact hv
  · rfl
theorem OwnA.one {w : World} {B : Nat} {v : Value} {l : List Ad} (h : OwnA w B v l) : v.oneCell' = true := by
  obtain ⟨a, c, rfl⟩ := h.shape
  rfl
/-- The reference's table: its head in block r, its entries in block g, the addresses' blocks not x. -/
structure RT (x : Nat) (w : World) (r g : Nat) (L : List Sl) : Prop where
  head : w.heap[r]? = some (.cells #[.slice (some ⟨g, 0, none⟩) L.length L.length] 57)
  max : L.length ≤ 4096
  ok : okL L
  body : ∃ V : Nat → Value, w.heap[g]? = some (.cells (rflat L V L.length).toArray 71) ∧ ∀ i, i < L.length → OwnA w 0 (V i) (at0 L i).ads ∧ (V i).ownBlock ≠ some x
theorem RT.lt {x : Nat} {w : World} {r g : Nat} {L : List Sl} (h : RT x w r g L) : r < w.heap.size ∧ g < w.heap.size := by
  obtain ⟨V, hg, _⟩ := h.body
  exact ⟨lt_of_some h.head, lt_of_some hg⟩
theorem OwnA.ltB {w : World} {B : Nat} {v : Value} {l : List Ad} (h : OwnA w B v l) {g : Nat} (hg : v.ownBlock = some g) : g < w.heap.size := by
  obtain ⟨_, cur, hh⟩ := h.block hg
  exact lt_of_some hh
theorem RT.below {x : Nat} {w w' : World} {r g : Nat} {L : List Sl} (h : RT x w r g L) (k : Below w.heap.size w w') : RT x w' r g L := by
  obtain ⟨V, hg, hV⟩ := h.body
  exact ⟨(k.block r h.lt.1).trans h.head, h.max, h.ok, V, (k.block g h.lt.2).trans hg, fun i hi => ⟨(hV i hi).1.below k, (hV i hi).2⟩⟩
/-- What is written to a block of another kind, or to x, is not the table's. -/
theorem RT.kept {x : Nat} {w w' : World} {r g b : Nat} {L : List Sl} (h : RT x w r g L) (hb : b = x ∨ ∃ cs t, w.heap[b]? = some (.cells cs t) ∧ t ≠ 37) (hr : b ≠ r) (hg : b ≠ g) (k : Kept b b w w') : RT x w' r g L := by
  obtain ⟨V, hgg, hV⟩ := h.body
  refine ⟨(k.block r h.lt.1 hr.symm hr.symm).trans h.head, h.max, h.ok, V, (k.block g h.lt.2 hg.symm hg.symm).trans hgg, fun i hi => ⟨(hV i hi).1.keep fun y hy => ?_, (hV i hi).2⟩⟩
  have hne : y ≠ b := by
    rcases hb with rfl | ⟨cs, t, hcs, ht⟩
    · intro e; subst e; exact (hV i hi).2 hy
    · intro e
      subst e
      obtain ⟨_, cur, hh⟩ := (hV i hi).1.block hy
      rw [hcs] at hh
      simp at hh
      exact ht hh.2
  exact k.block y ((hV i hi).1.ltB hy) hne hne
theorem RT.new {x x' : Nat} {w : World} {r g : Nat} {L : List Sl} (h : RT x w r g L) (hx : w.heap.size ≤ x') : RT x' w r g L := by
  obtain ⟨V, hg, hV⟩ := h.body
  exact ⟨h.head, h.max, h.ok, V, hg, fun i hi => ⟨(hV i hi).1, fun e => by have := (hV i hi).1.ltB e; omega⟩⟩
theorem RT.cellR {x : Nat} {w : World} {r g : Nat} {L : List Sl} (h : RT x w r g L) : w.cell? ⟨r, 0, none⟩ = some (.slice (some ⟨g, 0, none⟩) L.length L.length) := by simp [World.cell?, h.head]
theorem RT.cells {x : Nat} {w : World} {r g : Nat} {L : List Sl} (h : RT x w r g L) {i : Nat} (hi : i < L.length) : ∃ v, w.cell? ⟨g, i * 3, none⟩ = some (.string (at0 L i).name) ∧ w.cell? ⟨g, i * 3 + 1, none⟩ = some v ∧ w.cell? ⟨g, i * 3 + 2, none⟩ = some (.int .i64 (at0 L i).till) ∧ OwnA w 0 v (at0 L i).ads ∧ v.ownBlock ≠ some x := by
  obtain ⟨V, hg, hV⟩ := h.body
  have := rflat_at L V L.length i hi
  refine ⟨V i, ?_, ?_, ?_, hV i hi⟩
  · simp only [World.cell?, hg]; simpa using this.1
  · simp only [World.cell?, hg]; simpa using this.2.1
  · simp only [World.cell?, hg]; simpa using this.2.2
theorem info71 : (Try.prog.info? 71).map (·.size) = some 3 := by kernel_rfl
/-- An entry is put. -/
theorem RT.store {x : Nat} {w w1 : World} {r g : Nat} {L : List Sl} (h : RT x w r g L) (k : Below w.heap.size w w1) (i : Nat) (hi : i < L.length) (s : Sl) (hs : s.Ok) (v : Value) (hv : OwnA w1 0 v s.ads) (hx : v.ownBlock ≠ some x) :
    ∃ w2, (Instr.storeAt 71 (.pointer (some ⟨g, i * 3, none⟩)) (.agg (enC s v).toArray)).run Try.prog w1 = .ok () w2 ∧ RT x w2 r g (L.set i s) ∧ Kept g g w w2 := by
  have h1 := h.below k
  obtain ⟨V, hg, hV⟩ := h1.body
  have hrg : r ≠ g := by
    intro e; subst e
    have := h1.head
    rw [hg] at this
    simp at this
  have hl := rflat_length L V L.length
  have hst := run_storeCells_at Try.prog g (i * 3) 71 (enC s v) 0 (rflat L V L.length).toArray w1 hg (by simp [hl, enC]; omega) (enC_one hv.one)
  obtain ⟨inf, hinf, hz⟩ := Option.map_eq_some_iff.1 info71
  rw [Nat.add_zero, List.toList_toArray, show (enC s v).length = 3 from rfl, rflat_set L V s v i hi L.length hi] at hst
  refine ⟨w1.setRow g (rflat (L.set i s) (upd V i v) L.length).toArray, ?_, ⟨?_, by rw [List.length_set]; exact h.max, okL_set h.ok i hs, upd V i v, ?_, fun j hj => ?_⟩, (Kept.of_below k).setRow (Or.inl rfl) _⟩
  · have e3 : (enC s v).toArray.size = 3 := rfl
    simp [Instr.storeAt, Instr.sureAddr, storeVar, sizeOf, typeInfo, hinf, hz, Value.cells, hst, show (enC s v).length = 3 from rfl]
  · rw [setRow_other _ _ _ _ hrg, List.length_set]; exact h1.head
  · rw [List.length_set]; exact setRow_heap _ _ _ _ 71 (0, 0) hg
  · rw [List.length_set] at hj
    rw [at0_set s hi]
    unfold upd
    have key : ∀ (u : Value) (l : List Ad), OwnA w1 0 u l → OwnA (w1.setRow g (rflat (L.set i s) (upd V i v) L.length).toArray) 0 u l := fun u l hu => hu.keep fun y hy => setRow_other _ _ _ _ (by
      intro e; subst e
      obtain ⟨_, cur, hh⟩ := hu.block hy
      rw [hg] at hh
      simp at hh)
    by_cases hji : j = i
    · rw [if_pos hji, if_pos hji]; exact ⟨key _ _ hv, hx⟩
    · rw [if_neg hji, if_neg hji]; exact ⟨key _ _ (hV j hj).1, (hV j hj).2⟩
end Go.Proofs.Ytmolcipbopaniaa
