/-
  The reference's turn of a block ('block' of the reference): the words drawn; conditions as each theorem has them.
-/
import Derived.Test.YtaibdmmacncejaaDoorO
set_option linter.unusedSimpArgs false
set_option linter.unusedVariables false
namespace Go.Proofs.YtaibdmmacncejaaDoor
open Go.RowKit

theorem info36' : (Tryd.prog.info? 36).map (fun i => (i.zero, i.size, i.bytes)) = some (some (.int .u32 0), 1, 4) := by kernel_rfl
theorem info36p : ∃ i, Tryd.prog.info? 36 = some i ∧ i.zero = some (.int .u32 0) ∧ i.size = 1 ∧ i.bytes = 4 := info_parts info36'
theorem run_make32 (w : World) : (Instr.makeSlice 52 (.int .i64 64) (.int .i64 64)).run Tryd.prog w = .ok (.slice (some ⟨w.heap.size, 0, none⟩) 64 64) (w.alloc (.cells z64 36)) := by
  have h := run_make_row' (P := Tryd.prog) 52 36 (.int .u32 0) 4 Tryd.underlying52 info36' rfl .i64 .i64 64 (by omega) (by omega) w
  have e : madeCells #[Value.int .u32 0] 64 = z64 := by
    rw [← Array.toList_inj, toList_madeCells_one]
    simp [nums, z64]
  rw [e] at h
  exact h

/-- The words of s lie from a cell on. -/
def Words (w : World) (g o : Nat) (s : St) : Prop := ∀ j, j < 8 → w.cell? ⟨g, o + j, none⟩ = some (.int .u32 (s.list.getD j 0 : Nat))
theorem Words.keep {w w' : World} {g o : Nat} {s : St} (h : Words w g o s) (e : w'.heap[g]? = w.heap[g]?) : Words w' g o s := fun j hj => (World.cell?_of_block e).trans (h j hj)
theorem Words.lt {w : World} {g o : Nat} {s : St} (h : Words w g o s) : g < w.heap.size := lt_of_cell (h 0 (by omega))

/-- A slice of words that the call appends to. -/
def Own32 (w : World) (B : Nat) (v : Value) (l : List Nat) : Prop := w.ownsRow B 36 1 v l.length (nums .u32 l)
theorem Own32.form {w : World} {B : Nat} {v : Value} {l : List Nat} (h : Own32 w B v l) (h0 : 0 < l.length) : ∃ g cap, v = .slice (some ⟨g, 0, none⟩) l.length cap ∧ l.length ≤ cap ∧ cap ≤ maxLen ∧ B ≤ g ∧ g < w.heap.size ∧ ∀ j, j < l.length → w.cell? ⟨g, j, none⟩ = some (.int .u32 (l.getD j 0 : Nat)) := by
  rcases h.2 with ⟨rfl, h1⟩ | ⟨g, cap, cur, rfl, hg, hh, hc, hm, hs, ht⟩
  · omega
  · refine ⟨g, cap, rfl, hc, hm, hg, lt_of_some hh, fun i hi => ?_⟩
    rw [Nat.mul_one] at ht
    have e1 : cur[i]? = (nums .u32 l)[i]? := by rw [← ht, List.getElem?_take, if_pos hi]; simp
    simp only [World.cell?, hh]
    rw [e1]
    exact nums_get .u32 l i hi
theorem run_app32 {w : World} {B : Nat} {v : Value} {l : List Nat} (ty : TypeId) (hown : Own32 w B v l) {b o m c : Nat} {bs : List Nat} (hb : bs.length = m) (hs : ∀ j, j < m → w.cell? ⟨b, o + j, none⟩ = some (.int .u32 (bs.getD j 0 : Nat))) (hlen : l.length + m ≤ 1000) (hB : B ≤ w.heap.size) :
    ∃ v' w', (Builtin.append_ #[52, 52] ty #[v, .slice (some ⟨b, o, none⟩) m c]).run Tryd.prog w = .ok v' w' ∧ Own32 w' B v' (l ++ bs) ∧ Below B w w' := by
  obtain ⟨i, hi, hz, hsz, hby⟩ := info36p
  have hrow : ∀ k, v.ownBlock = some k → B ≤ k := by
    intro k hk
    rcases hown.2 with ⟨rfl, _⟩ | ⟨g, cap, cur, rfl, hg, _⟩
    · cases hk
    · simp [Value.ownBlock] at hk; omega
  obtain ⟨v', w', hr, ho, hg, _⟩ := run_append_own (P := Tryd.prog) w B 52 ty 36 i (.int .u32 0) 1 4 Tryd.underlying52 hi hz hsz hby rfl (by omega) v l.length (nums .u32 l) hown ⟨b, o, none⟩ m c (nums .u32 bs) (by rw [nums_length, hb]; omega)
    (fun j u hu => by
      obtain ⟨hj, rfl⟩ := nums_at _ _ _ _ hu
      rw [add_none]
      exact hs j (by omega)) (nums_one _ _) (by unfold maxLen; omega) (by omega) hB
  refine ⟨v', w', hr, ?_, (Below.refl B w).grown hg hB hrow⟩
  unfold Own32
  rw [List.length_append, hb, nums_append]
  exact ho
theorem Own32.keep {w w' : World} {B : Nat} {v : Value} {l : List Nat} (h : Own32 w B v l) (k : ∀ g, B ≤ g → g < w.heap.size → w'.heap[g]? = w.heap[g]?) : Own32 w' B v l := by
  refine ⟨h.1, ?_⟩
  rcases h.2 with h0 | ⟨x, cap, cur, hv, hx, hh, hrest⟩
  · exact Or.inl h0
  · exact Or.inr ⟨x, cap, cur, hv, hx, (k x hx (lt_of_some hh)).trans hh, hrest⟩
theorem own32_new_at (w : World) (g : Nat) (hg : g = w.heap.size) : Own32 (w.alloc (.cells #[] 36)) g (.slice (some ⟨g, 0, none⟩) 0 0) [] := by
  subst hg
  exact ⟨by simp [nums], Or.inr ⟨w.heap.size, 0, #[], rfl, Nat.le_refl _, alloc_new _ _, by simp, Nat.zero_le _, by simp, by simp [nums]⟩⟩

set_option maxRecDepth 100000 in
set_option maxHeartbeats 1000000 in
theorem cubes_at (w : World) : Calls Tryd.prog 33 #[] w fun e w' => e = .returned (.slice (some ⟨w.heap.size, 0, none⟩) 64 64) ∧ Row w' w.heap.size 36 (nums .u32 kt) ∧ Below w.heap.size w w' := by
  go_enter Tryd.func33, Tryd.ntmps33
  go_wp2
  go_ret
  exact ⟨rfl, Row.new w _ 36, (Below.refl _ _).alloc (Nat.le_refl _) _⟩
end Go.Proofs.YtaibdmmacncejaaDoor
