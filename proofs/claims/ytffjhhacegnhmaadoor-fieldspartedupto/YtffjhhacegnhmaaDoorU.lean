/-
  ParsePort and Parse of the reference; conditions as each theorem has them.
-/
import Derived.Test.YtffjhhacegnhmaaDoorQ
import Derived.Test.YtffjhhacegnhmaaDoorS
set_option linter.unusedSimpArgs false
set_option linter.unusedVariables false
namespace Go.Proofs.YtffjhhacegnhmaaDoor
open Go.RowKit

theorem port_wh (l : List Nat) : port l = match wh l 5 with
    | some n => if n < 1 ∨ 65535 < n then (0, .one 0 62) else (n, .ok)
    | none => (0, .one 0 62) := by
  have h := wh_port l
  unfold port
  rw [← h]
  cases wh l 5 with
  | none => rfl
  | some n =>
    simp only
    by_cases h1 : 65535 < n
    · rw [if_pos h1, if_pos (Or.inr h1)]
    · rw [if_neg h1]
      simp only
      by_cases h0 : n = 0
      · rw [if_pos h0, if_pos (Or.inl (by omega))]
      · rw [if_neg h0, if_neg (by omega)]
theorem wh_lt {l : List Nat} {d n : Nat} (h : wh l d = some n) : n < 10 ^ d := by
  unfold wh at h
  split at h
  · rename_i hh
    simp at h
    have hall : l.all dig = true := by have := hh.1; rw [isNum_of] at this; simp only [Bool.and_eq_true] at this; exact this.1.2
    have := val_lt l hall
    rw [h] at this
    exact Nat.lt_of_lt_of_le this (Nat.pow_le_pow_right (n := 10) (by omega) hh.2)
  · cases h

theorem host_long {l : List Nat} (h : 253 < l.length) : host l = (([0, 0, 0, 0], []), .one 253 3) := by
  have h0 : l ≠ [] := fun e => by rw [e] at h; simp at h
  rw [host, if_neg h0]
  split
  · rw [addr, if_pos h]
  · rw [name, if_pos h]
theorem set5 {w : World} {B : Nat} {t : TypeId} {o0 o1 o2 o3 o4 : Value} (h : w.heap[B]? = some (.cells #[o0, o1, o2, o3, o4] t)) (v0 v1 v2 v3 v4 : Value) :
    (((((w.setCell ⟨B, 0, none⟩ v0).setCell ⟨B, 1, none⟩ v1).setCell ⟨B, 2, none⟩ v2).setCell ⟨B, 3, none⟩ v3).setCell ⟨B, 4, none⟩ v4).heap[B]? = some (.cells #[v0, v1, v2, v3, v4] t) := by
  rw [heap_setCell_same (heap_setCell_same (heap_setCell_same (heap_setCell_same (heap_setCell_same h _ _) _ _) _ _) _ _) _ _]
  rfl
theorem set10 {w : World} {B : Nat} {t : TypeId} {o0 o1 o2 o3 o4 o5 o6 o7 o8 o9 : Value} (h : w.heap[B]? = some (.cells #[o0, o1, o2, o3, o4, o5, o6, o7, o8, o9] t)) (v0 v1 v2 v3 v4 v5 v6 v7 v8 v9 : Value) :
    ((((((((((w.setCell ⟨B, 0, none⟩ v0).setCell ⟨B, 1, none⟩ v1).setCell ⟨B, 2, none⟩ v2).setCell ⟨B, 3, none⟩ v3).setCell ⟨B, 4, none⟩ v4).setCell ⟨B, 5, none⟩ v5).setCell ⟨B, 6, none⟩ v6).setCell ⟨B, 7, none⟩ v7).setCell ⟨B, 8, none⟩ v8).setCell ⟨B, 9, none⟩ v9).heap[B]? = some (.cells #[v0, v1, v2, v3, v4, v5, v6, v7, v8, v9] t) := by
  rw [heap_setCell_same (heap_setCell_same (heap_setCell_same (heap_setCell_same (heap_setCell_same (heap_setCell_same (heap_setCell_same (heap_setCell_same (heap_setCell_same (heap_setCell_same h _ _) _ _) _ _) _ _) _ _) _ _) _ _) _ _) _ _) _ _]
  kernel_rfl

end Go.Proofs.YtffjhhacegnhmaaDoor
