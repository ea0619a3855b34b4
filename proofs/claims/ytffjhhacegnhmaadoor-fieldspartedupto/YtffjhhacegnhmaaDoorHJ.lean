/-
  readReplyLine of package head; conditions as each theorem has them.
-/
import Derived.Test.YtffjhhacegnhmaaDoorHI
import Derived.Test.YtffjhhacegnhmaaDoorHG
set_option linter.unusedSimpArgs false
set_option linter.unusedVariables false
namespace Go.Proofs.YtffjhhacegnhmaaDoor
open Go.RowKit

/-- A reply as cells. -/
def ryC (q : Nat × List Nat) (sl : Value) : Array Value := #[.int .i64 (q.1 : Nat), .string (strN q.2), sl]
def z3 : Array Value := #[.int .i64 0, .string ⟨#[]⟩, .slice none 0 0]
theorem z3_one : z3.all (·.oneCell') = true := by simp [z3, Value.oneCell']
theorem bln_le (k : Nat) (l : List Nat) (h : l.length + 1 ≤ k) : bln (k + 1) l = bl l := bln_bl l k (by have := bl_len l; omega)
theorem bln_min (l : List Nat) (n : Nat) (h : 1 ≤ n) : bln (min n (l.length + 1) - 1 + 1) l = bln n l := by
  by_cases hh : n ≤ l.length + 1
  · rw [Nat.min_eq_left hh, show n - 1 + 1 = n by omega]
  · rw [Nat.min_eq_right (by omega)]
    have := bl_len l
    rw [show l.length + 1 - 1 + 1 = l.length + 1 by omega, show l.length + 1 = l.length + 1 from rfl, bln_bl l l.length this]
    rw [show n = (n - 1) + 1 by omega, bln_bl l (n - 1) (by omega)]
theorem bln_mem : ∀ (k : Nat) (l : List Nat) (p : List Nat), p ∈ bln k l → (∀ x ∈ p, x ∈ l) ∧ p.length ≤ l.length
  | 0, l, p, h => by simp [bln] at h
  | 1, l, p, h => by rw [bln_one] at h; simp at h; subst h; exact ⟨fun x hx => hx, Nat.le_refl _⟩
  | k + 2, [], p, h => by simp [bln] at h; subst h; simp
  | k + 2, c :: r, p, h => by
    have hne := bln_ne (k + 1) r
    unfold bln at h
    split at h
    · simp at h
      rcases h with rfl | h
      · simp
      · have := bln_mem (k + 1) r p h
        exact ⟨fun x hx => by simp [this.1 x hx], by simp; omega⟩
    · have ih := bln_mem (k + 2) r
      cases hb : bln (k + 2) r with
      | nil => exact absurd hb hne
      | cons q qs =>
        rw [hb] at h ih
        simp at h
        rcases h with rfl | h
        · have := ih q (by simp)
          refine ⟨fun x hx => ?_, by simp; omega⟩
          simp at hx
          rcases hx with rfl | hx
          · simp
          · simp [this.1 x hx]
        · have := ih p (by simp [h])
          exact ⟨fun x hx => by simp [this.1 x hx], by simp; omega⟩
theorem yline_not {x : List Nat} (h : (bln 3 x).length ≠ 3) : yline x = ((0, []), .one 0 80) := by
  unfold yline
  split
  · rename_i hb; rw [hb] at h; simp at h
  · rfl
theorem yline_three {x v c r : List Nat} (h : bln 3 x = [v, c, r]) : yline x = if ver v = false ∨ reason r = false then ((0, []), .one 0 80) else match stat c with
    | none => ((0, []), .one 0 80)
    | some n => ((n, r), .ok) := by
  unfold yline; rw [h]; rfl
end Go.Proofs.YtffjhhacegnhmaaDoor
