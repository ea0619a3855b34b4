/-
  isSlot, Check and checkTick of package sched, Check and look of the reference; conditions as each theorem has them.
-/
import Derived.Test.YtidalhdhaagpaaaA
set_option linter.unusedSimpArgs false
set_option linter.unusedVariables false
namespace Go.Proofs.Ytidalhdhaagpaaa
open Go.RowKit

set_option maxHeartbeats 400000 in
theorem isSlot_ok (x y : Int) (w : World) (h : okSlot (x, y)) : Calls Try.prog 28 #[slt x y] w fun e w' => e = .returned (.bool true) ∧ Below w.heap.size w w' := by
  obtain ⟨h1, h2, h3, h4⟩ := h
  simp only at h1 h2 h3 h4
  have e1 : decide (x < -1) = false := by simp; omega
  have e2 : decide (8 ≤ x) = false := by simp; omega
  have e3 : decide (1 ≤ y) = true := by simp; omega
  have e4 : decide (y ≤ 4096) = true := by simp; omega
  go_enter Try.func28, Try.ntmps28
  go_wp2
  go_ret
  exact ⟨rfl, (Below.refl _ _).alloc (Nat.le_refl _) _⟩

set_option maxHeartbeats 400000 in
theorem isSlot_bad (x y : Int) (w : World) (h : ¬ okSlot (x, y)) : Calls Try.prog 28 #[slt x y] w fun e w' => e = .returned (.bool false) ∧ Below w.heap.size w w' := by
  have h' : x < -1 ∨ (-1 ≤ x ∧ 8 ≤ x) ∨ (-1 ≤ x ∧ x < 8 ∧ y < 1) ∨ (-1 ≤ x ∧ x < 8 ∧ 1 ≤ y ∧ 4096 < y) := by
    rcases Int.lt_or_le x (-1) with g | g
    · exact Or.inl g
    rcases Int.lt_or_le x 8 with g2 | g2
    · rcases Int.lt_or_le y 1 with g3 | g3
      · exact Or.inr (Or.inr (Or.inl ⟨g, g2, g3⟩))
      · rcases Int.lt_or_le 4096 y with g4 | g4
        · exact Or.inr (Or.inr (Or.inr ⟨g, g2, g3, g4⟩))
        · exact absurd ⟨g, g2, g3, g4⟩ h
    · exact Or.inr (Or.inl ⟨g, g2⟩)
  clear h
  rcases h' with h1 | ⟨h1, h2⟩ | ⟨h1, h2, h3⟩ | ⟨h1, h2, h3, h4⟩
  · have e1 : decide (x < -1) = true := by simp; omega
    go_enter Try.func28, Try.ntmps28
    go_wp2
    go_ret
    exact ⟨rfl, (Below.refl _ _).alloc (Nat.le_refl _) _⟩
  · have e1 : decide (x < -1) = false := by simp; omega
    have e2 : decide (8 ≤ x) = true := by simp; omega
    go_enter Try.func28, Try.ntmps28
    go_wp2
    go_ret
    exact ⟨rfl, (Below.refl _ _).alloc (Nat.le_refl _) _⟩
  · have e1 : decide (x < -1) = false := by simp; omega
    have e2 : decide (8 ≤ x) = false := by simp; omega
    have e3 : decide (1 ≤ y) = false := by simp; omega
    go_enter Try.func28, Try.ntmps28
    go_wp2
    go_ret
    exact ⟨rfl, (Below.refl _ _).alloc (Nat.le_refl _) _⟩
  · have e1 : decide (x < -1) = false := by simp; omega
    have e2 : decide (8 ≤ x) = false := by simp; omega
    have e3 : decide (1 ≤ y) = true := by simp; omega
    have e4 : decide (y ≤ 4096) = false := by simp; omega
    go_enter Try.func28, Try.ntmps28
    go_wp2
    go_ret
    exact ⟨rfl, (Below.refl _ _).alloc (Nat.le_refl _) _⟩

end Go.Proofs.Ytidalhdhaagpaaa
