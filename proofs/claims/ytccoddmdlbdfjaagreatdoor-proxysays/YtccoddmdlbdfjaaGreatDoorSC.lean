/-
  At most one own answer is said, in numbers; conditions as each theorem has them.
-/
import Derived.Test.YtccoddmdlbdfjaaGreatDoorJoinedWK
set_option linter.unusedSimpArgs false
set_option linter.unusedVariables false
namespace Go.Proofs.YtccoddmdlbdfjaaGreatDoor
open Go.RowKit

/-- What was said so far, where nothing waits. -/
structure Told (C : Cn) (X : List Nat) : Prop where
  good : Good C
  none : C.said = 0
  said : X = [] ∨ ∃ c, known c ∧ X = own c ∧ (C.st = 3 ∨ C.st = 5)
/-- What a call leaves to be said. -/
def Says (C : Cn) (X : List Nat) : Prop := Good C ∧ ((C.said = 0 ∧ Told C X) ∨ (X = [] ∧ ∃ c, known c ∧ C = ansC c))
theorem known_four : known 400 := Or.inr (Or.inl rfl)
theorem known_five : known 501 := Or.inr (Or.inr (Or.inr (Or.inl rfl)))
theorem readC_said (l : List Nat) : (readC l).1.said = 0 ∨ ∃ c, known c ∧ (readC l).1 = ansC c := by
  unfold readC
  split
  · exact Or.inl rfl
  · split
    · exact Or.inr ⟨400, known_four, rfl⟩
    · unfold takeC
      split
      · split
        · exact Or.inr ⟨400, known_four, rfl⟩
        · exact Or.inl rfl
      · split
        · exact Or.inl rfl
        · exact Or.inr ⟨501, known_five, rfl⟩
theorem Told.add {C : Cn} {X : List Nat} (h : Told C X) (l : List Nat) : Says (addC C l).1 X := by
  have hg := h.good.add l
  refine ⟨hg, ?_⟩
  unfold addC at hg ⊢
  split
  · rename_i h0
    have hX : X = [] := by
      rcases h.said with h | ⟨c, _, _, h⟩
      · exact h
      · omega
    rw [if_pos h0] at hg
    rcases readC_said l with h1 | h1
    · exact Or.inl ⟨h1, hg, h1, Or.inl hX⟩
    · exact Or.inr ⟨hX, h1⟩
  · exact Or.inl ⟨h.none, h⟩
theorem Told.tell {C : Cn} {X : List Nat} (h : Told C X) (c : Int) : Says (tellC C c).1 X := by
  have hg := h.good.tell c
  refine ⟨hg, ?_⟩
  unfold tellC at hg ⊢
  split
  · exact Or.inl ⟨h.none, h⟩
  · rename_i h0
    split
    · exact Or.inl ⟨h.none, h⟩
    · rename_i ha
      refine Or.inr ⟨?_, c, rsn_ne.1 fun e => h0 (Or.inl e), rfl⟩
      rcases h.said with h | ⟨c, _, _, h⟩
      · exact h
      · unfold asks at ha
        rcases h with h | h <;> rw [h] at ha <;> simp at ha
theorem Told.pass {C : Cn} {X : List Nat} (h : Told C X) : Says (passC C).1 X := by
  have hg := h.good.pass
  refine ⟨hg, ?_⟩
  unfold passC at hg ⊢
  split
  · rename_i h0
    have hX : X = [] := by
      rcases h.said with h | ⟨c, _, _, h⟩
      · exact h
      · omega
    rw [if_pos h0] at hg
    exact Or.inl ⟨h.none, hg, h.none, Or.inl hX⟩
  · exact Or.inl ⟨h.none, h⟩
theorem Told.out {C : Cn} {X : List Nat} (h : Told C X) : Told (outC C) X := ⟨h.good.outs, rfl, h.said⟩
theorem Told.ans (c : Int) (h : known c) : Told (outC (ansC c)) (own c) := ⟨(Good.ans c).outs, rfl, Or.inr ⟨c, h, rfl, by
  show (if c = 200 then 3 else 5) = 3 ∨ (if c = 200 then 3 else 5) = 5
  split <;> simp⟩⟩
theorem Told.new' : Told Cn.new [] := ⟨Good.new', rfl, Or.inl rfl⟩
end Go.Proofs.YtccoddmdlbdfjaaGreatDoor
