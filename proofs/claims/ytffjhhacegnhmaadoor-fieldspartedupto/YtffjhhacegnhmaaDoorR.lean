/-
  ParsePort, Parse and ParseDest of package host; conditions as each theorem has them.
-/
import Derived.Test.YtffjhhacegnhmaaDoorI
import Derived.Test.YtffjhhacegnhmaaDoorJ
set_option linter.unusedSimpArgs false
set_option linter.unusedVariables false
namespace Go.Proofs.YtffjhhacegnhmaaDoor
open Go.RowKit

/-- A host's cells. -/
def hoC (h : Ho) : Array Value := (nums .u8 h.1 ++ [Value.string (strN h.2)]).toArray
def z5 : Array Value := #[.int .u8 0, .int .u8 0, .int .u8 0, .int .u8 0, .string ⟨#[]⟩]
theorem z5_one : z5.all (·.oneCell') = true := by simp [z5, Value.oneCell']
theorem octs_four : ∀ (ps : List (List Nat)) (i a : Nat) (acc : List Nat), (octs i a ps acc).2 ≠ .ok → (octs i a ps acc).1 = [0, 0, 0, 0]
  | [], i, a, acc, h => absurd rfl h
  | p :: ps, i, a, acc, h => by
    unfold octs at h ⊢
    split
    · rfl
    · rename_i h4
      rw [if_neg h4] at h
      split
      · rfl
      · rename_i n hn
        rw [hn] at h
        exact octs_four ps _ _ _ h
theorem octs_some : ∀ (ps : List (List Nat)) (i a : Nat) (acc : List Nat), (octs i a ps acc).2 = .ok → i ≤ 4 → i + ps.length ≤ 4
  | [], i, a, acc, _, h => by simpa using h
  | p :: ps, i, a, acc, h, hi => by
    unfold octs at h
    split at h
    · cases h
    · rename_i h4
      split at h
      · cases h
      · have := octs_some ps _ _ _ h (by omega)
        simp; omega
theorem addr_len (l : List Nat) : (addr l).1.length = 4 := by
  unfold addr
  split
  · rfl
  · split
    · rfl
    · rename_i h1 h2
      by_cases hok : (octs 0 0 (pcs l) []).2 = .ok
      · have h3 := octs_len _ _ _ _ hok
        have h4 := octs_some _ _ _ _ hok (by omega)
        simp at h3
        have : ¬ (pcs l).length < 4 := fun h => h2 ⟨hok, h⟩
        omega
      · rw [octs_four _ _ _ _ hok]; rfl
theorem octs_bytes : ∀ (ps : List (List Nat)) (i a : Nat) (acc : List Nat), (∀ x ∈ acc, x < 256) → ∀ x ∈ (octs i a ps acc).1, x < 256
  | [], i, a, acc, h => h
  | p :: ps, i, a, acc, h => by
    unfold octs
    split
    · intro x hx; simp at hx; omega
    · split
      · intro x hx; simp at hx; omega
      · rename_i n hn
        refine octs_bytes ps _ _ _ ?_
        intro x hx
        simp at hx
        rcases hx with hx | rfl
        · exact h x hx
        · unfold rd at hn
          split at hn
          · rename_i hh; simp at hn; omega
          · cases hn
theorem addr_bytes (l : List Nat) : ∀ x ∈ (addr l).1, x < 256 := by
  unfold addr
  split
  · intro x hx; simp at hx; omega
  · split
    · intro x hx; simp at hx; omega
    · exact octs_bytes _ _ _ _ (by simp)
theorem four {A : List Nat} (h : A.length = 4) : ∃ x0 x1 x2 x3, A = [x0, x1, x2, x3] := by
  match A, h with
  | [a, b, c, d], _ => exact ⟨a, b, c, d, rfl⟩

end Go.Proofs.YtffjhhacegnhmaaDoor
