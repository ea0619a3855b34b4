/-
  ParseAddr of package host; conditions as each theorem has them.
-/
import Derived.Test.YtffjhhacegnhmaaGreatDoorF
set_option linter.unusedSimpArgs false
set_option linter.unusedVariables false
namespace Go.Proofs.YtffjhhacegnhmaaGreatDoor
open Go.RowKit

def z4 : Array Value := #[.int .u8 0, .int .u8 0, .int .u8 0, .int .u8 0]
theorem z4_one : z4.all (·.oneCell') = true := by simp [z4, Value.oneCell']
theorem octs_len : ∀ (ps : List (List Nat)) (i a : Nat) (acc : List Nat), (octs i a ps acc).2 = .ok → (octs i a ps acc).1.length = acc.length + ps.length
  | [], i, a, acc, _ => by simp [octs]
  | p :: ps, i, a, acc, h => by
    unfold octs at h ⊢
    split at h
    · cases h
    · rename_i h4
      rw [if_neg h4]
      split at h
      · cases h
      · rename_i n hn
        rw [octs_len ps _ _ _ h]
        simp; omega
/-- The variable that cuts texts up to a length holds some number. -/
def Vars (w : World) : Prop := ∃ m : Int, w.cell? ⟨0, 0, none⟩ = some (.int .i64 m)
theorem Vars.below {w w' : World} (h : Vars w) (k : Below w.heap.size w w') : Vars w' := by
  obtain ⟨m, hm⟩ := h
  exact ⟨m, (k.cell (p := ⟨0, 0, none⟩) (lt_of_cell hm)).trans hm⟩

end Go.Proofs.YtffjhhacegnhmaaGreatDoor
