/-
  Match; conditions as each theorem has them.
-/
import Derived.Test.YtabkelhipmijfaaDoorMJ
set_option linter.unusedSimpArgs false
set_option linter.unusedVariables false
namespace Go.Proofs.YtabkelhipmijfaaDoor
open Go.RowKit
/-- What Match tells. -/
def mat (id : Int) (n : List Nat) (b : List Nat) : An × Er :=
  if (ans b).2 = .ok then (if ((ans b).1.id : Int) = id then (if (ans b).1.nm = n then ans b else (An.none, .one 12 102)) else (An.none, .one 0 102)) else (An.none, (ans b).2)
theorem IsAns.drew {w w' : World} {A : An × Er} {e : Ending} (h : IsAns w A e w') : IsAns w A e w'.drew := by
  obtain ⟨v, er, h1, h2, h3, h4⟩ := h
  exact ⟨v, er, h1, h2.keep fun _ _ => rfl, h3.keep fun _ _ _ => rfl, h4.drew⟩
theorem ans_nm_byte {b : List Nat} (hb : ∀ x ∈ b, x < 256) : ∀ x ∈ (ans b).1.nm, x < 256 := by
  unfold ans
  split
  · exact mn_byte hb _
  · intro x hx; simp [An.none] at hx
theorem strN_ne {l : List Nat} {t : ByteArray} (hb : ∀ x ∈ l, x < 256) : strN l = t ↔ l = byt t := by
  constructor
  · rintro rfl; rw [byt_strN l hb]
  · rintro rfl; exact strN_byt t
end Go.Proofs.YtabkelhipmijfaaDoor
