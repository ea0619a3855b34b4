/-
  hasLoneEnd of package head: strings.ContainsAny at the two bytes that end a line; conditions as each theorem has them.
-/
import Derived.Test.YtffjhhacegnhmaaGreatDoorHB
import Derived.WalkMore
import Derived.Lib.OthersKept
import Derived.Deep.QuietTactic
set_option linter.unusedSimpArgs false
set_option linter.unusedVariables false
namespace Go.Proofs.YtffjhhacegnhmaaGreatDoor
open Go.RowKit

theorem getD_byt (t : ByteArray) (i : Nat) : (byt t).getD i 0 = (t.data.toList.getD i 0).toNat := by
  unfold byt
  rw [List.getD, List.getElem?_map, List.getD]
  cases t.data.toList[i]? <;> rfl
theorem get_bang (s : ByteArray) (i : Nat) (h : i < s.size) : (s.get! i).toNat = (byt s).getD i 0 := by
  rw [getD_byt]
  have h' : i < s.data.toList.length := by rw [Array.length_toList]; exact h
  rw [List.getD, List.getElem?_eq_getElem h']
  simp [ByteArray.get!, getElem!_pos, h]
end Go.Proofs.YtffjhhacegnhmaaGreatDoor
