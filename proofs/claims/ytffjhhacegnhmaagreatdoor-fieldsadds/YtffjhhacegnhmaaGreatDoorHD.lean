/-
  refuse, wrap and readField of package head; conditions as each theorem has them.
-/
import Derived.Test.YtffjhhacegnhmaaGreatDoorHC
import Derived.Test.YtffjhhacegnhmaaGreatDoorX
set_option linter.unusedSimpArgs false
set_option linter.unusedVariables false
namespace Go.Proofs.YtffjhhacegnhmaaGreatDoor
open Go.RowKit

theorem isEr_ptr {w : World} {e : Er} {v : Value} (h : IsEr w e v) (he : e ≠ .ok) : ∃ b, v = .iface 138 (.pointer (some ⟨b, 0, none⟩)) := by
  cases e with
  | ok => exact absurd rfl he
  | one a c => obtain ⟨b, hv, _⟩ := h; exact ⟨b, hv⟩
  | two a a2 c => obtain ⟨b, b2, hv, _⟩ := h; exact ⟨b, hv⟩
theorem idx_fst (d : UInt8) : ∀ l : List UInt8, Lib.index l [d] = match fst d.toNat (l.map UInt8.toNat) with | none => -1 | some k => (k : Int)
  | [] => rfl
  | c :: r => by
    have ih := idx_fst d r
    rw [Lib.index, List.map_cons, fst]
    by_cases h : c = d
    · subst h
      simp [List.isPrefixOf]
    · have hn : ¬ c.toNat = d.toNat := fun e => h (UInt8.toNat_inj.1 e)
      have hp : ([d] : List UInt8).isPrefixOf (c :: r) = false := by simp [List.isPrefixOf, Ne.symm h]
      rw [hp, if_neg hn, ih]
      cases fst d.toNat (r.map UInt8.toNat) with
      | none => simp
      | some k => simp
theorem cut_none (d : UInt8) (t : ByteArray) (h : fst d.toNat (byt t) = none) : Lib.cut t.data.toList [d] = (t.data.toList, [], false) := by
  have := idx_fst d t.data.toList
  unfold byt at h
  rw [h] at this
  unfold Lib.cut
  rw [this]; rfl
theorem cut_some (d : UInt8) (t : ByteArray) {k : Nat} (h : fst d.toNat (byt t) = some k) : Lib.cut t.data.toList [d] = (t.data.toList.take k, t.data.toList.drop (k + 1), true) := by
  have := idx_fst d t.data.toList
  unfold byt at h
  rw [h] at this
  unfold Lib.cut
  rw [this, if_pos (by simp)]
  simp
theorem strN_take (t : ByteArray) (k : Nat) : (⟨(t.data.toList.take k).toArray⟩ : ByteArray) = strN ((byt t).take k) := by
  rw [strN_mk, List.map_take]; rfl
theorem strN_drop (t : ByteArray) (k : Nat) : (⟨(t.data.toList.drop k).toArray⟩ : ByteArray) = strN ((byt t).drop k) := by
  rw [strN_mk, List.map_drop]; rfl
theorem info76 : (Tryz.prog.info? 43).map (·.size) = some 2 := by kernel_rfl
def z2 : Array Value := #[.string ⟨#[]⟩, .string ⟨#[]⟩]
/-- A field as cells. -/
def fdC (f : Fd) : Array Value := #[.string (strN f.1), .string (strN f.2)]
theorem fdC_one (f : Fd) : (fdC f).all (·.oneCell') = true := by simp [fdC, Value.oneCell']
theorem Vars.drewN {w : World} (h : Vars w) (n : Nat) : Vars (w.drewN n) := h
end Go.Proofs.YtffjhhacegnhmaaGreatDoor
