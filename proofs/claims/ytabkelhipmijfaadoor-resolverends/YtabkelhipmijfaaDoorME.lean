/-
  The reader of messages: seconds; conditions as each theorem has them.
-/
import Derived.Test.YtabkelhipmijfaaDoorJoinedZ
set_option linter.unusedSimpArgs false
set_option linter.unusedVariables false
namespace Go.Proofs.YtabkelhipmijfaaDoor
open Go.RowKit
theorem or16_i64 (a b : Nat) (ha : a < 65536) (hb : b < 65536) : bits .or .i64 ((a : Int) * 65536) (b : Int) = ((a * 65536 + b : Nat) : Int) := by
  have e : (a : Int) * 65536 = ((a * 65536 : Nat) : Int) := by omega
  rw [e]
  have ho : (a * 65536) ||| b = a * 65536 + b := by
    have := Nat.two_pow_add_eq_or_of_lt (i := 16) (b := b) hb a
    rw [show (2 : Nat) ^ 16 * a = a * 65536 by omega] at this
    exact this.symm
  have h1 : (BitVec.ofInt 64 ((a * 65536 : Nat) : Int)).toNat = a * 65536 := by
    rw [BitVec.ofInt_natCast, BitVec.toNat_ofNat]; exact Nat.mod_eq_of_lt (by omega)
  have h2 : (BitVec.ofInt 64 (b : Int)).toNat = b := by
    rw [BitVec.ofInt_natCast, BitVec.toNat_ofNat]; exact Nat.mod_eq_of_lt (by omega)
  show IntKind.i64.wrap ((BitVec.ofInt 64 ((a * 65536 : Nat) : Int) ||| BitVec.ofInt 64 (b : Int)).toNat : Int) = _
  rw [BitVec.toNat_or, h1, h2, IntKind.wrap_i64, ho]
  omega
theorem and15 (h : Nat) (hh : h < 65536) : h &&& 32768 = if 32768 ≤ h then 32768 else 0 := by
  have t : h.testBit 15 = decide (32768 ≤ h) := by
    rw [Nat.testBit_eq_decide_div_mod_eq, show (2 : Nat) ^ 15 = 32768 from rfl]
    apply decide_eq_decide.2
    omega
  apply Nat.eq_of_testBit_eq
  intro i
  rw [Nat.testBit_and, show (32768 : Nat) = 2 ^ 15 from rfl, Nat.testBit_two_pow]
  by_cases hi : 15 = i
  · subst hi
    rw [t]
    split
    · rename_i hb
      rw [show (2 : Nat) ^ 15 = 32768 from rfl] at hb
      simp [hb]
      decide
    · rename_i hb
      rw [show (2 : Nat) ^ 15 = 32768 from rfl] at hb
      simp [hb]
  · have e : Nat.testBit (2 ^ 15) i = false := by rw [Nat.testBit_two_pow]; simp [hi]
    split
    · rw [e]; simp [hi]
    · simp [hi]
end Go.Proofs.YtabkelhipmijfaaDoor
