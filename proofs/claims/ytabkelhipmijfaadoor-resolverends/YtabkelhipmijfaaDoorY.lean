/-
  A walk along a name: a step, its end, and Name; conditions as each theorem has them.
-/
import Derived.Test.YtabkelhipmijfaaDoorX
import Derived.Deep.LoopGhost
set_option linter.unusedSimpArgs false
set_option linter.unusedVariables false
namespace Go.Proofs.YtabkelhipmijfaaDoor
open Go.RowKit

/-- How far a walk may still go. -/
def mea (n q p : Nat) : Nat := q * (n + 1) + (n - p)
theorem mea_led {n q p z : Nat} (h : z < q) : mea n z z < mea n q p := by
  unfold mea
  have : (z + 1) * (n + 1) ≤ q * (n + 1) := Nat.mul_le_mul_right _ h
  have e : (z + 1) * (n + 1) = z * (n + 1) + (n + 1) := by rw [Nat.add_mul, Nat.one_mul]
  omega
theorem mea_lab {n q p k : Nat} (h : p < n) (hk : 0 < k) : mea n q (p + k) < mea n q p := by unfold mea; omega
theorem andNot_i64 (x : Nat) (h : x < 65536) : bits .andNot .i64 (x : Int) 49152 = ((x % 16384 : Nat) : Int) := by
  have h1 : (BitVec.ofInt 64 (x : Int)).toNat = x := by
    rw [BitVec.ofInt_natCast, BitVec.toNat_ofNat]; exact Nat.mod_eq_of_lt (by omega)
  have h2 : (~~~ BitVec.ofInt 64 49152).toNat = 18446744073709502463 := by decide
  have hx : x &&& 65535 = x := by
    have := Nat.and_two_pow_sub_one_eq_mod x 16
    rw [show (2 : Nat) ^ 16 - 1 = 65535 from rfl] at this
    rw [this]; omega
  have ho : x &&& 18446744073709502463 = x % 16384 := by
    have e : x &&& 18446744073709502463 = x &&& (65535 &&& 18446744073709502463) := by
      rw [← Nat.and_assoc, hx]
    have := Nat.and_two_pow_sub_one_eq_mod x 14
    rw [e, show 65535 &&& 18446744073709502463 = 2 ^ 14 - 1 from rfl, this]
  show IntKind.i64.wrap ((BitVec.ofInt 64 (x : Int) &&& ~~~ BitVec.ofInt 64 49152).toNat : Int) = _
  rw [BitVec.toNat_and, h1, h2, IntKind.wrap_i64, ho]
  omega
end Go.Proofs.YtabkelhipmijfaaDoor
