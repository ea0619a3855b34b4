/-
  The leaf functions of package digest and of the reference, and the arithmetic of their bits; conditions as each theorem has them.
-/
import Derived.Test.YtaibdmmacncejaaDoorA
set_option linter.unusedSimpArgs false
set_option linter.unusedVariables false
namespace Go.Proofs.YtaibdmmacncejaaDoor
open Go.RowKit

theorem and7 (a : Int) : bits .and .i64 a 7 = a % 8 := by
  show IntKind.i64.wrap ((BitVec.ofInt 64 a &&& BitVec.ofInt 64 7).toNat : Int) = _
  have h7 : (BitVec.ofInt 64 7).toNat = 2 ^ 3 - 1 := by decide
  rw [BitVec.toNat_and, h7, Nat.and_two_pow_sub_one_eq_mod, BitVec.toNat_ofInt]
  simp [IntKind.wrap, IntKind.signed, IntKind.bits]
  omega

/-- Where the i-th word stands in round t. -/
def pl (i t : Nat) : Nat := (i + 7 * t) % 8
theorem pl_lt (i t : Nat) : pl i t < 8 := Nat.mod_lt _ (by omega)

set_option maxHeartbeats 400000 in
theorem place_at (i : Int) (t : Nat) (w : World) (hi : 0 ≤ i) (hi2 : i < 8) (ht : t < 64) : Calls Tryd.prog 37 #[.int .i64 i, .int .i64 t] w fun e w' => e = .returned (.int .i64 (pl i.toNat t : Nat)) ∧ w = w' := by
  have h : bits BinOp.and IntKind.i64 (i - ↑t) 7 = (pl i.toNat t : Nat) := by rw [and7, pl]; omega
  go_enter Tryd.func37, Tryd.ntmps37
  go_wp2
  go_ret
  exact ⟨rfl, rfl⟩

theorem and31 (n : Nat) (h1 : 1 ≤ n) (h2 : n ≤ 31) : bits BinOp.and IntKind.u64 (IntKind.u64.wrap (-(n : Int))) 31 = ((32 - n : Nat) : Int) := by
  have e : IntKind.u64.wrap (-(n : Int)) = ((18446744073709551616 - n : Nat) : Int) := by rw [IntKind.wrap_u64]; omega
  have k := u64_and ((18446744073709551616 - n : Nat) : Int) 31 (by omega) (by omega) (by omega) (by omega)
  rw [e, k]
  have : (((18446744073709551616 - n : Nat) : Int)).toNat &&& (31 : Int).toNat = 32 - n := by
    rw [Int.toNat_natCast, show (31 : Int).toNat = 2 ^ 5 - 1 from rfl, Nat.and_two_pow_sub_one_eq_mod]
    omega
  rw [this]

theorem or_nat (a b : Nat) (ha : a < 4294967296) (hb : b < 4294967296) : bits .or .u32 (a : Int) (b : Int) = ((a ||| b : Nat) : Int) := u32_or_nat a b ha hb
theorem rr_left (x n : Nat) (hx : x < 4294967296) : bits .or .u32 ((x : Int) / 2 ^ n) ((x : Int) * 2 ^ (32 - n) % 4294967296) = (rr x n : Nat) := by
  have e1 : (x : Int) / 2 ^ n = ((x / 2 ^ n : Nat) : Int) := by simp
  have e2 : (x : Int) * 2 ^ (32 - n) % 4294967296 = ((x * 2 ^ (32 - n) % 4294967296 : Nat) : Int) := by simp
  rw [e1, e2, or_nat _ _ (div_lt' _ hx) (mod_lt' _), rr]
theorem rr_rite (x n s : Nat) (hx : x < 4294967296) (hs : s = 32 - n) (hn : n ≤ 32) : bits .or .u32 ((x : Int) * 2 ^ s % 4294967296) ((x : Int) / 2 ^ (32 - s)) = (rr x n : Nat) := by
  have e1 : (x : Int) / 2 ^ (32 - s) = ((x / 2 ^ (32 - s) : Nat) : Int) := by simp
  have e2 : (x : Int) * 2 ^ s % 4294967296 = ((x * 2 ^ s % 4294967296 : Nat) : Int) := by simp
  rw [e1, e2, or_nat _ _ (mod_lt' _) (div_lt' _ hx), rr, Nat.or_comm, hs, show 32 - (32 - n) = n by omega]

set_option maxHeartbeats 400000 in
theorem rot_at (x n : Nat) (w : World) (hx : x < 4294967296) (h1 : 1 ≤ n) (h2 : n ≤ 31) : Calls Tryd.prog 38 #[.int .u32 x, .int .i64 (-(n : Int))] w fun e w' => e = .returned (.int .u32 (rr x n : Nat)) ∧ w = w' := by
  have h := and31 n h1 h2
  obtain ⟨s, hs⟩ : ∃ s, s = 32 - n := ⟨_, rfl⟩
  rw [← hs] at h
  have hs1 : 1 ≤ s := by omega
  have hs2 : s ≤ 31 := by omega
  have HS := hide hs
  clear hs
  go_enter Tryd.func38, Tryd.ntmps38
  go_wp2
  go_ret
  refine ⟨?_, rfl⟩
  rw [← rr_rite x n s hx HS.out (by omega)]
  rfl

set_option maxHeartbeats 400000 in
/-- 'right' of package digest. -/
theorem right_at (x : Nat) (k : Int) (w : World) (hx : x < 4294967296) (h1 : 1 ≤ k) (h2 : k ≤ 31) : Calls Tryd.prog 36 #[.int .u32 x, .int .i64 k] w fun e w' => e = .returned (.int .u32 (rr x k.toNat : Nat)) ∧ w = w' := by
  obtain ⟨n, rfl⟩ := Int.eq_ofNat_of_zero_le (show 0 ≤ k by omega)
  go_enter Tryd.func36, Tryd.ntmps36
  go_wp2_with fail
  refine (rot_at x n _ hx (by omega) (by omega)).mono ?_
  rintro e w1 ⟨rfl, rfl⟩
  go_wp2
  go_ret
  exact ⟨rfl, rfl⟩

set_option maxHeartbeats 400000 in
/-- 'right' of the reference. -/
theorem rright_at (x : Nat) (k : Int) (w : World) (hx : x < 4294967296) (h1 : 1 ≤ k) (h2 : k ≤ 31) : Calls Tryd.prog 32 #[.int .u32 x, .int .u64 k] w fun e w' => e = .returned (.int .u32 (rr x k.toNat : Nat)) ∧ w = w' := by
  obtain ⟨n, rfl⟩ := Int.eq_ofNat_of_zero_le (show 0 ≤ k by omega)
  have h3 : n ≤ 31 := by omega
  go_enter Tryd.func32, Tryd.ntmps32
  go_wp2
  go_ret
  refine ⟨?_, rfl⟩
  rw [Int.toNat_natCast, ← rr_left x n hx]
  rfl

set_option maxHeartbeats 400000 in
theorem isMade_at (r : Nat) (b : Bool) (w : World) (h : w.cell? ⟨r, 0, none⟩ = some (.bool b)) : Calls Tryd.prog 24 #[.pointer (some ⟨r, 0, none⟩)] w fun e w' => e = .returned (.bool b) ∧ w = w' := by
  go_enter Tryd.func24, Tryd.ntmps24
  go_wp2
  go_ret
  exact ⟨rfl, rfl⟩
set_option maxHeartbeats 400000 in
theorem isMade_nil (w : World) : Calls Tryd.prog 24 #[.pointer none] w fun e w' => e = .returned (.bool false) ∧ w = w' := by
  go_enter Tryd.func24, Tryd.ntmps24
  go_wp2
  go_ret
  exact ⟨rfl, rfl⟩

set_option maxHeartbeats 400000 in
theorem filled_at (r c : Nat) (w : World) (h : w.cell? ⟨r, 73, none⟩ = some (.int .u64 c)) (hc : c < 9223372036854775808) : Calls Tryd.prog 25 #[.pointer (some ⟨r, 0, none⟩)] w fun e w' => e = .returned (.int .i64 (c % 64 : Nat)) ∧ w = w' := by
  go_enter Tryd.func25, Tryd.ntmps25
  go_wp2
  go_ret
  exact ⟨rfl, rfl⟩

/-- What a digit stands for, if it is one. -/
def unhx (c : Nat) : Option Nat := if 48 ≤ c ∧ c ≤ 57 then some (c - 48) else if 97 ≤ c ∧ c ≤ 102 then some (c - 87) else none

set_option maxHeartbeats 400000 in
theorem hexValue_at (c : Nat) (w : World) (hc : c < 256) : Calls Tryd.prog 29 #[.int .u8 c] w fun e w' => e = .returned (.tuple #[.int .u8 ((unhx c).getD 0 : Nat), .bool (unhx c).isSome]) ∧ w = w' := by
  by_cases h1 : 48 ≤ c ∧ c ≤ 57
  · obtain ⟨a, b⟩ := h1
    have e : unhx c = some (c - 48) := if_pos ⟨a, b⟩
    have HE := hide e
    clear e
    go_enter Tryd.func29, Tryd.ntmps29
    go_wp2
    go_ret2
    refine ⟨?_, rfl⟩
    rw [HE.out]
    simp
    omega
  · have e0 : unhx c = if 97 ≤ c ∧ c ≤ 102 then some (c - 87) else none := if_neg h1
    have h1' : c < 48 ∨ 57 < c := by omega
    by_cases h2 : 97 ≤ c ∧ c ≤ 102
    · obtain ⟨a, b⟩ := h2
      have e : unhx c = some (c - 87) := by rw [e0]; exact if_pos ⟨a, b⟩
      have HE := hide e
      have a1 : 48 ≤ c := by omega
      have a2 : 57 < c := by omega
      clear e e0 h1 h1'
      go_enter Tryd.func29, Tryd.ntmps29
      go_wp2
      go_ret2
      refine ⟨?_, rfl⟩
      rw [HE.out]
      simp
      omega
    · have e : unhx c = none := by rw [e0]; exact if_neg h2
      have HE := hide e
      have h2' : c < 97 ∨ 102 < c := by omega
      clear e e0 h1 h2
      rcases h1' with h1' | h1'
      · have b1 : c < 97 := by omega
        clear h2'
        go_enter Tryd.func29, Tryd.ntmps29
        go_wp2
        go_ret2
        refine ⟨?_, rfl⟩
        rw [HE.out]
        rfl
      · have a1 : 48 ≤ c := by omega
        rcases h2' with h2' | h2'
        · go_enter Tryd.func29, Tryd.ntmps29
          go_wp2
          go_ret2
          refine ⟨?_, rfl⟩
          rw [HE.out]
          rfl
        · have a2 : 97 ≤ c := by omega
          go_enter Tryd.func29, Tryd.ntmps29
          go_wp2
          go_ret2
          refine ⟨?_, rfl⟩
          rw [HE.out]
          rfl

end Go.Proofs.YtaibdmmacncejaaDoor
