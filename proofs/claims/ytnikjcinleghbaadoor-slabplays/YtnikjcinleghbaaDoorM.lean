/-
  The arithmetic behind counting the one bits of a word by parallel sums, and behind a set of numbers kept as bits in words; of no program.
-/
import Derived.Test.YtnikjcinleghbaaDoorRows
import Derived.Lib.BitFns
import Derived.Lib.TrailingZeros
import Derived.Laws.Bits64b
set_option linter.unusedSimpArgs false
set_option linter.unusedVariables false
namespace Go.Proofs.YtnikjcinleghbaaDoor
open Go.Lib

theorem and_dig (y m d c : Nat) (hd : d < 256) (hc : c < 256) : (256 * y + d) &&& (256 * m + c) = 256 * (y &&& m) + (d &&& c) := by
  apply Nat.eq_of_testBit_eq
  intro i
  have h1 : d < 2 ^ 8 := hd
  have h2 : c < 2 ^ 8 := hc
  have h3 : (d &&& c) < 2 ^ 8 := Nat.and_lt_two_pow _ h2
  rw [Nat.testBit_and, show (256 : Nat) = 2 ^ 8 from rfl, Nat.testBit_two_pow_mul_add _ h1, Nat.testBit_two_pow_mul_add _ h2, Nat.testBit_two_pow_mul_add _ h3]
  split
  · simp
  · simp

/-- n bytes c. -/
def rep (c : Nat) : Nat → Nat
  | 0 => 0
  | n + 1 => 256 * rep c n + c

def S1 (n x : Nat) : Nat := ((x / 2) &&& rep 0x55 n) + (x &&& rep 0x55 n)
def S2 (n x : Nat) : Nat := ((x / 4) &&& rep 0x33 n) + (x &&& rep 0x33 n)
def S3 (n x : Nat) : Nat := (x / 16 + x) &&& rep 0x0f n

def s1 (b : Nat) : Nat := ((b / 2) &&& 0x55) + (b &&& 0x55)
def s2 (b : Nat) : Nat := ((b / 4) &&& 0x33) + (b &&& 0x33)

theorem s1_hi : ∀ b : Fin 256, (128 + b.val / 2) &&& 0x55 = (b.val / 2) &&& 0x55 := by decide +kernel
theorem s1_lt : ∀ b : Fin 256, s1 b.val < 256 := by decide +kernel
theorem s2_hi : ∀ b : Fin 256, (64 + b.val / 4) &&& 0x33 = (b.val / 4) &&& 0x33 ∧ (128 + b.val / 4) &&& 0x33 = (b.val / 4) &&& 0x33 ∧ (192 + b.val / 4) &&& 0x33 = (b.val / 4) &&& 0x33 := by decide +kernel
theorem s2_lt : ∀ b : Fin 256, s2 b.val < 256 := by decide +kernel
theorem s12 : ∀ b : Fin 256, s2 (s1 b.val) < 256 ∧ s2 (s1 b.val) % 16 ≤ 4 ∧ s2 (s1 b.val) / 16 ≤ 4 ∧ s2 (s1 b.val) % 16 + s2 (s1 b.val) / 16 = popAux 8 b.val := by decide +kernel
theorem pop8_le : ∀ b : Fin 256, popAux 8 b.val ≤ 8 := by decide +kernel

theorem S1_succ (n h b : Nat) (hb : b < 256) : S1 (n + 1) (256 * h + b) = 256 * S1 n h + s1 b := by
  unfold S1 s1
  have e : (256 * h + b) / 2 = 256 * (h / 2) + (128 * (h % 2) + b / 2) := by omega
  have hd : (128 * (h % 2) + b / 2) &&& 0x55 = (b / 2) &&& 0x55 := by
    have := s1_hi ⟨b, hb⟩
    rcases Nat.mod_two_eq_zero_or_one h with e | e
    · rw [e]; simp
    · rw [e]; simpa using this
  rw [rep, e, and_dig _ _ _ _ (by omega) (by omega), and_dig _ _ _ _ hb (by omega), hd]
  omega

theorem S2_succ (n h b : Nat) (hb : b < 256) : S2 (n + 1) (256 * h + b) = 256 * S2 n h + s2 b := by
  unfold S2 s2
  have e : (256 * h + b) / 4 = 256 * (h / 4) + (64 * (h % 4) + b / 4) := by omega
  have hd : (64 * (h % 4) + b / 4) &&& 0x33 = (b / 4) &&& 0x33 := by
    obtain ⟨k1, k2, k3⟩ := s2_hi ⟨b, hb⟩
    have h4 : h % 4 = 0 ∨ h % 4 = 1 ∨ h % 4 = 2 ∨ h % 4 = 3 := by omega
    rcases h4 with e | e | e | e
    · rw [e]; simp
    · rw [e]; simpa using k1
    · rw [e]; simpa using k2
    · rw [e]; simpa using k3
  rw [rep, e, and_dig _ _ _ _ (by omega) (by omega), and_dig _ _ _ _ hb (by omega), hd]
  omega

theorem and15 (x : Nat) : x &&& 15 = x % 16 := Nat.and_two_pow_sub_one_eq_mod x 4

theorem S3_succ (n h c : Nat) (hc : c < 256) (h0 : h % 16 ≤ 4) (h1 : c % 16 ≤ 4) (h2 : c / 16 ≤ 4) : S3 (n + 1) (256 * h + c) = 256 * S3 n h + (c % 16 + c / 16) := by
  unfold S3
  have e : (256 * h + c) / 16 + (256 * h + c) = 256 * (h / 16 + h) + (16 * (h % 16) + c / 16 + c) := by omega
  rw [rep, e, and_dig _ _ _ _ (by omega) (by omega), and15]
  omega

def S (n x : Nat) : Nat := S3 n (S2 n (S1 n x))

theorem S_mod (n h : Nat) : S2 n (S1 n h) % 16 ≤ 4 := by
  cases n with
  | zero => simp [S2, rep]
  | succ n =>
    obtain ⟨l, b, hb, rfl⟩ : ∃ l b, b < 256 ∧ h = 256 * l + b := ⟨h / 256, h % 256, by omega, by omega⟩
    rw [S1_succ n l b hb, S2_succ n _ (s1 b) (s1_lt ⟨b, hb⟩)]
    have := (s12 ⟨b, hb⟩).2.1
    simp only at this
    omega

theorem S_succ (n h b : Nat) (hb : b < 256) : S (n + 1) (256 * h + b) = 256 * S n h + popAux 8 b := by
  unfold S
  obtain ⟨k0, k1, k2, k3⟩ := s12 ⟨b, hb⟩
  rw [S1_succ n h b hb, S2_succ n _ (s1 b) (s1_lt ⟨b, hb⟩), S3_succ n _ (s2 (s1 b)) k0 (S_mod n h) k1 k2, k3]

theorem pop_add : ∀ (a n x : Nat), popAux (a + n) x = popAux a x + popAux n (x / 2 ^ a)
  | 0, n, x => by simp [popAux]
  | a + 1, n, x => by
    rw [Nat.add_right_comm, popAux, popAux, pop_add a n (x / 2), Nat.div_div_eq_div_mul, Nat.pow_succ, Nat.mul_comm 2]
    omega

theorem pop_low : ∀ (a h b : Nat), popAux a (2 ^ a * h + b) = popAux a b
  | 0, _, _ => by simp [popAux]
  | a + 1, h, b => by
    rw [popAux, popAux, Nat.pow_succ]
    have e1 : (2 ^ a * 2 * h + b) % 2 = b % 2 := by
      rw [Nat.mul_comm (2 ^ a) 2, Nat.mul_assoc]; omega
    have e2 : (2 ^ a * 2 * h + b) / 2 = 2 ^ a * h + b / 2 := by
      rw [Nat.mul_comm (2 ^ a) 2, Nat.mul_assoc]; omega
    rw [e1, e2, pop_low a h (b / 2)]

theorem pop_dig (n h b : Nat) (hb : b < 256) : popAux (n + 8) (256 * h + b) = popAux n h + popAux 8 b := by
  rw [Nat.add_comm n, pop_add, show (256 : Nat) = 2 ^ 8 from rfl, pop_low]
  have : (2 ^ 8 * h + b) / 2 ^ 8 = h := by omega
  rw [this]
  omega

/-- The three last sums: the bytes are added up in the lowest one. -/
theorem last_sums (y p : Nat) (c0 c1 c2 c3 c4 c5 c6 c7 : Nat) (h0 : c0 ≤ 8) (h1 : c1 ≤ 8) (h2 : c2 ≤ 8) (h3 : c3 ≤ 8) (h4 : c4 ≤ 8) (h5 : c5 ≤ 8) (h6 : c6 ≤ 8) (h7 : c7 ≤ 8)
    (hy : y = 256 * (256 * (256 * (256 * (256 * (256 * (256 * c7 + c6) + c5) + c4) + c3) + c2) + c1) + c0) :
    y < 9223372036854775808 / 4 ∧ ∀ y4 y5 y6, y4 = y + y / 256 → y5 = y4 + y4 / 65536 → y6 = y5 + y5 / 4294967296 → y6 < 9223372036854775808 ∧ y6 % 128 = c0 + c1 + c2 + c3 + c4 + c5 + c6 + c7 := by
  refine ⟨by omega, ?_⟩
  intro y4 y5 y6 e4 e5 e6
  have k4 : y4 = 256 * (256 * (256 * (256 * (256 * (256 * (256 * c7 + (c7 + c6)) + (c6 + c5)) + (c5 + c4)) + (c4 + c3)) + (c3 + c2)) + (c2 + c1)) + (c1 + c0) := by omega
  have k5 : y5 = 256 * (256 * (256 * (256 * (256 * (256 * (256 * c7 + (c7 + c6)) + (c7 + c6 + c5)) + (c7 + c6 + c5 + c4)) + (c6 + c5 + c4 + c3)) + (c5 + c4 + c3 + c2)) + (c4 + c3 + c2 + c1)) + (c3 + c2 + c1 + c0) := by
    clear e6 hy e4
    have e : y4 / 65536 = 256 * (256 * (256 * (256 * (256 * c7 + (c7 + c6)) + (c6 + c5)) + (c5 + c4)) + (c4 + c3)) + (c3 + c2) := by omega
    omega
  clear e4 e5 k4 hy
  have e : y5 / 4294967296 = 256 * (256 * (256 * c7 + (c7 + c6)) + (c7 + c6 + c5)) + (c7 + c6 + c5 + c4) := by omega
  omega

theorem swar (x : Nat) (hx : x < 18446744073709551616) : ∃ y, S 8 x = y ∧ y < 9223372036854775808 / 4 ∧ ∀ y4 y5 y6, y4 = y + y / 256 → y5 = y4 + y4 / 65536 → y6 = y5 + y5 / 4294967296 → y6 < 9223372036854775808 ∧ y6 % 128 = onesCount x := by
  obtain ⟨x1, b0, g0, rfl⟩ : ∃ l b, b < 256 ∧ x = 256 * l + b := ⟨x / 256, x % 256, by omega, by omega⟩
  obtain ⟨x2, b1, g1, rfl⟩ : ∃ l b, b < 256 ∧ x1 = 256 * l + b := ⟨x1 / 256, x1 % 256, by omega, by omega⟩
  obtain ⟨x3, b2, g2, rfl⟩ : ∃ l b, b < 256 ∧ x2 = 256 * l + b := ⟨x2 / 256, x2 % 256, by omega, by omega⟩
  obtain ⟨x4, b3, g3, rfl⟩ : ∃ l b, b < 256 ∧ x3 = 256 * l + b := ⟨x3 / 256, x3 % 256, by omega, by omega⟩
  obtain ⟨x5, b4, g4, rfl⟩ : ∃ l b, b < 256 ∧ x4 = 256 * l + b := ⟨x4 / 256, x4 % 256, by omega, by omega⟩
  obtain ⟨x6, b5, g5, rfl⟩ : ∃ l b, b < 256 ∧ x5 = 256 * l + b := ⟨x5 / 256, x5 % 256, by omega, by omega⟩
  obtain ⟨x7, b6, g6, rfl⟩ : ∃ l b, b < 256 ∧ x6 = 256 * l + b := ⟨x6 / 256, x6 % 256, by omega, by omega⟩
  have g7 : x7 < 256 := by omega
  have hS : ∀ z, S 0 z = 0 := fun z => by simp [S, S3, rep]
  have e7 : S 1 x7 = popAux 8 x7 := by
    have := S_succ 0 0 x7 g7
    rw [hS] at this
    simpa using this
  have e7' : popAux 8 x7 = popAux (0 + 8) x7 := rfl
  have eo : onesCount (256 * (256 * (256 * (256 * (256 * (256 * (256 * x7 + b6) + b5) + b4) + b3) + b2) + b1) + b0) = popAux 8 b0 + popAux 8 b1 + popAux 8 b2 + popAux 8 b3 + popAux 8 b4 + popAux 8 b5 + popAux 8 b6 + popAux 8 x7 := by
    unfold onesCount
    rw [pop_dig 56 _ _ g0, pop_dig 48 _ _ g1, pop_dig 40 _ _ g2, pop_dig 32 _ _ g3, pop_dig 24 _ _ g4, pop_dig 16 _ _ g5, pop_dig 8 _ _ g6]
    omega
  rw [eo]
  rw [S_succ 7 _ _ g0, S_succ 6 _ _ g1, S_succ 5 _ _ g2, S_succ 4 _ _ g3, S_succ 3 _ _ g4, S_succ 2 _ _ g5, S_succ 1 _ _ g6, e7]
  obtain ⟨l1, l2⟩ := last_sums _ 0 _ _ _ _ _ _ _ _ (pop8_le ⟨b0, g0⟩) (pop8_le ⟨b1, g1⟩) (pop8_le ⟨b2, g2⟩) (pop8_le ⟨b3, g3⟩) (pop8_le ⟨b4, g4⟩) (pop8_le ⟨b5, g5⟩) (pop8_le ⟨b6, g6⟩) (pop8_le ⟨x7, g7⟩) rfl
  exact ⟨_, rfl, l1, l2⟩

theorem rep55 : rep 0x55 8 = 6148914691236517205 := by decide +kernel
theorem rep33 : rep 0x33 8 = 3689348814741910323 := by decide +kernel
theorem rep0f : rep 0x0f 8 = 1085102592571150095 := by decide +kernel

theorem bits_and_i64_nat (a b : Nat) (ha : a < 9223372036854775808) (hb : b < 9223372036854775808) : bits .and .i64 (a : Int) (b : Int) = ((a &&& b : Nat) : Int) := by
  have hx : a &&& b < 2 ^ 63 := Nat.and_lt_two_pow _ (by omega)
  have h1 : (BitVec.ofInt 64 (a : Int)).toNat = a := by
    rw [BitVec.ofInt_natCast, BitVec.toNat_ofNat]; exact Nat.mod_eq_of_lt (by omega)
  have h2 : (BitVec.ofInt 64 (b : Int)).toNat = b := by
    rw [BitVec.ofInt_natCast, BitVec.toNat_ofNat]; exact Nat.mod_eq_of_lt (by omega)
  show IntKind.i64.wrap ((BitVec.ofInt 64 (a : Int) &&& BitVec.ofInt 64 (b : Int)).toNat : Int) = _
  rw [BitVec.toNat_and, h1, h2]
  simp [IntKind.wrap, IntKind.signed, IntKind.bits]
  omega

theorem bits_andNot_u64_nat (a b : Nat) (ha : a < 18446744073709551616) (hb : b < 18446744073709551616) : bits .andNot .u64 (a : Int) (b : Int) = ((a &&& (18446744073709551615 - b) : Nat) : Int) := by
  have hx : a &&& (18446744073709551615 - b) < 2 ^ 64 := Nat.and_lt_two_pow _ (by omega)
  have h1 : (BitVec.ofInt 64 (a : Int)).toNat = a := by
    rw [BitVec.ofInt_natCast, BitVec.toNat_ofNat]; exact Nat.mod_eq_of_lt (by omega)
  have h2 : (BitVec.ofInt 64 (b : Int)).toNat = b := by
    rw [BitVec.ofInt_natCast, BitVec.toNat_ofNat]; exact Nat.mod_eq_of_lt (by omega)
  show IntKind.u64.wrap ((BitVec.ofInt 64 (a : Int) &&& ~~~ BitVec.ofInt 64 (b : Int)).toNat : Int) = _
  rw [BitVec.toNat_and, BitVec.toNat_not, h1, h2, IntKind.wrap_u64]
  have e : 2 ^ 64 - 1 - b = 18446744073709551615 - b := by omega
  rw [e]
  omega

/-- Is k in the set that the words keep? -/
def bit (ws : List Nat) (k : Nat) : Bool := (ws.getD (k / 64) 0).testBit (k % 64)
def wset (ws : List Nat) (b : Nat) : List Nat := ws.set (b / 64) (ws.getD (b / 64) 0 ||| 2 ^ (b % 64))
def wclr (ws : List Nat) (b : Nat) : List Nat := ws.set (b / 64) (ws.getD (b / 64) 0 &&& (18446744073709551615 - 2 ^ (b % 64)))

theorem pow_lt64 (b : Nat) : 2 ^ (b % 64) < 18446744073709551616 := by
  have : 2 ^ (b % 64) < 2 ^ 64 := Nat.pow_lt_pow_right (by omega) (by omega)
  simpa using this

theorem getD_set (ws : List Nat) (i x j : Nat) (hi : i < ws.length) : (ws.set i x).getD j 0 = if i = j then x else ws.getD j 0 := by
  simp only [List.getD, List.getElem?_set]
  by_cases h : i = j
  · subst h; simp [hi]
  · simp [h]

theorem getDb_set (hs : List Bool) (i : Nat) (x : Bool) (j : Nat) (hi : i < hs.length) : (hs.set i x).getD j true = if i = j then x else hs.getD j true := by
  simp only [List.getD, List.getElem?_set]
  by_cases h : i = j
  · subst h; simp [hi]
  · simp [h]

/-- The words keep which of the blocks are free; hs tells which are held. -/
structure Frees (ws : List Nat) (hs : List Bool) : Prop where
  len : ws.length = 64
  lt : ∀ i, ws.getD i 0 < 18446744073709551616
  bits : ∀ k, k < 4096 → bit ws k = !(hs.getD k true)

theorem testBit_mask (m k : Nat) (hm : m < 64) (hk : k < 64) : (18446744073709551615 - 2 ^ m).testBit k = !decide (m = k) := by
  have h : 2 ^ m < 2 ^ 64 := Nat.pow_lt_pow_right (by omega) hm
  have e : 18446744073709551615 - 2 ^ m = 2 ^ 64 - (2 ^ m + 1) := by omega
  rw [e, Nat.testBit_two_pow_sub_succ h]
  simp [hk, Nat.testBit_two_pow]

theorem bit_wset (ws : List Nat) (b k : Nat) (hl : ws.length = 64) (hb : b < 4096) (hk : k < 4096) : bit (wset ws b) k = (decide (b = k) || bit ws k) := by
  unfold bit wset
  rw [getD_set _ _ _ _ (by omega)]
  by_cases h : b / 64 = k / 64
  · rw [if_pos h, Nat.testBit_or, Nat.testBit_two_pow, h]
    have : decide (b % 64 = k % 64) = decide (b = k) := by
      apply decide_eq_decide.2
      omega
    rw [this, Bool.or_comm]
  · rw [if_neg h]
    have : decide (b = k) = false := decide_eq_false (by rintro rfl; exact h rfl)
    rw [this]
    simp

theorem bit_wclr (ws : List Nat) (b k : Nat) (hl : ws.length = 64) (hb : b < 4096) (hk : k < 4096) : bit (wclr ws b) k = (!decide (b = k) && bit ws k) := by
  unfold bit wclr
  rw [getD_set _ _ _ _ (by omega)]
  by_cases h : b / 64 = k / 64
  · rw [if_pos h, Nat.testBit_and, testBit_mask _ _ (by omega) (by omega), h]
    have : decide (b % 64 = k % 64) = decide (b = k) := by
      apply decide_eq_decide.2
      omega
    rw [this, Bool.and_comm]
  · rw [if_neg h]
    have : decide (b = k) = false := decide_eq_false (by rintro rfl; exact h rfl)
    rw [this]
    simp

theorem Frees.put {ws : List Nat} {hs : List Bool} (h : Frees ws hs) (b : Nat) (hb : b < hs.length) (hb' : b < 4096) : Frees (wset ws b) (hs.set b false) := by
  refine ⟨by simp [wset, h.len], fun i => ?_, fun k hk => ?_⟩
  · unfold wset
    rw [getD_set _ _ _ _ (by rw [h.len]; omega)]
    split
    · have := Nat.or_lt_two_pow (n := 64) (x := ws.getD (b / 64) 0) (y := 2 ^ (b % 64)) (by simpa using h.lt (b / 64)) (by simpa using pow_lt64 b)
      simpa using this
    · exact h.lt i
  · rw [bit_wset _ _ _ h.len hb' hk, h.bits k hk, getDb_set _ _ _ _ hb]
    by_cases e : b = k <;> simp [e]

theorem Frees.get {ws : List Nat} {hs : List Bool} (h : Frees ws hs) (b : Nat) (hb : b < hs.length) (hb' : b < 4096) : Frees (wclr ws b) (hs.set b true) := by
  refine ⟨by simp [wclr, h.len], fun i => ?_, fun k hk => ?_⟩
  · unfold wclr
    rw [getD_set _ _ _ _ (by rw [h.len]; omega)]
    split
    · have := Nat.and_lt_two_pow (n := 64) (ws.getD (b / 64) 0) (y := 18446744073709551615 - 2 ^ (b % 64)) (Nat.lt_of_le_of_lt (Nat.sub_le _ _) (by decide))
      simpa using this
    · exact h.lt i
  · rw [bit_wclr _ _ _ h.len hb' hk, h.bits k hk, getDb_set _ _ _ _ hb]
    by_cases e : b = k <;> simp [e]

def allFree (n : Nat) : List Bool := List.replicate n false
theorem allFree_getD (n k : Nat) : (allFree n).getD k true = decide (¬ k < n) := by
  simp only [allFree, List.getD, List.getElem?_replicate]
  by_cases h : k < n <;> simp [h]

theorem frees_none : Frees (List.replicate 64 0) (allFree 0) := by
  refine ⟨by simp, fun i => ?_, fun k hk => ?_⟩
  · simp only [List.getD, List.getElem?_replicate]
    split <;> simp
  · rw [allFree_getD]
    unfold bit
    simp only [List.getD, List.getElem?_replicate]
    split <;> simp

theorem Frees.more {ws : List Nat} {j : Nat} (h : Frees ws (allFree j)) (hj : j < 4096) : Frees (wset ws j) (allFree (j + 1)) := by
  refine ⟨by simp [wset, h.len], fun i => ?_, fun k hk => ?_⟩
  · unfold wset
    rw [getD_set _ _ _ _ (by rw [h.len]; omega)]
    split
    · have := Nat.or_lt_two_pow (n := 64) (x := ws.getD (j / 64) 0) (y := 2 ^ (j % 64)) (by simpa using h.lt (j / 64)) (by simpa using pow_lt64 j)
      simpa using this
    · exact h.lt i
  · rw [bit_wset _ _ _ h.len hj hk, h.bits k hk, allFree_getD, allFree_getD]
    by_cases e : j = k
    · simp [e]
    · have : (k < j + 1) = (k < j) := by apply propext; omega
      simp [e, this]

/-- The least block that is not held; as many as there are, if all are. -/
def lst : List Bool → Nat
  | [] => 0
  | true :: t => lst t + 1
  | false :: _ => 0

theorem lst_le : ∀ hs, lst hs ≤ hs.length
  | [] => Nat.le_refl _
  | true :: t => by simp [lst]; exact lst_le t
  | false :: t => by simp [lst]

theorem lst_eq : ∀ (hs : List Bool) (k : Nat), k < hs.length → hs.getD k true = false → (∀ j, j < k → hs.getD j true = true) → lst hs = k
  | [], k, h, _, _ => by simp at h
  | true :: t, 0, _, h1, _ => by simp at h1
  | true :: t, k + 1, h0, h1, h2 => by
    simp only [lst]
    rw [lst_eq t k (by simpa using h0) (by simpa using h1) (fun j hj => by simpa using h2 (j + 1) (by omega))]
  | false :: t, 0, _, _, _ => rfl
  | false :: t, k + 1, _, _, h2 => by have := h2 0 (by omega); simp at this

theorem lst_all : ∀ (hs : List Bool), (∀ j, j < hs.length → hs.getD j true = true) → lst hs = hs.length
  | [], _ => rfl
  | true :: t, h => by
    simp only [lst, List.length_cons]
    rw [lst_all t (fun j hj => by simpa using h (j + 1) (by simpa using hj))]
  | false :: t, h => by have := h 0 (by simp); simp at this

theorem lst_held : ∀ (hs : List Bool) (j : Nat), j < lst hs → hs.getD j true = true
  | [], j, _ => by simp
  | true :: t, 0, _ => by simp
  | true :: t, j + 1, h => by simpa using lst_held t j (by simpa [lst] using h)
  | false :: t, j, h => by simp [lst] at h

theorem lst_free : ∀ (hs : List Bool), lst hs < hs.length → hs.getD (lst hs) true = false
  | [], h => by simp [lst] at h
  | true :: t, h => by simpa [lst] using lst_free t (by simpa [lst] using h)
  | false :: t, h => by simp [lst]

theorem ctz_bit (x : Nat) (h0 : x ≠ 0) (hx : x < 18446744073709551616) : ctz 64 x < 64 ∧ x.testBit (ctz 64 x) = true ∧ ∀ j, j < ctz 64 x → x.testBit j = false := by
  have hc : ctz 64 x = ctzFrom 64 x := by unfold ctz; rw [if_neg h0]
  rw [hc]
  obtain ⟨m, hm, hk⟩ := ctzFrom_spec 64 x (by omega) (by simpa using hx)
  generalize ctzFrom 64 x = c at hm hk ⊢
  clear hc
  subst hm
  refine ⟨hk, ?_, fun j hj => ?_⟩
  · rw [Nat.mul_comm, Nat.testBit_mul_two_pow]
    simp
  · rw [Nat.mul_comm, Nat.testBit_mul_two_pow]
    simp; omega

theorem least_found {ws : List Nat} {hs : List Bool} (h : Frees ws hs) (i : Nat) (hi : i < 64) (hz : ∀ j, j < i → ws.getD j 0 = 0) (hn : ws.getD i 0 ≠ 0) : i * 64 + ctz 64 (ws.getD i 0) < hs.length ∧ lst hs = i * 64 + ctz 64 (ws.getD i 0) := by
  obtain ⟨k1, k2, k3⟩ := ctz_bit _ hn (h.lt i)
  generalize ctz 64 (ws.getD i 0) = c at k1 k2 k3 ⊢
  have hb := h.bits (i * 64 + c) (by omega)
  unfold bit at hb
  rw [show (i * 64 + c) / 64 = i by omega, show (i * 64 + c) % 64 = c by omega, k2] at hb
  have hb : hs.getD (i * 64 + c) true = false := by simpa using hb
  have hl : i * 64 + c < hs.length := by
    apply Nat.lt_of_not_le
    intro hle
    simp [List.getD, List.getElem?_eq_none hle] at hb
  refine ⟨hl, lst_eq hs _ hl hb fun j hj => ?_⟩
  have hbj := h.bits j (by omega)
  unfold bit at hbj
  by_cases hd : j / 64 < i
  · rw [hz _ hd] at hbj
    simpa using hbj
  · have hd : j / 64 = i := by omega
    rw [hd, k3 _ (by omega)] at hbj
    simpa using hbj

theorem least_none {ws : List Nat} {hs : List Bool} (h : Frees ws hs) (hl : hs.length ≤ 4096) (hz : ∀ j, j < 64 → ws.getD j 0 = 0) : lst hs = hs.length := by
  refine lst_all hs fun j hj => ?_
  have hbj := h.bits j (by omega)
  unfold bit at hbj
  rw [hz _ (by omega)] at hbj
  simpa using hbj

/-- How many of the first n are. -/
def sumB : Nat → (Nat → Bool) → Nat
  | 0, _ => 0
  | n + 1, f => sumB n f + (f n).toNat

theorem sumB_add (a : Nat) : ∀ (b : Nat) (f : Nat → Bool), sumB (a + b) f = sumB a f + sumB b (fun k => f (a + k))
  | 0, f => by simp [sumB]
  | b + 1, f => by
    rw [← Nat.add_assoc, sumB, sumB, sumB_add a b f]
    omega

theorem sumB_congr : ∀ (n : Nat) (f g : Nat → Bool), (∀ k, k < n → f k = g k) → sumB n f = sumB n g
  | 0, _, _, _ => rfl
  | n + 1, f, g, h => by rw [sumB, sumB, sumB_congr n f g (fun k hk => h k (by omega)), h n (by omega)]

theorem sumB_front (n : Nat) (f : Nat → Bool) : sumB (n + 1) f = (f 0).toNat + sumB n (fun k => f (k + 1)) := by
  rw [Nat.add_comm n 1, sumB_add]
  simp [sumB, Nat.add_comm]

theorem pop_sumB : ∀ (n x : Nat), popAux n x = sumB n (fun k => x.testBit k)
  | 0, _ => rfl
  | n + 1, x => by
    rw [popAux, sumB_front, pop_sumB n (x / 2)]
    have e : (x.testBit 0).toNat = x % 2 := by
      rw [Nat.testBit_zero]
      rcases Nat.mod_two_eq_zero_or_one x with h | h <;> simp [h]
    rw [e]
    congr 1
    exact sumB_congr n _ _ fun k hk => by rw [Nat.testBit_succ]

def cnt (ws : List Nat) : Nat → Nat
  | 0 => 0
  | i + 1 => cnt ws i + onesCount (ws.getD i 0)

theorem ones_sumB (x : Nat) : onesCount x = sumB 64 (fun k => x.testBit k) := pop_sumB 64 x

theorem cnt_sumB (ws : List Nat) : ∀ i, cnt ws i = sumB (64 * i) (bit ws)
  | 0 => rfl
  | i + 1 => by
    have e : sumB 64 (fun k => (ws.getD i 0).testBit k) = sumB 64 (fun k => bit ws (64 * i + k)) := sumB_congr 64 _ _ fun k hk => by
      unfold bit
      rw [show (64 * i + k) / 64 = i by omega, show (64 * i + k) % 64 = k by omega]
    rw [cnt, cnt_sumB ws i, Nat.mul_succ, sumB_add, ones_sumB, e]

theorem count_sumB : ∀ (hs : List Bool) (n : Nat), hs.length ≤ n → sumB n (fun k => !(hs.getD k true)) = hs.count false
  | [], n, _ => by
    rw [sumB_congr n _ (fun _ => false) (fun k _ => by simp)]
    induction n with
    | zero => rfl
    | succ n ih => rw [sumB, ih (by simp)]; rfl
  | a :: t, 0, h => by simp at h
  | a :: t, n + 1, h => by
    rw [sumB_front, sumB_congr n _ (fun k => !(t.getD k true)) (fun k _ => by simp), count_sumB t n (by simpa using h), List.count_cons]
    cases a <;> simp
    omega

theorem Frees.count {ws : List Nat} {hs : List Bool} (h : Frees ws hs) (hl : hs.length ≤ 4096) : cnt ws 64 = hs.count false := by
  rw [cnt_sumB, sumB_congr _ _ _ (fun k hk => h.bits k (by omega)), count_sumB hs _ (by omega)]

theorem count_both : ∀ hs : List Bool, hs.count true + hs.count false = hs.length
  | [] => rfl
  | a :: t => by
    have := count_both t
    cases a <;> simp <;> omega

theorem cnt_le (ws : List Nat) (i : Nat) : cnt ws i ≤ 64 * i := by
  rw [cnt_sumB]
  have : ∀ n f, sumB n f ≤ n := by
    intro n f
    induction n with
    | zero => exact Nat.le_refl _
    | succ n ih => rw [sumB]; have := Bool.toNat_le (f n); omega
  exact this _ _

end Go.Proofs.YtnikjcinleghbaaDoor
