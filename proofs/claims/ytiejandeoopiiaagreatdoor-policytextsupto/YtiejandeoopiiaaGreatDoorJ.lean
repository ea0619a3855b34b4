/-
  In and Under of package host and of the reference; conditions as each theorem has them.
-/
import Derived.Test.YtiejandeoopiiaaGreatDoorF
set_option linter.unusedSimpArgs false
set_option linter.unusedVariables false
namespace Go.Proofs.YtiejandeoopiiaaGreatDoor
open Go.RowKit

/-- An address as a value. -/
def adV (a : Nat × Nat × Nat × Nat) : Value := .agg #[.int .u8 (a.1 : Nat), .int .u8 (a.2.1 : Nat), .int .u8 (a.2.2.1 : Nat), .int .u8 (a.2.2.2 : Nat)]
theorem or_add (x y k : Nat) (h : y < 2 ^ k) : x * 2 ^ k ||| y = x * 2 ^ k + y := by
  rw [Nat.mul_comm, Nat.two_pow_add_eq_or_of_lt h x]
theorem word_or (a b c d : Nat) (ha : a < 256) (hb : b < 256) (hc : c < 256) (hd : d < 256) :
    ((a * 16777216 ||| b * 65536) ||| c * 256) ||| d = a * 16777216 + b * 65536 + c * 256 + d := by
  have e1 : a * 16777216 ||| b * 65536 = (a * 256 + b) * 65536 := by
    have := or_add a (b * 65536) 24 (by omega)
    rw [show (2 : Nat) ^ 24 = 16777216 from rfl] at this
    rw [this]; omega
  have e2 : (a * 256 + b) * 65536 ||| c * 256 = ((a * 256 + b) * 256 + c) * 256 := by
    have := or_add (a * 256 + b) (c * 256) 16 (by omega)
    rw [show (2 : Nat) ^ 16 = 65536 from rfl] at this
    rw [this]; omega
  have e3 : ((a * 256 + b) * 256 + c) * 256 ||| d = ((a * 256 + b) * 256 + c) * 256 + d := by
    have := or_add ((a * 256 + b) * 256 + c) d 8 (by omega)
    rw [show (2 : Nat) ^ 8 = 256 from rfl] at this
    exact this
  rw [e1, e2, e3]; omega
theorem word_int (a b c d : Nat) (ha : a < 256) (hb : b < 256) (hc : c < 256) (hd : d < 256) :
    bits .or .u32 (bits .or .u32 (bits .or .u32 ((a : Int) * 16777216) ((b : Int) * 65536)) ((c : Int) * 256)) (d : Int) = ((a * 16777216 + b * 65536 + c * 256 + d : Nat) : Int) := by
  have e1 : a * 16777216 ||| b * 65536 = (a * 256 + b) * 65536 := by
    have := or_add a (b * 65536) 24 (by omega)
    rw [show (2 : Nat) ^ 24 = 16777216 from rfl] at this
    rw [this]; omega
  have e2 : (a * 256 + b) * 65536 ||| c * 256 = ((a * 256 + b) * 256 + c) * 256 := by
    have := or_add (a * 256 + b) (c * 256) 16 (by omega)
    rw [show (2 : Nat) ^ 16 = 65536 from rfl] at this
    rw [this]; omega
  have e3 : ((a * 256 + b) * 256 + c) * 256 ||| d = ((a * 256 + b) * 256 + c) * 256 + d := by
    have := or_add ((a * 256 + b) * 256 + c) d 8 (by omega)
    rw [show (2 : Nat) ^ 8 = 256 from rfl] at this
    exact this
  rw [show (a : Int) * 16777216 = ((a * 16777216 : Nat) : Int) by omega, show (b : Int) * 65536 = ((b * 65536 : Nat) : Int) by omega, show (c : Int) * 256 = ((c * 256 : Nat) : Int) by omega,
    u32_or_nat _ _ (by omega) (by omega), e1, u32_or_nat _ _ (by omega) (by omega), e2, u32_or_nat _ _ (by omega) (by omega), e3, show ((a * 256 + b) * 256 + c) * 256 + d = a * 16777216 + b * 65536 + c * 256 + d by omega]
set_option maxHeartbeats 1000000 in
theorem word_at (a : Ad) (w : World) (h : a.ok) : Calls Tryz.prog 78 #[adV a] w fun e w' => e = .returned (.int .u32 (wd a : Nat)) ∧ Below w.heap.size w w' := by
  obtain ⟨a0, a1, a2, a3⟩ := a
  obtain ⟨h0, h1, h2, h3⟩ := h
  simp only at h0 h1 h2 h3
  simp only [adV]
  go_enter Tryz.func78, Tryz.ntmps78
  go_wp2
  go_ret
  refine ⟨?_, (Below.refl _ _).alloc (Nat.le_refl _) _⟩
  have := word_int a0 a1 a2 a3 h0 h1 h2 h3
  rw [wd]
  simp only [] at this ⊢
  rw [← this]
  rfl
theorem byt_drop (s : ByteArray) (i : Nat) : byt (s.extract i s.size) = (byt s).drop i := by
  unfold byt
  rw [ByteArray.data_extract, Array.toList_extract, List.extract_eq_take_drop, List.take_of_length_le (by rw [List.length_drop, Array.length_toList]; exact Nat.le_refl _), List.map_drop]
theorem byt_take (s : ByteArray) (i : Nat) : byt (s.extract 0 i) = (byt s).take i := by
  unfold byt
  rw [Lib.extract_from_zero]
  simp
set_option maxHeartbeats 1000000 in
theorem ends_at (s t : ByteArray) (w : World) (hs : s.size ≤ maxLen) (ht : t.size ≤ maxLen) : Calls Tryz.prog 62 #[.string s, .string t] w fun e w' => e = .returned (.bool (decide (byt t <:+ byt s))) ∧ w = w' := by
  unfold maxLen at hs ht
  have HH : Hid (decide (byt t <:+ byt s) = (decide (t.size ≤ s.size) && decide ((byt s).drop (s.size - t.size) = byt t))) := by
    show _ = _
    have e := List.suffix_iff_eq_drop (l₁ := byt t) (l₂ := byt s)
    rw [byt_length, byt_length] at e
    by_cases h : byt t <:+ byt s
    · have hl := h.length_le
      rw [byt_length, byt_length] at hl
      simp [h, hl, (e.1 h).symm]
    · have h2 : ¬ (byt s).drop (s.size - t.size) = byt t := fun x => h (e.2 x.symm)
      simp [h, h2]
  by_cases h : t.size ≤ s.size
  · have hd : decide ((t.size : Int) ≤ (s.size : Int)) = true := decide_eq_true (by omega)
    go_enter Tryz.func62, Tryz.ntmps62
    go_wp2
    go_ret
    refine ⟨?_, rfl⟩
    rw [HH.out]
    have e2 := eq_byt (s.extract (s.size - t.size) s.size) t
    rw [byt_drop] at e2
    simp [h, e2]
  · have hd : decide ((t.size : Int) ≤ (s.size : Int)) = false := decide_eq_false (by omega)
    go_enter Tryz.func62, Tryz.ntmps62
    go_wp2
    go_ret
    refine ⟨?_, rfl⟩
    rw [HH.out]
    simp [h]
theorem tmod2 (a k : Nat) : (((a : Int) / 2 ^ k).tmod 2 == 1) = decide (a / 2 ^ k % 2 = 1) := by
  have e : (a : Int) / 2 ^ k = ((a / 2 ^ k : Nat) : Int) := by push_cast; rfl
  rw [e]
  generalize a / 2 ^ k = x
  have : ((x : Int)).tmod 2 = ((x % 2 : Nat) : Int) := by rw [Int.tmod_eq_emod_of_nonneg (by omega)]; omega
  rw [this]
  by_cases h : x % 2 = 1
  · rw [h]; rfl
  · have h0 : x % 2 = 0 := by omega
    rw [h0]; rfl
theorem bit0 (a0 a1 a2 a3 n : Nat) (h1 : a1 < 256) (h2 : a2 < 256) (h3 : a3 < 256) (hn : n / 8 = 0) : wd (a0, a1, a2, a3) / 2 ^ (31 - n) % 2 = a0 / 2 ^ (7 - n % 8) % 2 := by
  have : n = 0 ∨ n = 1 ∨ n = 2 ∨ n = 3 ∨ n = 4 ∨ n = 5 ∨ n = 6 ∨ n = 7 := by omega
  rcases this with h | h | h | h | h | h | h | h <;> subst h <;> simp [wd] <;> omega
theorem bit1 (a0 a1 a2 a3 n : Nat) (h1 : a1 < 256) (h2 : a2 < 256) (h3 : a3 < 256) (hn : n / 8 = 1) : wd (a0, a1, a2, a3) / 2 ^ (31 - n) % 2 = a1 / 2 ^ (7 - n % 8) % 2 := by
  have : n = 8 ∨ n = 9 ∨ n = 10 ∨ n = 11 ∨ n = 12 ∨ n = 13 ∨ n = 14 ∨ n = 15 := by omega
  rcases this with h | h | h | h | h | h | h | h <;> subst h <;> simp [wd] <;> omega
theorem bit2 (a0 a1 a2 a3 n : Nat) (h1 : a1 < 256) (h2 : a2 < 256) (h3 : a3 < 256) (hn : n / 8 = 2) : wd (a0, a1, a2, a3) / 2 ^ (31 - n) % 2 = a2 / 2 ^ (7 - n % 8) % 2 := by
  have : n = 16 ∨ n = 17 ∨ n = 18 ∨ n = 19 ∨ n = 20 ∨ n = 21 ∨ n = 22 ∨ n = 23 := by omega
  rcases this with h | h | h | h | h | h | h | h <;> subst h <;> simp [wd] <;> omega
theorem bit3 (a0 a1 a2 a3 n : Nat) (h1 : a1 < 256) (h2 : a2 < 256) (h3 : a3 < 256) (hn : n / 8 = 3) : wd (a0, a1, a2, a3) / 2 ^ (31 - n) % 2 = a3 / 2 ^ (7 - n % 8) % 2 := by
  have : n = 24 ∨ n = 25 ∨ n = 26 ∨ n = 27 ∨ n = 28 ∨ n = 29 ∨ n = 30 ∨ n = 31 := by omega
  rcases this with h | h | h | h | h | h | h | h <;> subst h <;> simp [wd] <;> omega
/-- The n-th bit of an address. -/
def bt (a : Ad) (n : Nat) : Bool := decide (wd a / 2 ^ (31 - n) % 2 = 1)
set_option maxHeartbeats 1000000 in
theorem bit_at0 (a : Ad) (n : Nat) (w : World) (h : a.ok) (hq : n / 8 = 0) : Calls Tryz.prog 63 #[adV a, .int .i64 n] w fun e w' => e = .returned (.bool (bt a n)) ∧ Below w.heap.size w w' := by
  obtain ⟨a0, a1, a2, a3⟩ := a
  obtain ⟨h0, h1, h2, h3⟩ := h
  simp only at h0 h1 h2 h3
  simp only [adV]
  have hn : n < 32 := by omega
  go_enter Tryz.func63, Tryz.ntmps63
  go_wp2
  go_ret
  refine ⟨?_, ((Below.refl _ _).alloc (Nat.le_refl _) _).alloc (by simp) _⟩
  have e1 := tmod2 a0 (7 - n % 8)
  rw [bt, bit0 a0 a1 a2 a3 n h1 h2 h3 hq, ← e1]
  rfl
set_option maxHeartbeats 1000000 in
theorem bit_at1 (a : Ad) (n : Nat) (w : World) (h : a.ok) (hq : n / 8 = 1) : Calls Tryz.prog 63 #[adV a, .int .i64 n] w fun e w' => e = .returned (.bool (bt a n)) ∧ Below w.heap.size w w' := by
  obtain ⟨a0, a1, a2, a3⟩ := a
  obtain ⟨h0, h1, h2, h3⟩ := h
  simp only at h0 h1 h2 h3
  simp only [adV]
  have hn : n < 32 := by omega
  go_enter Tryz.func63, Tryz.ntmps63
  go_wp2
  go_ret
  refine ⟨?_, ((Below.refl _ _).alloc (Nat.le_refl _) _).alloc (by simp) _⟩
  have e1 := tmod2 a1 (7 - n % 8)
  rw [bt, bit1 a0 a1 a2 a3 n h1 h2 h3 hq, ← e1]
  rfl
set_option maxHeartbeats 1000000 in
theorem bit_at2 (a : Ad) (n : Nat) (w : World) (h : a.ok) (hq : n / 8 = 2) : Calls Tryz.prog 63 #[adV a, .int .i64 n] w fun e w' => e = .returned (.bool (bt a n)) ∧ Below w.heap.size w w' := by
  obtain ⟨a0, a1, a2, a3⟩ := a
  obtain ⟨h0, h1, h2, h3⟩ := h
  simp only at h0 h1 h2 h3
  simp only [adV]
  have hn : n < 32 := by omega
  go_enter Tryz.func63, Tryz.ntmps63
  go_wp2
  go_ret
  refine ⟨?_, ((Below.refl _ _).alloc (Nat.le_refl _) _).alloc (by simp) _⟩
  have e1 := tmod2 a2 (7 - n % 8)
  rw [bt, bit2 a0 a1 a2 a3 n h1 h2 h3 hq, ← e1]
  rfl
set_option maxHeartbeats 1000000 in
theorem bit_at3 (a : Ad) (n : Nat) (w : World) (h : a.ok) (hq : n / 8 = 3) : Calls Tryz.prog 63 #[adV a, .int .i64 n] w fun e w' => e = .returned (.bool (bt a n)) ∧ Below w.heap.size w w' := by
  obtain ⟨a0, a1, a2, a3⟩ := a
  obtain ⟨h0, h1, h2, h3⟩ := h
  simp only at h0 h1 h2 h3
  simp only [adV]
  have hn : n < 32 := by omega
  go_enter Tryz.func63, Tryz.ntmps63
  go_wp2
  go_ret
  refine ⟨?_, ((Below.refl _ _).alloc (Nat.le_refl _) _).alloc (by simp) _⟩
  have e1 := tmod2 a3 (7 - n % 8)
  rw [bt, bit3 a0 a1 a2 a3 n h1 h2 h3 hq, ← e1]
  rfl
theorem bit_at (a : Ad) (n : Nat) (w : World) (h : a.ok) (hn : n < 32) : Calls Tryz.prog 63 #[adV a, .int .i64 n] w fun e w' => e = .returned (.bool (bt a n)) ∧ Below w.heap.size w w' := by
  have : n / 8 = 0 ∨ n / 8 = 1 ∨ n / 8 = 2 ∨ n / 8 = 3 := by omega
  rcases this with h1 | h1 | h1 | h1
  · exact bit_at0 a n w h h1
  · exact bit_at1 a n w h h1
  · exact bit_at2 a n w h h1
  · exact bit_at3 a n w h h1
theorem inN_zero {a b : Ad} (ha : a.ok) (hb : b.ok) : inN a b 0 = true := by
  have := wd_lt ha
  have := wd_lt hb
  simp [inN]; omega
theorem half (x k : Nat) (hk : k < 32) : x / 2 ^ (31 - k) = 2 * (x / 2 ^ (32 - k)) + x / 2 ^ (31 - k) % 2 := by
  have e : 2 ^ (32 - k) = 2 ^ (31 - k) * 2 := by rw [← Nat.pow_succ]; congr 1; omega
  rw [e, ← Nat.div_div_eq_div_mul]
  omega
theorem inN_succ (a b : Ad) (k : Nat) (hk : k < 32) : inN a b (k + 1) = (inN a b k && decide (bt a k = bt b k)) := by
  have h1 := half (wd a) k hk
  have h2 := half (wd b) k hk
  have e : 32 - (k + 1) = 31 - k := by omega
  unfold inN bt
  rw [e]
  generalize wd a / 2 ^ (31 - k) = x at *
  generalize wd b / 2 ^ (31 - k) = y at *
  generalize wd a / 2 ^ (32 - k) = x' at *
  generalize wd b / 2 ^ (32 - k) = y' at *
  by_cases hxy : x = y
  · subst hxy
    have : x' = y' := by omega
    simp [this]
  · by_cases hx' : x' = y'
    · have hb : ¬ (x % 2 = 1 ↔ y % 2 = 1) := by omega
      simp [hxy, hx', hb]
    · simp [hxy, hx']
theorem inN_less (a b : Ad) (k j : Nat) (hk : k ≤ 32) (hj : j ≤ k) (h : inN a b k = true) : inN a b j = true := by
  induction k with
  | zero => obtain rfl : j = 0 := by omega
            exact h
  | succ k ih =>
    rw [inN_succ a b k (by omega)] at h
    simp only [Bool.and_eq_true] at h
    rcases Nat.lt_or_ge j (k + 1) with hl | hl
    · exact ih (by omega) (by omega) h.1
    · obtain rfl : j = k + 1 := by omega
      rw [inN_succ a b k (by omega)]
      simp only [Bool.and_eq_true]; exact h
theorem xor_zero (x y : Nat) : x ^^^ y = 0 ↔ x = y := by
  constructor
  · intro h
    apply Nat.eq_of_testBit_eq
    intro i
    have := congrArg (·.testBit i) h
    simp [Nat.testBit_xor] at this
    exact this
  · rintro rfl; simp
theorem xor_shift (x y m : Nat) : ((x ^^^ y) / 2 ^ m = 0) ↔ x / 2 ^ m = y / 2 ^ m := by
  rw [← Nat.shiftRight_eq_div_pow, ← Nat.shiftRight_eq_div_pow, ← Nat.shiftRight_eq_div_pow, Nat.shiftRight_xor_distrib, xor_zero]

theorem agg4 {w : World} {b : Nat} {x0 x1 x2 x3 : Value} {t : TypeId} (h : w.heap[b]? = some (.cells #[x0, x1, x2, x3] t)) : w.cell? ⟨b, 0, none⟩ = some x0 ∧ w.cell? ⟨b, 1, none⟩ = some x1 ∧ w.cell? ⟨b, 2, none⟩ = some x2 ∧ w.cell? ⟨b, 3, none⟩ = some x3 := by
  refine ⟨?_, ?_, ?_, ?_⟩ <;> simp [World.cell?, h]
/-- Two addresses in two boxes. -/
structure Two (w : World) (B : Nat) (a b : Ad) : Prop where
  x0 : w.cell? ⟨B, 0, none⟩ = some (.int .u8 (a.1 : Nat))
  x1 : w.cell? ⟨B, 1, none⟩ = some (.int .u8 (a.2.1 : Nat))
  x2 : w.cell? ⟨B, 2, none⟩ = some (.int .u8 (a.2.2.1 : Nat))
  x3 : w.cell? ⟨B, 3, none⟩ = some (.int .u8 (a.2.2.2 : Nat))
  y0 : w.cell? ⟨B + 1, 0, none⟩ = some (.int .u8 (b.1 : Nat))
  y1 : w.cell? ⟨B + 1, 1, none⟩ = some (.int .u8 (b.2.1 : Nat))
  y2 : w.cell? ⟨B + 1, 2, none⟩ = some (.int .u8 (b.2.2.1 : Nat))
  y3 : w.cell? ⟨B + 1, 3, none⟩ = some (.int .u8 (b.2.2.2 : Nat))
theorem Two.below {w w' : World} {B : Nat} {a b : Ad} (h : Two w B a b) (k : Below w.heap.size w w') : Two w' B a b :=
  ⟨(k.cell (lt_of_cell h.x0)).trans h.x0, (k.cell (lt_of_cell h.x1)).trans h.x1, (k.cell (lt_of_cell h.x2)).trans h.x2, (k.cell (lt_of_cell h.x3)).trans h.x3, (k.cell (lt_of_cell h.y0)).trans h.y0, (k.cell (lt_of_cell h.y1)).trans h.y1, (k.cell (lt_of_cell h.y2)).trans h.y2, (k.cell (lt_of_cell h.y3)).trans h.y3⟩
theorem wrap_nat (m : Nat) (h : m ≤ 9223372036854775807) : IntKind.i64.wrap (m : Int) = (m : Int) := by rw [IntKind.wrap_i64]; omega
theorem divpow (X m : Nat) : (((X : Int) / 2 ^ m) == 0) = decide (X / 2 ^ m = 0) := by
  have e : (X : Int) / 2 ^ m = ((X / 2 ^ m : Nat) : Int) := by push_cast; rfl
  rw [e]
  generalize X / 2 ^ m = y
  by_cases h : y = 0
  · subst h; rfl
  · simp [h]
set_option maxRecDepth 100000 in
set_option maxHeartbeats 2000000 in
theorem in_at (a b : Ad) (k : Int) (w : World) (ha : a.ok) (hb : b.ok) : Calls Tryz.prog 60 #[adV a, adV b, .int .i64 k] w fun e w' => e = .returned (.bool (inB a b k)) ∧ Below w.heap.size w w' := by
  obtain ⟨a0, a1, a2, a3⟩ := a
  obtain ⟨b0, b1, b2, b3⟩ := b
  have HA := hide ha
  have HB := hide hb
  have HPa : Hid (∀ W, Calls Tryz.prog 78 #[.agg #[.int .u8 (a0 : Nat), .int .u8 (a1 : Nat), .int .u8 (a2 : Nat), .int .u8 (a3 : Nat)]] W fun e w' => e = .returned (.int .u32 (wd (a0, a1, a2, a3) : Nat)) ∧ Below W.heap.size W w') := fun W => word_at (a0, a1, a2, a3) W ha
  have HPb : Hid (∀ W, Calls Tryz.prog 78 #[.agg #[.int .u8 (b0 : Nat), .int .u8 (b1 : Nat), .int .u8 (b2 : Nat), .int .u8 (b3 : Nat)]] W fun e w' => e = .returned (.int .u32 (wd (b0, b1, b2, b3) : Nat)) ∧ Below W.heap.size W w') := fun W => word_at (b0, b1, b2, b3) W hb
  simp only [adV]
  by_cases h1 : k < 0
  · have HR : Hid (inB (a0, a1, a2, a3) (b0, b1, b2, b3) k = false) := by simp [inB, Hid]; omega
    rw [HR.out]
    clear ha hb
    go_enter Tryz.func60, Tryz.ntmps60
    go_wp2_with fail
    go_ret
    exact ⟨rfl, ((Below.refl _ _).alloc (Nat.le_refl _) _).alloc (by simp) _⟩
  by_cases h2 : 32 < k
  · have HR : Hid (inB (a0, a1, a2, a3) (b0, b1, b2, b3) k = false) := by simp [inB, Hid]; omega
    rw [HR.out]
    clear ha hb
    go_enter Tryz.func60, Tryz.ntmps60
    go_wp2_with fail
    go_ret
    exact ⟨rfl, ((Below.refl _ _).alloc (Nat.le_refl _) _).alloc (by simp) _⟩
  obtain ⟨n, rfl⟩ : ∃ n : Nat, k = n := ⟨k.toNat, by omega⟩
  have hn : n ≤ 32 := by omega
  obtain ⟨A, hA⟩ : ∃ A, A = wd (a0, a1, a2, a3) := ⟨_, rfl⟩
  obtain ⟨B, hB⟩ : ∃ B, B = wd (b0, b1, b2, b3) := ⟨_, rfl⟩
  have hAl : A < 4294967296 := by rw [hA]; exact wd_lt ha
  have hBl : B < 4294967296 := by rw [hB]; exact wd_lt hb
  rw [← hA] at HPa
  rw [← hB] at HPb
  have HR : Hid (inB (a0, a1, a2, a3) (b0, b1, b2, b3) (n : Int) = decide (A / 2 ^ (32 - n) = B / 2 ^ (32 - n))) := by
    simp only [inB, inN, hA, hB, Hid]
    simp; omega
  rw [HR.out]
  clear hA hB ha hb
  have hx : bits .xor .u32 (A : Int) (B : Int) = ((A ^^^ B : Nat) : Int) := u32_xor_nat A B hAl hBl
  have hxl : A ^^^ B < 4294967296 := Nat.xor_lt_two_pow (n := 32) hAl hBl
  obtain ⟨X, hX⟩ : ∃ X, X = A ^^^ B := ⟨_, rfl⟩
  rw [← hX] at hx hxl
  have HX : Hid (decide (A / 2 ^ (32 - n) = B / 2 ^ (32 - n)) = decide (X / 2 ^ (32 - n) = 0)) := by
    show _ = _
    rw [hX]
    have := xor_shift A B (32 - n)
    simp [this]
  rw [HX.out]
  clear hX
  obtain ⟨m, hm⟩ : ∃ m, m = 32 - n := ⟨_, rfl⟩
  have hmI : (32 : Int) - (n : Int) = (m : Int) := by omega
  have hm32 : m ≤ 32 := by omega
  have hw1 : IntKind.i64.wrap (m : Int) = (m : Int) := wrap_nat m (by omega)
  have hw2 : IntKind.i64.wrap ((32 : Int) - (n : Int)) = (m : Int) := by rw [hmI]; exact hw1
  rw [← hm]
  clear hm
  go_enter Tryz.func60, Tryz.ntmps60
  go_wp2_with fail
  obtain ⟨W0, hW0⟩ : ∃ W0, W0 = (w.alloc (.cells #[.int .u8 (a0 : Nat), .int .u8 (a1 : Nat), .int .u8 (a2 : Nat), .int .u8 (a3 : Nat)] 24)).alloc (.cells #[.int .u8 (b0 : Nat), .int .u8 (b1 : Nat), .int .u8 (b2 : Nat), .int .u8 (b3 : Nat)] 24) := ⟨_, rfl⟩
  have T0 : Two W0 w.heap.size (a0, a1, a2, a3) (b0, b1, b2, b3) := by
    rw [hW0]; constructor <;> simp
  have B0 : Hid (Below w.heap.size w W0) := by rw [hW0]; exact ((Below.refl _ _).alloc (Nat.le_refl _) _).alloc (by simp) _
  rw [← hW0]
  obtain ⟨x0, x1, x2, x3, y0, y1, y2, y3⟩ := T0
  have HT : Hid (Two W0 w.heap.size (a0, a1, a2, a3) (b0, b1, b2, b3)) := ⟨x0, x1, x2, x3, y0, y1, y2, y3⟩
  clear hW0
  go_region_held3 (fun w' => w'.cell? ⟨w.heap.size, 0, none⟩ = some (.int .u8 (a0 : Nat)) ∧ w'.cell? ⟨w.heap.size, 1, none⟩ = some (.int .u8 (a1 : Nat)) ∧ w'.cell? ⟨w.heap.size, 2, none⟩ = some (.int .u8 (a2 : Nat)) ∧ w'.cell? ⟨w.heap.size, 3, none⟩ = some (.int .u8 (a3 : Nat)) ∧ w'.cell? ⟨w.heap.size + 1, 0, none⟩ = some (.int .u8 (b0 : Nat)) ∧ w'.cell? ⟨w.heap.size + 1, 1, none⟩ = some (.int .u8 (b1 : Nat)) ∧ w'.cell? ⟨w.heap.size + 1, 2, none⟩ = some (.int .u8 (b2 : Nat)) ∧ w'.cell? ⟨w.heap.size + 1, 3, none⟩ = some (.int .u8 (b3 : Nat))) (go_keep) (first
    | (go_at_call_of 78 (Value.agg #[.int .u8 (a0 : Int), .int .u8 (a1 : Int), .int .u8 (a2 : Int), .int .u8 (a3 : Int)]); refine (HPa.out _).mono ?_; rintro e wp ⟨rfl, hk⟩; have hk' : Below W0.heap.size W0 wp := ⟨hk.os, hk.tape, hk.output, hk.size, hk.block⟩; have MP := hide (HT.out.below hk'); have BP := hide (B0.out.trans (hk'.mono B0.out.size)); obtain ⟨p0, p1, p2, p3, q0, q1, q2, q3⟩ := MP.out; simp only [] at p0 p1 p2 p3 q0 q1 q2 q3; clear hk hk')
    | (go_at_call_of 78 (Value.agg #[.int .u8 (b0 : Int), .int .u8 (b1 : Int), .int .u8 (b2 : Int), .int .u8 (b3 : Int)]); refine (HPb.out _).mono ?_; rintro e wq ⟨rfl, hk⟩; have hk' : Below wp.heap.size wp wq := ⟨hk.os, hk.tape, hk.output, hk.size, hk.block⟩; have MQ := hide (MP.out.below hk'); have BQ := hide (BP.out.trans (hk'.mono BP.out.size)); obtain ⟨r0, r1, r2, r3, s0, s1, s2, s3⟩ := MQ.out; simp only [] at r0 r1 r2 r3 s0 s1 s2 s3; clear hk hk'))
  go_wp2_with fail
  go_ret
  refine ⟨?_, BQ.out⟩
  rw [← divpow]
  rfl

theorem byt_suffix (p s : ByteArray) : Lib.hasSuffix s.data.toList p.data.toList = decide (byt p <:+ byt s) := by
  have h : p.data.toList <:+ s.data.toList ↔ byt p <:+ byt s := by
    constructor
    · intro h; exact h.map UInt8.toNat
    · intro h
      have := h.map UInt8.ofNat
      have e : ∀ t : ByteArray, (byt t).map UInt8.ofNat = t.data.toList := fun t => by
        unfold byt
        rw [List.map_map]
        have : (UInt8.ofNat ∘ UInt8.toNat) = id := by funext x; simp
        rw [this, List.map_id]
      rw [e, e] at this
      exact this
  unfold Lib.hasSuffix
  by_cases hh : byt p <:+ byt s
  · rw [decide_eq_true hh]; exact List.isSuffixOf_iff_suffix.2 (h.2 hh)
  · rw [decide_eq_false hh]
    cases e : p.data.toList.isSuffixOf s.data.toList with
    | false => rfl
    | true => exact absurd (h.1 (List.isSuffixOf_iff_suffix.1 e)) hh
theorem byt_mk (l : List UInt8) : byt ⟨l.toArray⟩ = l.map UInt8.toNat := by simp [byt]
theorem suffix_split {s n : List Nat} (h : s <:+ n) : n = n.take (n.length - s.length) ++ s := by
  obtain ⟨t, rfl⟩ := h
  simp
theorem dot_suffix (a s : List Nat) : (46 :: s) <:+ (a ++ s) ↔ [46] <:+ a := by
  constructor
  · rintro ⟨t, ht⟩
    refine ⟨t, ?_⟩
    have : t ++ [46] ++ s = a ++ s := by simpa using ht
    exact List.append_cancel_right this
  · rintro ⟨t, rfl⟩
    exact ⟨t, by simp⟩
set_option maxHeartbeats 1000000 in
theorem under_at (n s : ByteArray) (w : World) (hn : n.size ≤ maxLen) (hs : s.size ≤ maxLen) : Calls Tryz.prog 61 #[.string n, .string s] w fun e w' => e = .returned (.bool (under (byt n) (byt s))) ∧ w = w' := by
  by_cases h0 : byt s = []
  · have he : s.toList.isEmpty = true := by rw [isEmpty_byt]; simp [h0]
    have he2 : (s.toList == []) = true := by simpa using he
    have HR : Hid (under (byt n) (byt s) = false) := by simp [under, h0, Hid]
    rw [HR.out]
    clear h0
    go_enter Tryz.func61, Tryz.ntmps61
    go_wp2_with fail
    go_ret
    exact ⟨rfl, rfl⟩
  have he : s.toList.isEmpty = false := by rw [isEmpty_byt]; simp [h0]
  have he2 : (s.toList == []) = false := by
    cases hh : s.toList with
    | nil => rw [hh] at he; cases he
    | cons a b => rfl
  have HC : Hid (∀ W, Calls Tryz.prog 79 #[.string n, .string s] W fun e w' => e = .returned (.tuple #[.string ⟨(Lib.trimSuffix n.data.toList s.data.toList).toArray⟩, .bool (Lib.hasSuffix n.data.toList s.data.toList)]) ∧ w' = W) := fun W => Tryz.strings_CutSuffix n s W hn
  cases hx : Lib.hasSuffix n.data.toList s.data.toList with
  | false =>
    have HX := hide hx
    have HR : Hid (under (byt n) (byt s) = false) := by
      rw [byt_suffix] at hx
      have hns : ¬ byt s <:+ byt n := of_decide_eq_false hx
      have h1 : ¬ byt n = byt s := fun e => hns (by rw [e]; exact List.suffix_refl _)
      have h2 : ¬ (46 :: byt s) <:+ byt n := fun e => hns ((List.suffix_cons 46 (byt s)).trans e)
      simp [under, h1, h2, Hid]
    rw [HR.out]
    clear hx h0
    go_enter Tryz.func61, Tryz.ntmps61
    go_wp2_with fail
    refine (HC.out _).mono ?_
    rintro e w1 ⟨rfl, rfl⟩
    rw [HX.out]
    go_wp2_with fail
    go_ret
    exact ⟨rfl, rfl⟩
  | true =>
    have HX := hide hx
    obtain ⟨T, hT⟩ : ∃ T : ByteArray, T = ⟨(Lib.trimSuffix n.data.toList s.data.toList).toArray⟩ := ⟨_, rfl⟩
    rw [← hT] at HC
    have hbT : byt T = (byt n).take ((byt n).length - (byt s).length) := by
      rw [hT, byt_mk, Lib.trimSuffix, if_pos hx, List.map_take]
      congr 1
      rw [byt_length, byt_length]
      rfl
    have hTs : T.size ≤ maxLen := by
      rw [← byt_length, hbT]
      have := List.length_take_le ((byt n).length - (byt s).length) (byt n)
      rw [byt_length] at this ⊢
      simp at this ⊢; omega
    have hns : byt s <:+ byt n := by rw [byt_suffix] at hx; exact of_decide_eq_true hx
    have hsp := suffix_split hns
    rw [← hbT] at hsp
    have HR : Hid (under (byt n) (byt s) = (decide (byt T = []) || decide ([46] <:+ byt T))) := by
      show _ = _
      have e1 : (byt n = byt s) ↔ byt T = [] := by
        rw [hsp]
        constructor
        · intro e; exact List.append_left_eq_self.1 e
        · intro e; rw [e]; rfl
      have e2 : ((46 :: byt s) <:+ byt n) ↔ [46] <:+ byt T := by rw [hsp]; exact dot_suffix _ _
      simp [under, h0, e1, e2]
    have HTS := hide hTs
    clear hT hbT hTs hns hsp hx h0
    by_cases ht0 : byt T = []
    · have he3 : T.toList.isEmpty = true := by rw [isEmpty_byt]; simp [ht0]
      have he4 : (T.toList == []) = true := by simpa using he3
      have HR2 : Hid (under (byt n) (byt s) = true) := by show _ = _; rw [HR.out]; simp [ht0]
      rw [HR2.out]
      clear ht0 HR
      go_enter Tryz.func61, Tryz.ntmps61
      go_wp2_with fail
      refine (HC.out _).mono ?_
      rintro e w1 ⟨rfl, rfl⟩
      rw [HX.out]
      go_wp2_with fail
      go_ret
      exact ⟨rfl, rfl⟩
    · have he3 : T.toList.isEmpty = false := by rw [isEmpty_byt]; simp [ht0]
      have he4 : (T.toList == []) = false := by
        cases hh : T.toList with
        | nil => rw [hh] at he3; cases he3
        | cons a b => rfl
      have HR2 : Hid (under (byt n) (byt s) = decide ([46] <:+ byt T)) := by show _ = _; rw [HR.out]; simp [ht0]
      rw [HR2.out]
      clear ht0 HR
      have HD : Hid (∀ W, Calls Tryz.prog 80 #[.string T, .string ⟨#[46]⟩] W fun e w' => e = .returned (.bool (decide ([46] <:+ byt T))) ∧ w' = W) := fun W => by
        have := Tryz.strings_HasSuffix T ⟨#[46]⟩ W HTS.out
        rw [byt_suffix] at this
        exact this
      go_enter Tryz.func61, Tryz.ntmps61
      go_wp2_with fail
      refine (HC.out _).mono ?_
      rintro e w1 ⟨rfl, rfl⟩
      rw [HX.out]
      go_wp2_with fail
      refine (HD.out _).mono ?_
      rintro e w2 ⟨rfl, rfl⟩
      go_wp2_with fail
      go_ret
      exact ⟨rfl, rfl⟩
set_option maxHeartbeats 1000000 in
theorem runder_at (n s : ByteArray) (w : World) (hn : n.size ≤ maxLen) (hs : s.size ≤ 140737488355328) : Calls Tryz.prog 44 #[.string n, .string s] w fun e w' => e = .returned (.bool (under (byt n) (byt s))) ∧ w = w' := by
  by_cases h0 : byt s = []
  · have he : s.toList.isEmpty = true := by rw [isEmpty_byt]; simp [h0]
    have HR : Hid (under (byt n) (byt s) = false) := by simp [under, h0, Hid]
    rw [HR.out]
    clear h0
    go_enter Tryz.func44, Tryz.ntmps44
    go_wp2_with fail
    go_ret
    exact ⟨rfl, rfl⟩
  have he : s.toList.isEmpty = false := by rw [isEmpty_byt]; simp [h0]
  by_cases h1 : byt n = byt s
  · have he3 : (n.toList == s.toList) = true := by rw [eq_byt]; simp [h1]
    have HR : Hid (under (byt n) (byt s) = true) := by simp [under, h0, h1, Hid]
    rw [HR.out]
    clear h0 h1
    go_enter Tryz.func44, Tryz.ntmps44
    go_wp2_with fail
    go_ret
    exact ⟨rfl, rfl⟩
  have he3 : (n.toList == s.toList) = false := by rw [eq_byt]; simp [h1]
  have HR : Hid (under (byt n) (byt s) = decide ((46 :: byt s) <:+ byt n)) := by simp [under, h0, h1, Hid]
  rw [HR.out]
  have hsz : ¬ (9223372036854775807 < 1 + s.size) := by omega
  have HC : Hid (∀ W, Calls Tryz.prog 62 #[.string n, .string (⟨#[46]⟩ ++ s)] W fun e w' => e = .returned (.bool (decide ((46 :: byt s) <:+ byt n))) ∧ W = w') := fun W => by
    have e1 : byt (⟨#[46]⟩ ++ s) = 46 :: byt s := by simp [byt, ByteArray.data_append]
    have := ends_at n (⟨#[46]⟩ ++ s) W hn (by rw [ByteArray.size_append]; unfold maxLen; show 1 + s.size ≤ _; omega)
    rw [e1] at this
    exact this
  clear h0 h1
  go_enter Tryz.func44, Tryz.ntmps44
  go_wp2_with fail
  refine (HC.out _).mono ?_
  rintro e w2 ⟨rfl, rfl⟩
  go_wp2_with fail
  go_ret
  exact ⟨rfl, rfl⟩
end Go.Proofs.YtiejandeoopiiaaGreatDoor
