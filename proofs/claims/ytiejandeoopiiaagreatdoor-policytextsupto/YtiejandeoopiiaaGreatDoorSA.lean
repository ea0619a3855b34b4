/-
  The reference's rule; conditions as each theorem has them.
-/
import Derived.Test.YtiejandeoopiiaaGreatDoorRK
import Derived.Test.YtiejandeoopiiaaGreatDoorPR
import Derived.Test.YtiejandeoopiiaaGreatDoorJ2
set_option linter.unusedSimpArgs false
set_option linter.unusedVariables false
namespace Go.Proofs.YtiejandeoopiiaaGreatDoor
open Go.RowKit
theorem mod_mul_pow (x k : Nat) (hk : k ≤ 32) : x * 2 ^ k % 4294967296 = 0 ↔ x % 2 ^ (32 - k) = 0 := by
  have e : (4294967296 : Nat) = 2 ^ (32 - k) * 2 ^ k := by
    rw [← Nat.pow_add, Nat.sub_add_cancel hk]
  rw [e, Nat.mul_mod_mul_right]
  constructor
  · intro h
    rcases Nat.mul_eq_zero.1 h with h | h
    · exact h
    · exact absurd h (Nat.ne_of_gt (Nat.pow_pos (by omega)))
  · intro h
    rw [h, Nat.zero_mul]
theorem mod_bits (x : Nat) : ∀ m, x % 2 ^ m = 0 ↔ ∀ j, j < m → x / 2 ^ j % 2 = 0
  | 0 => by simp; omega
  | m + 1 => by
    have ih := mod_bits x m
    rw [Nat.mod_pow_succ]
    constructor
    · intro h j hj
      have h1 : x % 2 ^ m = 0 := by omega
      have h2 : 2 ^ m * (x / 2 ^ m % 2) = 0 := by omega
      by_cases hjm : j = m
      · subst hjm
        rcases Nat.mul_eq_zero.1 h2 with h | h
        · exact absurd h (Nat.ne_of_gt (Nat.pow_pos (by omega)))
        · exact h
      · exact (ih.1 h1) j (by omega)
    · intro h
      rw [ih.2 fun j hj => h j (by omega), h m (by omega), Nat.mul_zero]
/-- The bits behind the k-th are 0. -/
theorem net_bits (x k : Nat) (hk : k ≤ 32) : x * 2 ^ k % 4294967296 = 0 ↔ ∀ i, k ≤ i → i < 32 → x / 2 ^ (31 - i) % 2 = 0 := by
  rw [mod_mul_pow x k hk, mod_bits]
  constructor
  · intro h i h1 h2
    exact h (31 - i) (by omega)
  · intro h j hj
    have := h (31 - j) (by omega) (by omega)
    rwa [show 31 - (31 - j) = j by omega] at this
/-- The i-th bit, out of the byte that it lies in. -/
def byteOf (a : Ad) (q : Nat) : Nat := match q with
  | 0 => a.1
  | 1 => a.2.1
  | 2 => a.2.2.1
  | _ => a.2.2.2
theorem bit_byte (a : Ad) (ha : a.ok) (i : Nat) (hi : i < 32) : wd a / 2 ^ (31 - i) % 2 = byteOf a (i / 8) / 2 ^ (7 - i % 8) % 2 := by
  obtain ⟨a0, a1, a2, a3⟩ := a
  obtain ⟨h0, h1, h2, h3⟩ := ha
  simp only at h0 h1 h2 h3
  have : i / 8 = 0 ∨ i / 8 = 1 ∨ i / 8 = 2 ∨ i / 8 = 3 := by omega
  rcases this with q | q | q | q
  · rw [bit0 a0 a1 a2 a3 i h1 h2 h3 q, q]; rfl
  · rw [bit1 a0 a1 a2 a3 i h1 h2 h3 q, q]; rfl
  · rw [bit2 a0 a1 a2 a3 i h1 h2 h3 q, q]; rfl
  · rw [bit3 a0 a1 a2 a3 i h1 h2 h3 q, q]; rfl
theorem tmod2z (a k : Nat) : (((a : Int) / 2 ^ k).tmod 2 == 0) = decide (a / 2 ^ k % 2 = 0) := by
  have e : (a : Int) / 2 ^ k = ((a / 2 ^ k : Nat) : Int) := by push_cast; rfl
  rw [e]
  generalize a / 2 ^ k = x
  have : ((x : Int)).tmod 2 = ((x % 2 : Nat) : Int) := by rw [Int.tmod_eq_emod_of_nonneg (by omega)]; omega
  rw [this]
  by_cases h : x % 2 = 0
  · rw [h]; rfl
  · have h0 : x % 2 = 1 := by omega
    rw [h0]; rfl
set_option maxRecDepth 100000 in
set_option maxHeartbeats 2000000 in
theorem rrule_at (r : Ru) (w : World) (hr : r.ok) : Calls Tryz.prog 22 #[.agg (ruC r).toArray] w fun e w' => e = .returned (.bool r.right) ∧ Below w.heap.size w w' := by
  obtain ⟨R, hR⟩ : ∃ R, R = r.right := ⟨_, rfl⟩
  rw [← hR]
  have HR := hide hR
  have HNET : Hid (∀ k : Nat, k ≤ 32 → (wd r.net * 2 ^ k % 4294967296 = 0 ↔ ∀ i, k ≤ i → i < 32 → byteOf r.net (i / 8) / 2 ^ (7 - i % 8) % 2 = 0)) := fun k hk => by
    rw [net_bits _ _ hk]
    constructor
    · intro h i h1 h2
      rw [← bit_byte _ hr.net i h2]
      exact h i h1 h2
    · intro h i h1 h2
      rw [bit_byte _ hr.net i h2]
      exact h i h1 h2
  obtain ⟨al, ⟨a0, a1, a2, a3⟩, bt, sf, lw, hg⟩ := r
  have HCK := hide (fun W => rcheck_at (0, 0, 0, 0) sf W hr.suf)
  simp only [ruC, hoV] at HCK HNET ⊢
  obtain ⟨w0, hw0⟩ : ∃ w0, w0 = w.alloc (.cells #[.bool al, .int .u8 (a0 : Nat), .int .u8 (a1 : Nat), .int .u8 (a2 : Nat), .int .u8 (a3 : Nat), .int .i64 bt, .string sf, .int .i64 lw, .int .i64 hg] 37) := ⟨_, rfl⟩
  have B0 : Hid (Below w.heap.size w w0) := by rw [hw0]; exact (Below.refl _ _).alloc (Nat.le_refl _) _
  have r0 : Hid (w0.heap[w.heap.size]? = some (.cells #[.bool al, .int .u8 (a0 : Nat), .int .u8 (a1 : Nat), .int .u8 (a2 : Nat), .int .u8 (a3 : Nat), .int .i64 bt, .string sf, .int .i64 lw, .int .i64 hg] 37)) := by rw [hw0]; exact alloc_new _ _
  have HW0 : Hid (w.alloc (.cells #[.bool al, .int .u8 (a0 : Nat), .int .u8 (a1 : Nat), .int .u8 (a2 : Nat), .int .u8 (a3 : Nat), .int .i64 bt, .string sf, .int .i64 lw, .int .i64 hg] 37) = w0) := hw0.symm
  obtain ⟨⟨b0, b1, b2, b3⟩, _, _, _, _⟩ := hr
  simp only at b0 b1 b2 b3
  clear hw0 hR
  by_cases hp : 1 ≤ lw ∧ hg ≤ 65535 ∧ lw ≤ hg
  · have HX : Hid (R = (if byt sf = [] then decide (0 ≤ bt) && decide (bt ≤ 32) && decide (wd (a0, a1, a2, a3) * 2 ^ bt.toNat % 4294967296 = 0) else decide (bt = 0) && chk (a0, a1, a2, a3) (byt sf))) := by
      show _ = _
      rw [HR.out]
      exact right_of hp.1 hp.2.1 hp.2.2
    obtain ⟨hp1, hp2, hp3⟩ := hp
    have t1 : ¬ lw < 1 := by omega
    have t2 : ¬ 65535 < hg := by omega
    have t3 : ¬ hg < lw := by omega
    clear hp1 hp2 hp3
    by_cases hs : byt sf = []
    · have hse : sf.toList.isEmpty = true := by rw [isEmpty_byt]; exact decide_eq_true hs
      rw [if_pos hs] at HX
      clear hs
      by_cases hb0 : bt < 0
      · have HY : Hid (R = false) := by show _ = _; rw [HX.out, decide_eq_false (by omega : ¬ 0 ≤ bt)]; rfl
        go_enter Tryz.func22, Tryz.ntmps22
        go_wp2_with fail
        go_ret
        rw [HY.out, HW0.out]
        exact ⟨rfl, B0.out⟩
      by_cases hb1 : 32 < bt
      · have HY : Hid (R = false) := by show _ = _; rw [HX.out, decide_eq_false (by omega : ¬ bt ≤ 32)]; simp
        go_enter Tryz.func22, Tryz.ntmps22
        go_wp2_with fail
        go_ret
        rw [HY.out, HW0.out]
        exact ⟨rfl, B0.out⟩
      obtain ⟨k, rfl⟩ : ∃ k : Nat, bt = k := ⟨bt.toNat, by omega⟩
      have hk : k ≤ 32 := by omega
      have HY : Hid (R = true ↔ ∀ i, k ≤ i → i < 32 → byteOf (a0, a1, a2, a3) (i / 8) / 2 ^ (7 - i % 8) % 2 = 0) := by
        show _ ↔ _
        rw [HX.out, decide_eq_true (by omega : 0 ≤ (k : Int)), decide_eq_true (by omega : (k : Int) ≤ 32), Int.toNat_natCast]
        simp only [Bool.true_and, decide_eq_true_eq]
        exact HNET.out k hk
      clear HX HNET HR
      go_enter Tryz.func22, Tryz.ntmps22
      go_wp2_with fail
      go_loopw [3] (fun i wr => ∃ j : Nat, k ≤ j ∧ j ≤ 32 ∧ i = .int .i64 j ∧ Hid ((Below w.heap.size w wr ∧ wr.heap[w.heap.size]? = some (.cells #[.bool al, .int .u8 (a0 : Nat), .int .u8 (a1 : Nat), .int .u8 (a2 : Nat), .int .u8 (a3 : Nat), .int .i64 (k : Int), .string sf, .int .i64 lw, .int .i64 hg] 37)) ∧ ∀ i, k ≤ i → i < j → byteOf (a0, a1, a2, a3) (i / 8) / 2 ^ (7 - i % 8) % 2 = 0)) (fun i _ => 32 - (intOf i).toNat)
      case atStart => exact ⟨k, by omega, hk, rfl, ⟨by rw [HW0.out]; exact B0.out, by rw [HW0.out]; exact r0.out⟩, fun i h1 h2 => by omega⟩
      case round =>
        obtain ⟨j, hkj, hj, rfl, HJ⟩ := hrel
        by_cases hj32 : j < 32
        · have hd : decide ((j : Int) < 32) = true := decide_eq_true (by omega)
          have hd' : decide (j < 32) = true := decide_eq_true hj32
          have s1 := HJ.out.1.2
          have c1 : wr.cell? ⟨w.heap.size, 1, none⟩ = some (.int .u8 (a0 : Nat)) := by simp [World.cell?, s1]
          have c2 : wr.cell? ⟨w.heap.size, 2, none⟩ = some (.int .u8 (a1 : Nat)) := by simp [World.cell?, s1]
          have c3 : wr.cell? ⟨w.heap.size, 3, none⟩ = some (.int .u8 (a2 : Nat)) := by simp [World.cell?, s1]
          have c4 : wr.cell? ⟨w.heap.size, 4, none⟩ = some (.int .u8 (a3 : Nat)) := by simp [World.cell?, s1]
          clear s1
          have hq4 : j / 8 = 0 ∨ j / 8 = 1 ∨ j / 8 = 2 ∨ j / 8 = 3 := by omega
          rcases hq4 with hq | hq | hq | hq
          · have hbb : byteOf (a0, a1, a2, a3) (j / 8) = a0 := by rw [hq]; rfl
            have hbl : a0 < 256 := by omega
            have HT := hide (tmod2z a0 (7 - j % 8))
            by_cases hz : a0 / 2 ^ (7 - j % 8) % 2 = 0
            · have hd1 : (((a0 : Int) / 2 ^ (7 - j % 8)).tmod 2 == 0) = true := by rw [HT.out]; exact decide_eq_true hz
              have hd2 : (((a0 : Int) / 2 ^ (7 - j % 8)).tmod 2 != 0) = false := by rw [bne, hd1]; rfl
              have HI : Hid (∀ i, k ≤ i → i < j + 1 → byteOf (a0, a1, a2, a3) (i / 8) / 2 ^ (7 - i % 8) % 2 = 0) := fun i h1 h2 => by
                by_cases hij : i = j
                · subst hij; rw [hbb]; exact hz
                · exact HJ.out.2 i h1 (by omega)
              clear hz hbb
              go_wp2_with fail
              go_roundw
              case rel => exact ⟨j + 1, by omega, by omega, by go_num, ⟨HJ.out.1.1.alloc HJ.out.1.1.size _, alloc_old _ HJ.out.1.2⟩, HI.out⟩
              case measure => simp [intOf]; omega
            · have hd1 : (((a0 : Int) / 2 ^ (7 - j % 8)).tmod 2 == 0) = false := by rw [HT.out]; exact decide_eq_false hz
              have hd2 : (((a0 : Int) / 2 ^ (7 - j % 8)).tmod 2 != 0) = true := by rw [bne, hd1]; rfl
              have HZ : Hid (R = false) := by
                show _ = _
                rw [Bool.eq_false_iff]
                intro h
                apply hz
                have := HY.out.1 h j hkj hj32
                rwa [hbb] at this
              clear hz hbb
              go_wp2_with fail
              go_ret
              rw [HZ.out]
              exact ⟨rfl, HJ.out.1.1.alloc HJ.out.1.1.size _⟩
          · have hbb : byteOf (a0, a1, a2, a3) (j / 8) = a1 := by rw [hq]; rfl
            have hbl : a1 < 256 := by omega
            have HT := hide (tmod2z a1 (7 - j % 8))
            by_cases hz : a1 / 2 ^ (7 - j % 8) % 2 = 0
            · have hd1 : (((a1 : Int) / 2 ^ (7 - j % 8)).tmod 2 == 0) = true := by rw [HT.out]; exact decide_eq_true hz
              have hd2 : (((a1 : Int) / 2 ^ (7 - j % 8)).tmod 2 != 0) = false := by rw [bne, hd1]; rfl
              have HI : Hid (∀ i, k ≤ i → i < j + 1 → byteOf (a0, a1, a2, a3) (i / 8) / 2 ^ (7 - i % 8) % 2 = 0) := fun i h1 h2 => by
                by_cases hij : i = j
                · subst hij; rw [hbb]; exact hz
                · exact HJ.out.2 i h1 (by omega)
              clear hz hbb
              go_wp2_with fail
              go_roundw
              case rel => exact ⟨j + 1, by omega, by omega, by go_num, ⟨HJ.out.1.1.alloc HJ.out.1.1.size _, alloc_old _ HJ.out.1.2⟩, HI.out⟩
              case measure => simp [intOf]; omega
            · have hd1 : (((a1 : Int) / 2 ^ (7 - j % 8)).tmod 2 == 0) = false := by rw [HT.out]; exact decide_eq_false hz
              have hd2 : (((a1 : Int) / 2 ^ (7 - j % 8)).tmod 2 != 0) = true := by rw [bne, hd1]; rfl
              have HZ : Hid (R = false) := by
                show _ = _
                rw [Bool.eq_false_iff]
                intro h
                apply hz
                have := HY.out.1 h j hkj hj32
                rwa [hbb] at this
              clear hz hbb
              go_wp2_with fail
              go_ret
              rw [HZ.out]
              exact ⟨rfl, HJ.out.1.1.alloc HJ.out.1.1.size _⟩
          · have hbb : byteOf (a0, a1, a2, a3) (j / 8) = a2 := by rw [hq]; rfl
            have hbl : a2 < 256 := by omega
            have HT := hide (tmod2z a2 (7 - j % 8))
            by_cases hz : a2 / 2 ^ (7 - j % 8) % 2 = 0
            · have hd1 : (((a2 : Int) / 2 ^ (7 - j % 8)).tmod 2 == 0) = true := by rw [HT.out]; exact decide_eq_true hz
              have hd2 : (((a2 : Int) / 2 ^ (7 - j % 8)).tmod 2 != 0) = false := by rw [bne, hd1]; rfl
              have HI : Hid (∀ i, k ≤ i → i < j + 1 → byteOf (a0, a1, a2, a3) (i / 8) / 2 ^ (7 - i % 8) % 2 = 0) := fun i h1 h2 => by
                by_cases hij : i = j
                · subst hij; rw [hbb]; exact hz
                · exact HJ.out.2 i h1 (by omega)
              clear hz hbb
              go_wp2_with fail
              go_roundw
              case rel => exact ⟨j + 1, by omega, by omega, by go_num, ⟨HJ.out.1.1.alloc HJ.out.1.1.size _, alloc_old _ HJ.out.1.2⟩, HI.out⟩
              case measure => simp [intOf]; omega
            · have hd1 : (((a2 : Int) / 2 ^ (7 - j % 8)).tmod 2 == 0) = false := by rw [HT.out]; exact decide_eq_false hz
              have hd2 : (((a2 : Int) / 2 ^ (7 - j % 8)).tmod 2 != 0) = true := by rw [bne, hd1]; rfl
              have HZ : Hid (R = false) := by
                show _ = _
                rw [Bool.eq_false_iff]
                intro h
                apply hz
                have := HY.out.1 h j hkj hj32
                rwa [hbb] at this
              clear hz hbb
              go_wp2_with fail
              go_ret
              rw [HZ.out]
              exact ⟨rfl, HJ.out.1.1.alloc HJ.out.1.1.size _⟩
          · have hbb : byteOf (a0, a1, a2, a3) (j / 8) = a3 := by rw [hq]; rfl
            have hbl : a3 < 256 := by omega
            have HT := hide (tmod2z a3 (7 - j % 8))
            by_cases hz : a3 / 2 ^ (7 - j % 8) % 2 = 0
            · have hd1 : (((a3 : Int) / 2 ^ (7 - j % 8)).tmod 2 == 0) = true := by rw [HT.out]; exact decide_eq_true hz
              have hd2 : (((a3 : Int) / 2 ^ (7 - j % 8)).tmod 2 != 0) = false := by rw [bne, hd1]; rfl
              have HI : Hid (∀ i, k ≤ i → i < j + 1 → byteOf (a0, a1, a2, a3) (i / 8) / 2 ^ (7 - i % 8) % 2 = 0) := fun i h1 h2 => by
                by_cases hij : i = j
                · subst hij; rw [hbb]; exact hz
                · exact HJ.out.2 i h1 (by omega)
              clear hz hbb
              go_wp2_with fail
              go_roundw
              case rel => exact ⟨j + 1, by omega, by omega, by go_num, ⟨HJ.out.1.1.alloc HJ.out.1.1.size _, alloc_old _ HJ.out.1.2⟩, HI.out⟩
              case measure => simp [intOf]; omega
            · have hd1 : (((a3 : Int) / 2 ^ (7 - j % 8)).tmod 2 == 0) = false := by rw [HT.out]; exact decide_eq_false hz
              have hd2 : (((a3 : Int) / 2 ^ (7 - j % 8)).tmod 2 != 0) = true := by rw [bne, hd1]; rfl
              have HZ : Hid (R = false) := by
                show _ = _
                rw [Bool.eq_false_iff]
                intro h
                apply hz
                have := HY.out.1 h j hkj hj32
                rwa [hbb] at this
              clear hz hbb
              go_wp2_with fail
              go_ret
              rw [HZ.out]
              exact ⟨rfl, HJ.out.1.1.alloc HJ.out.1.1.size _⟩
        · have hd : decide ((j : Int) < 32) = false := decide_eq_false (by omega)
          have hd' : decide (j < 32) = false := decide_eq_false hj32
          have HZ : Hid (R = true) := HY.out.2 fun i h1 h2 => HJ.out.2 i h1 (by omega)
          go_wp2_with fail
          go_ret
          rw [HZ.out]
          exact ⟨rfl, HJ.out.1.1⟩
    · have hse : sf.toList.isEmpty = false := by rw [isEmpty_byt]; exact decide_eq_false hs
      rw [if_neg hs] at HX
      have HCC : Hid (chk (a0, a1, a2, a3) (byt sf) = (chk (0, 0, 0, 0) (byt sf) && decide (((a0, a1, a2, a3) : Ad) = (0, 0, 0, 0)))) := by
        show _ = _
        simp [chk, hs]
      rw [HCC.out] at HX
      obtain ⟨C, hC⟩ : ∃ C, C = chk (0, 0, 0, 0) (byt sf) := ⟨_, rfl⟩
      rw [← hC] at HX HCK
      clear hs hC HCC HNET HR
      go_enter Tryz.func22, Tryz.ntmps22
      go_wp2_with fail
      rw [HW0.out]
      refine (HCK.out _).mono ?_
      rintro e w1 ⟨rfl, hb⟩
      have s1 := keepB hb r0.out
      have B1 := hide (B0.out.trans (hb.mono B0.out.size))
      have c1 : w1.cell? ⟨w.heap.size, 1, none⟩ = some (.int .u8 (a0 : Nat)) := by simp [World.cell?, s1]
      have c2 : w1.cell? ⟨w.heap.size, 2, none⟩ = some (.int .u8 (a1 : Nat)) := by simp [World.cell?, s1]
      have c3 : w1.cell? ⟨w.heap.size, 3, none⟩ = some (.int .u8 (a2 : Nat)) := by simp [World.cell?, s1]
      have c4 : w1.cell? ⟨w.heap.size, 4, none⟩ = some (.int .u8 (a3 : Nat)) := by simp [World.cell?, s1]
      have c5 : w1.cell? ⟨w.heap.size, 5, none⟩ = some (.int .i64 bt) := by simp [World.cell?, s1]
      clear hb s1
      cases C
      · have HZ : Hid (R = false) := by show _ = _; rw [HX.out]; simp
        go_wp2_with fail
        go_ret
        rw [HZ.out]
        exact ⟨rfl, B1.out⟩
      by_cases hz : ((a0, a1, a2, a3) : Ad) = (0, 0, 0, 0)
      · simp only [Prod.mk.injEq] at hz
        obtain ⟨rfl, rfl, rfl, rfl⟩ := hz
        by_cases hb : bt = 0
        · have HZ : Hid (R = true) := by show _ = _; rw [HX.out]; simp [hb]
          have hq : (bt == 0) = true := by simp [hb]
          clear hb
          go_wp2_with fail
          go_ret
          rw [HZ.out]
          exact ⟨by first | rfl | simp, B1.out⟩
        · have HZ : Hid (R = false) := by show _ = _; rw [HX.out]; simp [hb]
          have hq : (bt == 0) = false := by simp [hb]
          clear hb
          go_wp2_with fail
          go_ret
          rw [HZ.out]
          exact ⟨by first | rfl | simp, B1.out⟩
      · have HZ : Hid (R = false) := by show _ = _; rw [HX.out, decide_eq_false hz]; simp
        have hne := ad_ne hz
        clear hz
        rcases hne with h | ⟨rfl, h⟩ | ⟨rfl, rfl, h⟩ | ⟨rfl, rfl, rfl, h⟩
        · have q2 : ((a0 : Int) == 0) = false := by simp; omega
          clear h
          go_wp2_with fail
          go_ret
          rw [HZ.out]
          exact ⟨by first | rfl | simp, B1.out⟩
        · have q2 : ((a1 : Int) == 0) = false := by simp; omega
          clear h
          go_wp2_with fail
          go_ret
          rw [HZ.out]
          exact ⟨by first | rfl | simp, B1.out⟩
        · have q2 : ((a2 : Int) == 0) = false := by simp; omega
          clear h
          go_wp2_with fail
          go_ret
          rw [HZ.out]
          exact ⟨by first | rfl | simp, B1.out⟩
        · have q2 : ((a3 : Int) == 0) = false := by simp; omega
          clear h
          go_wp2_with fail
          go_ret
          rw [HZ.out]
          exact ⟨by first | rfl | simp, B1.out⟩
  · have HZ : Hid (R = false) := by show _ = _; rw [HR.out]; exact right_false (by simp only; omega)
    clear HNET HR
    by_cases t1 : lw < 1
    · go_enter Tryz.func22, Tryz.ntmps22
      go_wp2_with fail
      go_ret
      rw [HZ.out, HW0.out]
      exact ⟨rfl, B0.out⟩
    by_cases t2 : 65535 < hg
    · go_enter Tryz.func22, Tryz.ntmps22
      go_wp2_with fail
      go_ret
      rw [HZ.out, HW0.out]
      exact ⟨rfl, B0.out⟩
    have t3 : hg < lw := by omega
    clear hp
    go_enter Tryz.func22, Tryz.ntmps22
    go_wp2_with fail
    go_ret
    rw [HZ.out, HW0.out]
    exact ⟨rfl, B0.out⟩

end Go.Proofs.YtiejandeoopiiaaGreatDoor
