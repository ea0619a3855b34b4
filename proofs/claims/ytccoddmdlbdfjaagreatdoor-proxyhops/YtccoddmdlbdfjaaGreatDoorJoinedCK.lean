/-
  Check of package host and of the reference; Numbers as texts: Itoa of the library and of the reference's base; conditions as each theorem has them.
-/
import Derived.Test.YtccoddmdlbdfjaaGreatDoorY
set_option linter.unusedSimpArgs false
set_option linter.unusedVariables false
namespace Go.Proofs.YtccoddmdlbdfjaaGreatDoor
open Go.RowKit

/-- Is a host right? -/
def chk (a : Ad) (n : List Nat) : Bool := decide (n = []) || (decide (name n = (n, .ok)) && decide (a = (0, 0, 0, 0)))
def hoV (a : Ad) (n : ByteArray) : Value := .agg #[.int .u8 (a.1 : Nat), .int .u8 (a.2.1 : Nat), .int .u8 (a.2.2.1 : Nat), .int .u8 (a.2.2.2 : Nat), .string n]
theorem name_lt {l : List Nat} (h : ∀ x ∈ l, x < 256) : ∀ x ∈ (name l).1, x < 256 := by
  unfold name
  split
  · simp
  · split
    · simp
    · split
      · simp
      · exact low_lt h
/-- One of four numbers is not 0, and which is the first. -/
theorem ad_ne {a0 a1 a2 a3 : Nat} (h : ¬ ((a0, a1, a2, a3) : Ad) = (0, 0, 0, 0)) : (¬ a0 = 0) ∨ (a0 = 0 ∧ ¬ a1 = 0) ∨ (a0 = 0 ∧ a1 = 0 ∧ ¬ a2 = 0) ∨ (a0 = 0 ∧ a1 = 0 ∧ a2 = 0 ∧ ¬ a3 = 0) := by
  simp only [Prod.mk.injEq] at h
  omega
set_option maxRecDepth 100000 in
set_option maxHeartbeats 4000000 in
theorem check_at (a : Ad) (n : ByteArray) (w : World) (hm : n.size ≤ maxLen) (hV : Vars w) : Calls Tryz.prog 180 #[hoV a n] w fun e w' => e = .returned (.bool (chk a (byt n))) ∧ Below w.heap.size w w' := by
  obtain ⟨a0, a1, a2, a3⟩ := a
  simp only [hoV]
  by_cases h0 : byt n = []
  · have he : n.toList.isEmpty = true := by rw [isEmpty_byt]; simp [h0]
    have he2 : (n.toList == []) = true := by simpa using he
    have HR : Hid (chk (a0, a1, a2, a3) (byt n) = true) := by simp [chk, h0, Hid]
    rw [HR.out]
    clear h0
    go_enter Tryz.func180, Tryz.ntmps180
    go_wp2_with fail
    go_ret
    exact ⟨rfl, (Below.refl _ _).alloc (Nat.le_refl _) _⟩
  have he : n.toList.isEmpty = false := by rw [isEmpty_byt]; simp [h0]
  have he2 : (n.toList == []) = false := by
    cases hh : n.toList with
    | nil => rw [hh] at he; cases he
    | cons a b => rfl
  have HC : Hid (chk (a0, a1, a2, a3) (byt n) = (decide (name (byt n) = (byt n, .ok)) && decide (((a0, a1, a2, a3) : Ad) = (0, 0, 0, 0)))) := by simp [chk, h0, Hid]
  rw [HC.out]
  obtain ⟨q, er, hq⟩ : ∃ q er, name (byt n) = (q, er) := ⟨_, _, rfl⟩
  have hql : ∀ x ∈ q, x < 256 := by have := name_lt (byt_lt n); rw [hq] at this; exact this
  have HB : Hid (byt (strN q) = q) := byt_strN q hql
  have HQ := hide hq
  have HMX := hide hm
  have hb0 : Below w.heap.size w (w.alloc (.cells #[.int .u8 (a0 : Nat), .int .u8 (a1 : Nat), .int .u8 (a2 : Nat), .int .u8 (a3 : Nat), .string n] 29)) := (Below.refl _ _).alloc (Nat.le_refl _) _
  have HV := hide (hV.below hb0)
  have B0 := hide hb0
  have HEQ : Hid (decide (name (byt n) = (byt n, Er.ok)) = (decide (er = .ok) && decide (q = byt n))) := by
    show _ = _
    rw [hq]
    by_cases h1 : er = .ok <;> by_cases h2 : q = byt n <;> simp [h1, h2]
  rw [HEQ.out]
  obtain ⟨R, hR⟩ : ∃ R, R = (decide (er = .ok) && decide (q = byt n) && decide (((a0, a1, a2, a3) : Ad) = (0, 0, 0, 0))) := ⟨_, rfl⟩
  rw [← hR]
  have HRR := hide hR
  clear hR
  have hr0 : (w.alloc (.cells #[.int .u8 (a0 : Nat), .int .u8 (a1 : Nat), .int .u8 (a2 : Nat), .int .u8 (a3 : Nat), .string n] 29)).heap[w.heap.size]? = some (.cells #[.int .u8 (a0 : Nat), .int .u8 (a1 : Nat), .int .u8 (a2 : Nat), .int .u8 (a3 : Nat), .string n] 29) := alloc_new _ _
  have R0 := hide hr0
  clear h0 hq hql hm hb0 hV hr0 HC HEQ
  go_enter Tryz.func180, Tryz.ntmps180
  go_wp2_with fail
  refine (parseName_at n _ HMX.out HV.out).mono ?_
  rintro e w1 ⟨v, rfl, her, hb1⟩
  rw [HQ.out] at her ⊢
  simp only [] at her ⊢
  have s1 := keepB hb1 R0.out
  have c0 : w1.cell? ⟨w.heap.size, 0, none⟩ = some (.int .u8 (a0 : Nat)) := by simp [World.cell?, s1]
  have c1 : w1.cell? ⟨w.heap.size, 1, none⟩ = some (.int .u8 (a1 : Nat)) := by simp [World.cell?, s1]
  have c2 : w1.cell? ⟨w.heap.size, 2, none⟩ = some (.int .u8 (a2 : Nat)) := by simp [World.cell?, s1]
  have c3 : w1.cell? ⟨w.heap.size, 3, none⟩ = some (.int .u8 (a3 : Nat)) := by simp [World.cell?, s1]
  have c4 : w1.cell? ⟨w.heap.size, 4, none⟩ = some (.string n) := by simp [World.cell?, s1]
  have B1 := hide (B0.out.trans (hb1.mono B0.out.size))
  have ER := hide her
  clear hb1 s1 her B0 R0 HV
  by_cases hok : er = .ok
  · subst hok
    have hv : v = .nilIface := ER.out
    subst hv
    by_cases hqn : q = byt n
    · have q1 : ((strN q).toList == n.toList) = true := by rw [eq_byt, HB.out]; simp [hqn]
      by_cases hz : ((a0, a1, a2, a3) : Ad) = (0, 0, 0, 0)
      · have HD : Hid (R = true) := by show _ = _; rw [HRR.out]; simp [hqn, hz]
        simp only [Prod.mk.injEq] at hz
        obtain ⟨rfl, rfl, rfl, rfl⟩ := hz
        clear hqn HRR
        go_wp2_with fail
        go_ret
        refine ⟨?_, B1.out⟩
        rw [HD.out]
        first | rfl | simp
      · have HD : Hid (R = false) := by show _ = _; rw [HRR.out]; rw [decide_eq_false hz, Bool.and_false]
        have hne := ad_ne hz
        clear hqn hz HRR
        rcases hne with h | ⟨rfl, h⟩ | ⟨rfl, rfl, h⟩ | ⟨rfl, rfl, rfl, h⟩
        · have q2 : ((a0 : Int) == 0) = false := by simp; omega
          clear h
          go_wp2_with fail
          go_ret
          refine ⟨?_, B1.out⟩
          rw [HD.out]
          first | rfl | simp
        · have q2 : ((a1 : Int) == 0) = false := by simp; omega
          clear h
          go_wp2_with fail
          go_ret
          refine ⟨?_, B1.out⟩
          rw [HD.out]
          first | rfl | simp
        · have q2 : ((a2 : Int) == 0) = false := by simp; omega
          clear h
          go_wp2_with fail
          go_ret
          refine ⟨?_, B1.out⟩
          rw [HD.out]
          first | rfl | simp
        · have q2 : ((a3 : Int) == 0) = false := by simp; omega
          clear h
          go_wp2_with fail
          go_ret
          refine ⟨?_, B1.out⟩
          rw [HD.out]
          first | rfl | simp
    · have q1 : ((strN q).toList == n.toList) = false := by rw [eq_byt, HB.out]; simp [hqn]
      have HD : Hid (R = false) := by show _ = _; rw [HRR.out]; simp [hqn]
      clear hqn HRR
      go_wp2_with fail
      go_ret
      refine ⟨?_, B1.out⟩
      rw [HD.out]
      first | rfl | simp
  · obtain ⟨b, rfl⟩ := ER.out.some hok
    have HD : Hid (R = false) := by show _ = _; rw [HRR.out]; simp [hok]
    clear hok HRR
    go_wp2_with fail
    go_ret
    refine ⟨?_, B1.out⟩
    rw [HD.out]
    first | rfl | simp
set_option maxRecDepth 100000 in
set_option maxHeartbeats 4000000 in
theorem rcheck_at (a : Ad) (n : ByteArray) (w : World) (hm : n.size ≤ maxLen) : Calls Tryz.prog 112 #[hoV a n] w fun e w' => e = .returned (.bool (chk a (byt n))) ∧ Below w.heap.size w w' := by
  obtain ⟨a0, a1, a2, a3⟩ := a
  simp only [hoV]
  by_cases h0 : byt n = []
  · have he : n.toList.isEmpty = true := by rw [isEmpty_byt]; simp [h0]
    have he2 : (n.toList == []) = true := by simpa using he
    have HR : Hid (chk (a0, a1, a2, a3) (byt n) = true) := by simp [chk, h0, Hid]
    rw [HR.out]
    clear h0
    go_enter Tryz.func112, Tryz.ntmps112
    go_wp2_with fail
    go_ret
    exact ⟨rfl, (Below.refl _ _).alloc (Nat.le_refl _) _⟩
  have he : n.toList.isEmpty = false := by rw [isEmpty_byt]; simp [h0]
  have he2 : (n.toList == []) = false := by
    cases hh : n.toList with
    | nil => rw [hh] at he; cases he
    | cons a b => rfl
  have HC : Hid (chk (a0, a1, a2, a3) (byt n) = (decide (name (byt n) = (byt n, .ok)) && decide (((a0, a1, a2, a3) : Ad) = (0, 0, 0, 0)))) := by simp [chk, h0, Hid]
  rw [HC.out]
  obtain ⟨q, er, hq⟩ : ∃ q er, name (byt n) = (q, er) := ⟨_, _, rfl⟩
  have hql : ∀ x ∈ q, x < 256 := by have := name_lt (byt_lt n); rw [hq] at this; exact this
  have HB : Hid (byt (strN q) = q) := byt_strN q hql
  have HQ := hide hq
  have HMX := hide hm
  have hb0 : Below w.heap.size w (w.alloc (.cells #[.int .u8 (a0 : Nat), .int .u8 (a1 : Nat), .int .u8 (a2 : Nat), .int .u8 (a3 : Nat), .string n] 29)) := (Below.refl _ _).alloc (Nat.le_refl _) _
  have B0 := hide hb0
  have HEQ : Hid (decide (name (byt n) = (byt n, Er.ok)) = (decide (er = .ok) && decide (q = byt n))) := by
    show _ = _
    rw [hq]
    by_cases h1 : er = .ok <;> by_cases h2 : q = byt n <;> simp [h1, h2]
  rw [HEQ.out]
  obtain ⟨R, hR⟩ : ∃ R, R = (decide (er = .ok) && decide (q = byt n) && decide (((a0, a1, a2, a3) : Ad) = (0, 0, 0, 0))) := ⟨_, rfl⟩
  rw [← hR]
  have HRR := hide hR
  clear hR
  have hr0 : (w.alloc (.cells #[.int .u8 (a0 : Nat), .int .u8 (a1 : Nat), .int .u8 (a2 : Nat), .int .u8 (a3 : Nat), .string n] 29)).heap[w.heap.size]? = some (.cells #[.int .u8 (a0 : Nat), .int .u8 (a1 : Nat), .int .u8 (a2 : Nat), .int .u8 (a3 : Nat), .string n] 29) := alloc_new _ _
  have R0 := hide hr0
  clear h0 hq hql hm hb0 hr0 HC HEQ
  go_enter Tryz.func112, Tryz.ntmps112
  go_wp2_with fail
  refine (rparseName_at n _ HMX.out).mono ?_
  rintro e w1 ⟨rfl, hb1⟩
  rw [HQ.out]
  simp only []
  rw [badV_badC]
  obtain ⟨W2, hW2⟩ : ∃ W2, W2 = (w1.alloc (.cells (badC .ok) 89)).setRow w1.heap.size (badC er) := ⟨_, rfl⟩
  have z2 : (w1.alloc (.cells (badC .ok) 89)).heap[w1.heap.size]? = some (.cells (badC .ok) 89) := alloc_new _ _
  have k2 : Below w1.heap.size w1 W2 := by rw [hW2]; exact below_setRow ((Below.refl _ _).alloc (Nat.le_refl _) _) (by omega) _
  have p2 : W2.heap[w1.heap.size]? = some (.cells (badC er) 89) := by rw [hW2]; exact setRow_heap _ _ _ _ _ z2
  have s1 := keepB k2 (keepB hb1 R0.out)
  have c0 : W2.cell? ⟨w.heap.size, 0, none⟩ = some (.int .u8 (a0 : Nat)) := by simp [World.cell?, s1]
  have c1 : W2.cell? ⟨w.heap.size, 1, none⟩ = some (.int .u8 (a1 : Nat)) := by simp [World.cell?, s1]
  have c2 : W2.cell? ⟨w.heap.size, 2, none⟩ = some (.int .u8 (a2 : Nat)) := by simp [World.cell?, s1]
  have c3 : W2.cell? ⟨w.heap.size, 3, none⟩ = some (.int .u8 (a3 : Nat)) := by simp [World.cell?, s1]
  have c4 : W2.cell? ⟨w.heap.size, 4, none⟩ = some (.string n) := by simp [World.cell?, s1]
  have cN : W2.cell? ⟨w1.heap.size, 0, none⟩ = some (.int .i64 (erN er : Nat)) := by simp only [World.cell?, p2]; exact badC_N er
  have B1 := hide ((B0.out.trans (hb1.mono B0.out.size)).trans (k2.mono (B0.out.trans (hb1.mono B0.out.size)).size))
  have Z2 := hide z2
  have HW2 := hide hW2
  clear hb1 s1 B0 R0 z2 hW2 k2 p2
  by_cases hok : er = .ok
  · subst hok
    simp only [erN] at cN
    by_cases hqn : q = byt n
    · have q1 : ((strN q).toList == n.toList) = true := by rw [eq_byt, HB.out]; simp [hqn]
      by_cases hz : ((a0, a1, a2, a3) : Ad) = (0, 0, 0, 0)
      · have HD : Hid (R = true) := by show _ = _; rw [HRR.out]; simp [hqn, hz]
        simp only [Prod.mk.injEq] at hz
        obtain ⟨rfl, rfl, rfl, rfl⟩ := hz
        clear hqn HRR
        go_wp2_with (first | (refine wpList_store_rowW rfl 89 _ _ rfl w1.heap.size (badC .ok) rfl rfl 89 (badC .ok) Z2.out (badI .ok) (by simp [badC_size]) (badC_one _) W2 HW2.out ?_))
        go_ret
        refine ⟨?_, B1.out⟩
        rw [HD.out]
        first | rfl | simp
      · have HD : Hid (R = false) := by show _ = _; rw [HRR.out]; rw [decide_eq_false hz, Bool.and_false]
        have hne := ad_ne hz
        clear hqn hz HRR
        rcases hne with h | ⟨rfl, h⟩ | ⟨rfl, rfl, h⟩ | ⟨rfl, rfl, rfl, h⟩
        · have q2 : ((a0 : Int) == 0) = false := by simp; omega
          clear h
          go_wp2_with (first | (refine wpList_store_rowW rfl 89 _ _ rfl w1.heap.size (badC .ok) rfl rfl 89 (badC .ok) Z2.out (badI .ok) (by simp [badC_size]) (badC_one _) W2 HW2.out ?_))
          go_ret
          refine ⟨?_, B1.out⟩
          rw [HD.out]
          first | rfl | simp
        · have q2 : ((a1 : Int) == 0) = false := by simp; omega
          clear h
          go_wp2_with (first | (refine wpList_store_rowW rfl 89 _ _ rfl w1.heap.size (badC .ok) rfl rfl 89 (badC .ok) Z2.out (badI .ok) (by simp [badC_size]) (badC_one _) W2 HW2.out ?_))
          go_ret
          refine ⟨?_, B1.out⟩
          rw [HD.out]
          first | rfl | simp
        · have q2 : ((a2 : Int) == 0) = false := by simp; omega
          clear h
          go_wp2_with (first | (refine wpList_store_rowW rfl 89 _ _ rfl w1.heap.size (badC .ok) rfl rfl 89 (badC .ok) Z2.out (badI .ok) (by simp [badC_size]) (badC_one _) W2 HW2.out ?_))
          go_ret
          refine ⟨?_, B1.out⟩
          rw [HD.out]
          first | rfl | simp
        · have q2 : ((a3 : Int) == 0) = false := by simp; omega
          clear h
          go_wp2_with (first | (refine wpList_store_rowW rfl 89 _ _ rfl w1.heap.size (badC .ok) rfl rfl 89 (badC .ok) Z2.out (badI .ok) (by simp [badC_size]) (badC_one _) W2 HW2.out ?_))
          go_ret
          refine ⟨?_, B1.out⟩
          rw [HD.out]
          first | rfl | simp
    · have q1 : ((strN q).toList == n.toList) = false := by rw [eq_byt, HB.out]; simp [hqn]
      have HD : Hid (R = false) := by show _ = _; rw [HRR.out]; simp [hqn]
      clear hqn HRR
      go_wp2_with (first | (refine wpList_store_rowW rfl 89 _ _ rfl w1.heap.size (badC .ok) rfl rfl 89 (badC .ok) Z2.out (badI .ok) (by simp [badC_size]) (badC_one _) W2 HW2.out ?_))
      go_ret
      refine ⟨?_, B1.out⟩
      rw [HD.out]
      first | rfl | simp
  · have hpos : 0 < erN er := by
      cases er with
      | ok => exact absurd rfl hok
      | one a c => simp [erN]
      | two a b c => simp [erN]
    have qN : ((erN er : Int) == 0) = false := by simp; omega
    have HD : Hid (R = false) := by show _ = _; rw [HRR.out]; simp [hok]
    clear hok HRR hpos
    generalize erN er = en at cN qN
    go_wp2_with (first | (refine wpList_store_rowW rfl 89 _ _ rfl w1.heap.size (badC er) rfl rfl 89 (badC .ok) Z2.out (badI er) (by simp [badC_size]) (badC_one _) W2 HW2.out ?_))
    go_ret
    refine ⟨?_, B1.out⟩
    rw [HD.out]
    first | rfl | simp
end Go.Proofs.YtccoddmdlbdfjaaGreatDoor

set_option linter.unusedSimpArgs false
set_option linter.unusedVariables false
namespace Go.Proofs.YtccoddmdlbdfjaaGreatDoor
open Go.RowKit

/-- The digits of a number. -/
def dec (n : Nat) : List Nat := (Lib.decDigits n).map UInt8.toNat
theorem dec_small {n : Nat} (h : n < 10) : dec n = [48 + n] := by
  unfold dec
  rw [Lib.decDigits, dif_pos h]
  simp
  omega
theorem dec_big {n : Nat} (h : ¬ n < 10) : dec n = dec (n / 10) ++ [48 + n % 10] := by
  unfold dec
  conv => lhs; rw [Lib.decDigits, dif_neg h]
  rw [List.map_append]
  congr 1
  simp
  omega
theorem dec_lt (n : Nat) : ∀ x ∈ dec n, x < 256 := by
  intro x hx
  simp only [dec, List.mem_map] at hx
  obtain ⟨c, _, rfl⟩ := hx
  exact c.toNat_lt
theorem dec_len {n : Nat} (h : n < 100000) : (dec n).length ≤ 5 := by
  have g (k n : Nat) (b : 10 ^ (k + 1) > n) : (dec n).length ≤ k + 1 := by
    induction k generalizing n with
    | zero => rw [dec_small (by simpa using b)]; simp
    | succ k ih =>
      by_cases h1 : n < 10
      · rw [dec_small h1]; simp
      · rw [dec_big h1]
        have := ih (n / 10) (by rw [Nat.pow_succ] at b; omega)
        simp; omega
  exact g 4 n h
theorem strN_dec (n : Nat) : (⟨(Lib.decDigits n).toArray⟩ : ByteArray) = strN (dec n) := by
  apply byt_inj
  rw [byt_strN _ (dec_lt n), byt_mk]
  rfl
/-- strconv.Itoa of a number that is not below 0. -/
theorem itoa_at (n : Nat) (w : World) (hn : n ≤ 1000000) (ht : Lib.TabIs Tryz.prog w "internal/strconv.uint64pow10" .u64 Lib.pow10Tab) : Calls Tryz.prog 79 #[.int .i64 (n : Int)] w fun e w' => e = .returned (.string (strN (dec n))) ∧ Below w.heap.size w w' := by
  refine (Tryz.strconv_Itoa (n : Int) (by omega) (by omega) w ht).mono ?_
  rintro e w' ⟨rfl, k, os, rfl⟩
  have e1 : Lib.itoa (n : Int) = Lib.decDigits n := by unfold Lib.itoa; rw [if_neg (by omega)]; simp
  rw [e1, strN_dec]
  refine ⟨rfl, ?_⟩
  refine ⟨rfl, rfl, rfl, ?_, fun i hi => ?_⟩
  · show w.heap.size ≤ (w.heap ++ os).size
    simp
  · show (w.heap ++ os)[i]? = w.heap[i]?
    rw [Array.getElem?_append_left hi]
set_option maxRecDepth 100000 in
set_option maxHeartbeats 2000000 in
theorem ritoa_at (m : Nat) (w : World) (hm : m ≤ 65535) : Calls Tryz.prog 48 #[.int .i64 (m : Int)] w fun e w' => e = .returned (.string (strN (dec m))) ∧ Below w.heap.size w w' := by
  by_cases h0 : m = 0
  · subst h0
    go_enter Tryz.func48, Tryz.ntmps48
    go_wp2_with fail
    go_ret
    exact ⟨by rw [dec_small (by omega)]; rfl, Below.refl _ _⟩
  have hb : ((m : Int) == 0) = false := by simp; omega
  have hd : decide ((m : Int) < 0) = false := decide_eq_false (by omega)
  have H0 := hide h0
  clear h0
  go_enter Tryz.func48, Tryz.ntmps48
  go_wp2_with fail
  clear hb
  go_loopw [0, 3] (fun nv sv wr => ∃ (n : Nat) (s : List Nat), nv = .int .i64 n ∧ sv = .string (strN s) ∧ n ≤ 65535 ∧ Hid ((if n = 0 then [] else dec n) ++ s = dec m ∧ Below w.heap.size w wr)) (fun nv _ _ => (intOf nv).toNat)
  case atStart => exact ⟨m, [], rfl, rfl, hm, by rw [if_neg H0.out, List.append_nil], Below.refl _ _⟩
  case round =>
    obtain ⟨n, s, rfl, rfl, hn, HI⟩ := hrel
    by_cases hz : n = 0
    · subst hz
      obtain ⟨i1, i3⟩ := HI.out
      have HS : Hid (s = dec m) := by have h2 : s = dec m := by simpa using i1
                                      exact h2
      have B := hide i3
      clear i1 i3
      go_wp2_with fail
      go_ret
      exact ⟨by rw [HS.out]; rfl, B.out⟩
    · have q1 : ((n : Int) == 0) = false := by simp; omega
      have q2 : ((n : Int) != 0) = true := by simp; omega
      obtain ⟨i1, i3⟩ := HI.out
      have q3 : decide ((n : Int) % 10 < 0) = false := decide_eq_false (by omega)
      have B := hide i3
      have I1 := hide i1
      have i2 : s.length ≤ 5 := by
        have h4 := dec_len (n := m) (by omega)
        rw [← i1, List.length_append] at h4; omega
      have I2 := hide i2
      clear i1 i2 i3 hd
      obtain ⟨T, hT⟩ : ∃ T, T = strN [48 + n % 10] := ⟨_, rfl⟩
      have hTs : T.size = 1 := by rw [hT, strN_size]; rfl
      have hstr : (convert 35 9 (.slice (some ⟨wr.heap.size, 0, none⟩) 1 1)).run Tryz.prog (wr.alloc (.cells #[.int .u8 (48 + (n : Int) % 10)] 5)) = .ok (.string T) (wr.alloc (.cells #[.int .u8 (48 + (n : Int) % 10)] 5)) := by
        rw [hT]
        refine run_str _ wr.heap.size 0 1 1 [48 + n % 10] rfl ?_
        intro i hi
        have : i = 0 := by omega
        subst this
        rw [World.cell?_alloc_at _ _ _ _ (by simp)]
        show some (Value.int .u8 (48 + (n : Int) % 10)) = some (Value.int .u8 ((48 + n % 10 : Nat) : Int))
        rw [show (48 + (n : Int) % 10) = ((48 + n % 10 : Nat) : Int) by omega]
      have hss : (strN s).size = s.length := strN_size s
      have hno : ¬ (9223372036854775807 < T.size + (strN s).size) := by have := I2.out; omega
      have HT := hide hT
      clear hT hss
      go_wp2_with fail
      have en : (n : Int) / 10 = ((n / 10 : Nat) : Int) := by omega
      refine ⟨⟨n / 10, (48 + n % 10) :: s, by rw [en], by rw [HT.out, ← strN_append]; rfl, by omega, ?_, B.out.alloc B.out.size _⟩, ?_⟩
      · have h3 := I1.out
        rw [if_neg hz] at h3
        rw [← h3]
        by_cases h10 : n < 10
        · rw [if_pos (by omega), dec_small h10, show n % 10 = n by omega]; rfl
        · rw [if_neg (by omega), dec_big h10]; simp
      · show ((n : Int) / 10).toNat < ((n : Int)).toNat
        omega
end Go.Proofs.YtccoddmdlbdfjaaGreatDoor
