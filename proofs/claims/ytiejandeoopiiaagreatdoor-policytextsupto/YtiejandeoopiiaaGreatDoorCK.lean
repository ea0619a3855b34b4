/-
  Check of package host and of the reference; conditions as each theorem has them.
-/
import Derived.Test.YtiejandeoopiiaaGreatDoorR
import Derived.Test.YtiejandeoopiiaaGreatDoorQ
set_option linter.unusedSimpArgs false
set_option linter.unusedVariables false
namespace Go.Proofs.YtiejandeoopiiaaGreatDoor
open Go.RowKit

def hoV (a : Ad) (n : ByteArray) : Value := .agg #[.int .u8 (a.1 : Nat), .int .u8 (a.2.1 : Nat), .int .u8 (a.2.2.1 : Nat), .int .u8 (a.2.2.2 : Nat), .string n]
set_option maxRecDepth 100000 in
set_option maxHeartbeats 4000000 in
theorem check_at (a : Ad) (n : ByteArray) (w : World) (hm : n.size ≤ maxLen) (hV : Vars w) : Calls Tryz.prog 23 #[hoV a n] w fun e w' => e = .returned (.bool (chk a (byt n))) ∧ Below w.heap.size w w' := by
  obtain ⟨a0, a1, a2, a3⟩ := a
  simp only [hoV]
  by_cases h0 : byt n = []
  · have he : n.toList.isEmpty = true := by rw [isEmpty_byt]; simp [h0]
    have he2 : (n.toList == []) = true := by simpa using he
    have HR : Hid (chk (a0, a1, a2, a3) (byt n) = true) := by simp [chk, h0, Hid]
    rw [HR.out]
    clear h0
    go_enter Tryz.func23, Tryz.ntmps23
    go_wp2_with fail
    go_ret
    exact ⟨rfl, (Below.refl _ _).alloc (Nat.le_refl _) _⟩
  have he : n.toList.isEmpty = false := by rw [isEmpty_byt]; simp [h0]
  have he2 : (n.toList == []) = false := by
    cases hh : n.toList with
    | nil => rw [hh] at he; cases he
    | cons a b => rfl
  have HC : Hid (chk (a0, a1, a2, a3) (byt n) = (decide (name (byt n) = (byt n, .ok)) && decide (((a0, a1, a2, a3) : Ad) = (0, 0, 0, 0)))) := by simp [chk, h0, Hid]
  rw [HC.out]
  obtain ⟨q, er, hq⟩ : ∃ q er, name (byt n) = (q, er) := ⟨_, _, rfl⟩
  have hql : ∀ x ∈ q, x < 256 := by have := name_lt (byt_lt n); rw [hq] at this; exact this
  have HB : Hid (byt (strN q) = q) := byt_strN q hql
  have HQ := hide hq
  have HMX := hide hm
  have hb0 : Below w.heap.size w (w.alloc (.cells #[.int .u8 (a0 : Nat), .int .u8 (a1 : Nat), .int .u8 (a2 : Nat), .int .u8 (a3 : Nat), .string n] 26)) := (Below.refl _ _).alloc (Nat.le_refl _) _
  have HV := hide (hV.below hb0)
  have B0 := hide hb0
  have HEQ : Hid (decide (name (byt n) = (byt n, Er.ok)) = (decide (er = .ok) && decide (q = byt n))) := by
    show _ = _
    rw [hq]
    by_cases h1 : er = .ok <;> by_cases h2 : q = byt n <;> simp [h1, h2]
  rw [HEQ.out]
  obtain ⟨R, hR⟩ : ∃ R, R = (decide (er = .ok) && decide (q = byt n) && decide (((a0, a1, a2, a3) : Ad) = (0, 0, 0, 0))) := ⟨_, rfl⟩
  rw [← hR]
  have HRR := hide hR
  clear hR
  have hr0 : (w.alloc (.cells #[.int .u8 (a0 : Nat), .int .u8 (a1 : Nat), .int .u8 (a2 : Nat), .int .u8 (a3 : Nat), .string n] 26)).heap[w.heap.size]? = some (.cells #[.int .u8 (a0 : Nat), .int .u8 (a1 : Nat), .int .u8 (a2 : Nat), .int .u8 (a3 : Nat), .string n] 26) := alloc_new _ _
  have R0 := hide hr0
  clear h0 hq hql hm hb0 hV hr0 HC HEQ
  go_enter Tryz.func23, Tryz.ntmps23
  go_wp2_with fail
  refine (parseName_at n _ HMX.out HV.out).mono ?_
  rintro e w1 ⟨v, rfl, her, hb1⟩
  rw [HQ.out] at her ⊢
  simp only [] at her ⊢
  have s1 := keepB hb1 R0.out
  have c0 : w1.cell? ⟨w.heap.size, 0, none⟩ = some (.int .u8 (a0 : Nat)) := by simp [World.cell?, s1]
  have c1 : w1.cell? ⟨w.heap.size, 1, none⟩ = some (.int .u8 (a1 : Nat)) := by simp [World.cell?, s1]
  have c2 : w1.cell? ⟨w.heap.size, 2, none⟩ = some (.int .u8 (a2 : Nat)) := by simp [World.cell?, s1]
  have c3 : w1.cell? ⟨w.heap.size, 3, none⟩ = some (.int .u8 (a3 : Nat)) := by simp [World.cell?, s1]
  have c4 : w1.cell? ⟨w.heap.size, 4, none⟩ = some (.string n) := by simp [World.cell?, s1]
  have B1 := hide (B0.out.trans (hb1.mono B0.out.size))
  have ER := hide her
  clear hb1 s1 her B0 R0 HV
  by_cases hok : er = .ok
  · subst hok
    have hv : v = .nilIface := ER.out
    subst hv
    by_cases hqn : q = byt n
    · have q1 : ((strN q).toList == n.toList) = true := by rw [eq_byt, HB.out]; simp [hqn]
      by_cases hz : ((a0, a1, a2, a3) : Ad) = (0, 0, 0, 0)
      · have HD : Hid (R = true) := by show _ = _; rw [HRR.out]; simp [hqn, hz]
        simp only [Prod.mk.injEq] at hz
        obtain ⟨rfl, rfl, rfl, rfl⟩ := hz
        clear hqn HRR
        go_wp2_with fail
        go_ret
        refine ⟨?_, B1.out⟩
        rw [HD.out]
        first | rfl | simp
      · have HD : Hid (R = false) := by show _ = _; rw [HRR.out]; rw [decide_eq_false hz, Bool.and_false]
        have hne := ad_ne hz
        clear hqn hz HRR
        rcases hne with h | ⟨rfl, h⟩ | ⟨rfl, rfl, h⟩ | ⟨rfl, rfl, rfl, h⟩
        · have q2 : ((a0 : Int) == 0) = false := by simp; omega
          clear h
          go_wp2_with fail
          go_ret
          refine ⟨?_, B1.out⟩
          rw [HD.out]
          first | rfl | simp
        · have q2 : ((a1 : Int) == 0) = false := by simp; omega
          clear h
          go_wp2_with fail
          go_ret
          refine ⟨?_, B1.out⟩
          rw [HD.out]
          first | rfl | simp
        · have q2 : ((a2 : Int) == 0) = false := by simp; omega
          clear h
          go_wp2_with fail
          go_ret
          refine ⟨?_, B1.out⟩
          rw [HD.out]
          first | rfl | simp
        · have q2 : ((a3 : Int) == 0) = false := by simp; omega
          clear h
          go_wp2_with fail
          go_ret
          refine ⟨?_, B1.out⟩
          rw [HD.out]
          first | rfl | simp
    · have q1 : ((strN q).toList == n.toList) = false := by rw [eq_byt, HB.out]; simp [hqn]
      have HD : Hid (R = false) := by show _ = _; rw [HRR.out]; simp [hqn]
      clear hqn HRR
      go_wp2_with fail
      go_ret
      refine ⟨?_, B1.out⟩
      rw [HD.out]
      first | rfl | simp
  · obtain ⟨b, rfl⟩ := ER.out.some hok
    have HD : Hid (R = false) := by show _ = _; rw [HRR.out]; simp [hok]
    clear hok HRR
    go_wp2_with fail
    go_ret
    refine ⟨?_, B1.out⟩
    rw [HD.out]
    first | rfl | simp
set_option maxRecDepth 100000 in
set_option maxHeartbeats 4000000 in
theorem rcheck_at (a : Ad) (n : ByteArray) (w : World) (hm : n.size ≤ maxLen) : Calls Tryz.prog 41 #[hoV a n] w fun e w' => e = .returned (.bool (chk a (byt n))) ∧ Below w.heap.size w w' := by
  obtain ⟨a0, a1, a2, a3⟩ := a
  simp only [hoV]
  by_cases h0 : byt n = []
  · have he : n.toList.isEmpty = true := by rw [isEmpty_byt]; simp [h0]
    have he2 : (n.toList == []) = true := by simpa using he
    have HR : Hid (chk (a0, a1, a2, a3) (byt n) = true) := by simp [chk, h0, Hid]
    rw [HR.out]
    clear h0
    go_enter Tryz.func41, Tryz.ntmps41
    go_wp2_with fail
    go_ret
    exact ⟨rfl, (Below.refl _ _).alloc (Nat.le_refl _) _⟩
  have he : n.toList.isEmpty = false := by rw [isEmpty_byt]; simp [h0]
  have he2 : (n.toList == []) = false := by
    cases hh : n.toList with
    | nil => rw [hh] at he; cases he
    | cons a b => rfl
  have HC : Hid (chk (a0, a1, a2, a3) (byt n) = (decide (name (byt n) = (byt n, .ok)) && decide (((a0, a1, a2, a3) : Ad) = (0, 0, 0, 0)))) := by simp [chk, h0, Hid]
  rw [HC.out]
  obtain ⟨q, er, hq⟩ : ∃ q er, name (byt n) = (q, er) := ⟨_, _, rfl⟩
  have hql : ∀ x ∈ q, x < 256 := by have := name_lt (byt_lt n); rw [hq] at this; exact this
  have HB : Hid (byt (strN q) = q) := byt_strN q hql
  have HQ := hide hq
  have HMX := hide hm
  have hb0 : Below w.heap.size w (w.alloc (.cells #[.int .u8 (a0 : Nat), .int .u8 (a1 : Nat), .int .u8 (a2 : Nat), .int .u8 (a3 : Nat), .string n] 26)) := (Below.refl _ _).alloc (Nat.le_refl _) _
  have B0 := hide hb0
  have HEQ : Hid (decide (name (byt n) = (byt n, Er.ok)) = (decide (er = .ok) && decide (q = byt n))) := by
    show _ = _
    rw [hq]
    by_cases h1 : er = .ok <;> by_cases h2 : q = byt n <;> simp [h1, h2]
  rw [HEQ.out]
  obtain ⟨R, hR⟩ : ∃ R, R = (decide (er = .ok) && decide (q = byt n) && decide (((a0, a1, a2, a3) : Ad) = (0, 0, 0, 0))) := ⟨_, rfl⟩
  rw [← hR]
  have HRR := hide hR
  clear hR
  have hr0 : (w.alloc (.cells #[.int .u8 (a0 : Nat), .int .u8 (a1 : Nat), .int .u8 (a2 : Nat), .int .u8 (a3 : Nat), .string n] 26)).heap[w.heap.size]? = some (.cells #[.int .u8 (a0 : Nat), .int .u8 (a1 : Nat), .int .u8 (a2 : Nat), .int .u8 (a3 : Nat), .string n] 26) := alloc_new _ _
  have R0 := hide hr0
  clear h0 hq hql hm hb0 hr0 HC HEQ
  go_enter Tryz.func41, Tryz.ntmps41
  go_wp2_with fail
  refine (rparseName_at n _ HMX.out).mono ?_
  rintro e w1 ⟨rfl, hb1⟩
  rw [HQ.out]
  simp only []
  rw [badV_badC]
  obtain ⟨W2, hW2⟩ : ∃ W2, W2 = (w1.alloc (.cells (badC .ok) 64)).setRow w1.heap.size (badC er) := ⟨_, rfl⟩
  have z2 : (w1.alloc (.cells (badC .ok) 64)).heap[w1.heap.size]? = some (.cells (badC .ok) 64) := alloc_new _ _
  have k2 : Below w1.heap.size w1 W2 := by rw [hW2]; exact below_setRow ((Below.refl _ _).alloc (Nat.le_refl _) _) (by omega) _
  have p2 : W2.heap[w1.heap.size]? = some (.cells (badC er) 64) := by rw [hW2]; exact setRow_heap _ _ _ _ _ z2
  have s1 := keepB k2 (keepB hb1 R0.out)
  have c0 : W2.cell? ⟨w.heap.size, 0, none⟩ = some (.int .u8 (a0 : Nat)) := by simp [World.cell?, s1]
  have c1 : W2.cell? ⟨w.heap.size, 1, none⟩ = some (.int .u8 (a1 : Nat)) := by simp [World.cell?, s1]
  have c2 : W2.cell? ⟨w.heap.size, 2, none⟩ = some (.int .u8 (a2 : Nat)) := by simp [World.cell?, s1]
  have c3 : W2.cell? ⟨w.heap.size, 3, none⟩ = some (.int .u8 (a3 : Nat)) := by simp [World.cell?, s1]
  have c4 : W2.cell? ⟨w.heap.size, 4, none⟩ = some (.string n) := by simp [World.cell?, s1]
  have cN : W2.cell? ⟨w1.heap.size, 0, none⟩ = some (.int .i64 (erN er : Nat)) := by simp only [World.cell?, p2]; exact badC_N er
  have B1 := hide ((B0.out.trans (hb1.mono B0.out.size)).trans (k2.mono (B0.out.trans (hb1.mono B0.out.size)).size))
  have Z2 := hide z2
  have HW2 := hide hW2
  clear hb1 s1 B0 R0 z2 hW2 k2 p2
  by_cases hok : er = .ok
  · subst hok
    simp only [erN] at cN
    by_cases hqn : q = byt n
    · have q1 : ((strN q).toList == n.toList) = true := by rw [eq_byt, HB.out]; simp [hqn]
      by_cases hz : ((a0, a1, a2, a3) : Ad) = (0, 0, 0, 0)
      · have HD : Hid (R = true) := by show _ = _; rw [HRR.out]; simp [hqn, hz]
        simp only [Prod.mk.injEq] at hz
        obtain ⟨rfl, rfl, rfl, rfl⟩ := hz
        clear hqn HRR
        go_wp2_with (first | (refine wpList_store_rowW rfl 64 _ _ rfl w1.heap.size (badC .ok) rfl rfl 64 (badC .ok) Z2.out (badI .ok) (by simp [badC_size]) (badC_one _) W2 HW2.out ?_))
        go_ret
        refine ⟨?_, B1.out⟩
        rw [HD.out]
        first | rfl | simp
      · have HD : Hid (R = false) := by show _ = _; rw [HRR.out]; rw [decide_eq_false hz, Bool.and_false]
        have hne := ad_ne hz
        clear hqn hz HRR
        rcases hne with h | ⟨rfl, h⟩ | ⟨rfl, rfl, h⟩ | ⟨rfl, rfl, rfl, h⟩
        · have q2 : ((a0 : Int) == 0) = false := by simp; omega
          clear h
          go_wp2_with (first | (refine wpList_store_rowW rfl 64 _ _ rfl w1.heap.size (badC .ok) rfl rfl 64 (badC .ok) Z2.out (badI .ok) (by simp [badC_size]) (badC_one _) W2 HW2.out ?_))
          go_ret
          refine ⟨?_, B1.out⟩
          rw [HD.out]
          first | rfl | simp
        · have q2 : ((a1 : Int) == 0) = false := by simp; omega
          clear h
          go_wp2_with (first | (refine wpList_store_rowW rfl 64 _ _ rfl w1.heap.size (badC .ok) rfl rfl 64 (badC .ok) Z2.out (badI .ok) (by simp [badC_size]) (badC_one _) W2 HW2.out ?_))
          go_ret
          refine ⟨?_, B1.out⟩
          rw [HD.out]
          first | rfl | simp
        · have q2 : ((a2 : Int) == 0) = false := by simp; omega
          clear h
          go_wp2_with (first | (refine wpList_store_rowW rfl 64 _ _ rfl w1.heap.size (badC .ok) rfl rfl 64 (badC .ok) Z2.out (badI .ok) (by simp [badC_size]) (badC_one _) W2 HW2.out ?_))
          go_ret
          refine ⟨?_, B1.out⟩
          rw [HD.out]
          first | rfl | simp
        · have q2 : ((a3 : Int) == 0) = false := by simp; omega
          clear h
          go_wp2_with (first | (refine wpList_store_rowW rfl 64 _ _ rfl w1.heap.size (badC .ok) rfl rfl 64 (badC .ok) Z2.out (badI .ok) (by simp [badC_size]) (badC_one _) W2 HW2.out ?_))
          go_ret
          refine ⟨?_, B1.out⟩
          rw [HD.out]
          first | rfl | simp
    · have q1 : ((strN q).toList == n.toList) = false := by rw [eq_byt, HB.out]; simp [hqn]
      have HD : Hid (R = false) := by show _ = _; rw [HRR.out]; simp [hqn]
      clear hqn HRR
      go_wp2_with (first | (refine wpList_store_rowW rfl 64 _ _ rfl w1.heap.size (badC .ok) rfl rfl 64 (badC .ok) Z2.out (badI .ok) (by simp [badC_size]) (badC_one _) W2 HW2.out ?_))
      go_ret
      refine ⟨?_, B1.out⟩
      rw [HD.out]
      first | rfl | simp
  · have hpos : 0 < erN er := by
      cases er with
      | none => exact absurd rfl hok
      | some p => simp [erN]
    have qN : ((erN er : Int) == 0) = false := by simp; omega
    have HD : Hid (R = false) := by show _ = _; rw [HRR.out]; simp [hok]
    clear hok HRR hpos
    generalize erN er = en at cN qN
    go_wp2_with (first | (refine wpList_store_rowW rfl 64 _ _ rfl w1.heap.size (badC er) rfl rfl 64 (badC .ok) Z2.out (badI er) (by simp [badC_size]) (badC_one _) W2 HW2.out ?_))
    go_ret
    refine ⟨?_, B1.out⟩
    rw [HD.out]
    first | rfl | simp
/-- A destination. -/
def deV (a : Ad) (n : ByteArray) (p : Int) : Value := .agg #[.int .u8 (a.1 : Nat), .int .u8 (a.2.1 : Nat), .int .u8 (a.2.2.1 : Nat), .int .u8 (a.2.2.2 : Nat), .string n, .int .i64 p]
end Go.Proofs.YtiejandeoopiiaaGreatDoor
