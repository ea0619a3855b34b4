/-
  Small functions of package head: small, isWithin, isVersion, isStatus, isReason, isPath, readStatus, isTokenByte, Token; conditions as each theorem has them.
-/
import Derived.Test.YtccoddmdlbdfjaaGreatDoorQ
import Derived.Test.YtccoddmdlbdfjaaGreatDoorN2
set_option linter.unusedSimpArgs false
set_option linter.unusedVariables false
namespace Go.Proofs.YtccoddmdlbdfjaaGreatDoor
open Go.RowKit

theorem small_at (c : Nat) (w : World) (hc : c < 256) : Calls Tryz.prog 140 #[.int .u8 c] w fun e w' => e = .returned (.int .u8 (lo c : Nat)) ∧ w = w' := by
  by_cases h65 : 65 ≤ c
  · have q1 : decide (65 ≤ (c : Int)) = true := decide_eq_true (by omega)
    by_cases h90 : c ≤ 90
    · have q2 : decide ((c : Int) ≤ 90) = true := decide_eq_true (by omega)
      have hlo : (lo c : Nat) = c + 32 := by rw [lo, if_pos ⟨h65, h90⟩]
      rw [hlo]
      clear hlo
      go_enter Tryz.func140, Tryz.ntmps140
      go_wp2
      go_ret
      refine ⟨?_, rfl⟩
      show Ending.returned (.int .u8 ((c : Int) - 65 + 97)) = _
      rw [show ((c : Int) - 65 + 97) = ((c + 32 : Nat) : Int) by omega]
    · have q2 : decide ((c : Int) ≤ 90) = false := decide_eq_false (by omega)
      have hlo : (lo c : Nat) = c := by rw [lo, if_neg (by omega)]
      rw [hlo]
      clear hlo
      go_enter Tryz.func140, Tryz.ntmps140
      go_wp2
      go_ret
      exact ⟨rfl, rfl⟩
  · have q1 : decide (65 ≤ (c : Int)) = false := decide_eq_false (by omega)
    have hlo : (lo c : Nat) = c := by rw [lo, if_neg (by omega)]
    rw [hlo]
    clear hlo
    go_enter Tryz.func140, Tryz.ntmps140
    go_wp2
    go_ret
    exact ⟨rfl, rfl⟩
theorem all_take (p : Nat → Bool) (l : List Nat) (k : Nat) (h : k < l.length) (h1 : (l.take k).all p = true) (h2 : p (l.getD k 0) = true) : (l.take (k + 1)).all p = true := by
  rw [take_snoc l k h]; simp only [List.all_append, h1, List.all_cons, h2, List.all_nil]; rfl
theorem all_not (p : Nat → Bool) (l : List Nat) (k : Nat) (h : k < l.length) (h2 : p (l.getD k 0) = false) : l.all p = false := by
  rw [List.all_eq_false]
  exact ⟨l.getD k 0, getD_mem h, by rw [h2]; simp⟩

set_option maxRecDepth 100000 in
set_option maxHeartbeats 2000000 in
theorem within_at (t : ByteArray) (a b : Nat) (w : World) (hm : t.size ≤ 1000000) : Calls Tryz.prog 114 #[.string t, .int .u8 a, .int .u8 b] w fun e w' => e = .returned (.bool (within a b (byt t))) ∧ Below w.heap.size w w' := by
  obtain ⟨l, hl⟩ : ∃ l, l = byt t := ⟨_, rfl⟩
  rw [← hl]
  obtain ⟨N, hN⟩ : ∃ N, N = t.size := ⟨_, rfl⟩
  have HNL : Hid (N = l.length) := by show _ = _; rw [hN, hl, byt_length]
  obtain ⟨cap, w1, hcv, hcap, hb1, hbeg⟩ := conv_bytes t w
  rw [← hN] at hcv hcap hm
  rw [← hl] at hbeg
  have HI : Hid (Beg w1 w.heap.size l ∧ Below w.heap.size w w1) := ⟨hbeg, hb1⟩
  clear hl hN hb1 hbeg
  go_enter Tryz.func114, Tryz.ntmps114
  go_wp2_with fail
  clear hcv
  go_loop [12] (fun i => ∃ k : Nat, k ≤ N ∧ i = .int .i64 k ∧ Hid (within a b (l.take k) = true)) (fun i => N - (intOf i).toNat)
  case atStart => exact ⟨0, by omega, rfl, by show within a b (l.take 0) = true; rfl⟩
  case round =>
    obtain ⟨k, hk, rfl, HR⟩ := hrel
    by_cases hkN : k < N
    · have hdk : decide ((k : Int) < (N : Int)) = true := decide_eq_true (by omega)
      have hkl : k < l.length := by rw [← HNL.out]; exact hkN
      have hcl := HI.out.1.cell hkl
      have HA : Hid ((decide (a ≤ l.getD k 0) && decide (l.getD k 0 ≤ b)) = true → within a b (l.take (k + 1)) = true) := fun h => all_take _ l k hkl HR.out h
      have HF : Hid ((decide (a ≤ l.getD k 0) && decide (l.getD k 0 ≤ b)) = false → within a b l = false) := fun h => all_not _ l k hkl h
      obtain ⟨c, hcc⟩ : ∃ c, c = l.getD k 0 := ⟨_, rfl⟩
      rw [← hcc] at hcl HA HF
      clear hcc hkl
      by_cases h1 : c < a
      · have q1 : decide ((c : Int) < (a : Int)) = true := decide_eq_true (by omega)
        have hf := hide (HF.out (by simp; omega))
        clear HA HF
        go_wp2_with fail
        go_ret
        refine ⟨?_, HI.out.2⟩
        rw [hf.out]; rfl
      · have q1 : decide ((c : Int) < (a : Int)) = false := decide_eq_false (by omega)
        by_cases h2 : b < c
        · have q2 : decide ((b : Int) < (c : Int)) = true := decide_eq_true (by omega)
          have hf := hide (HF.out (by simp; omega))
          clear HA HF
          go_wp2_with fail
          go_ret
          refine ⟨?_, HI.out.2⟩
          rw [hf.out]; rfl
        · have q2 : decide ((b : Int) < (c : Int)) = false := decide_eq_false (by omega)
          have ht := hide (HA.out (by simp; omega))
          clear HA HF
          go_wp2_with fail
          go_round
          case rel => exact ⟨k + 1, by omega, by go_num, ht.out⟩
          case measure => simp [intOf]; omega
    · have hdk : decide ((k : Int) < (N : Int)) = false := decide_eq_false (by omega)
      have hr := hide (by have := HR.out; rw [List.take_of_length_le (by rw [← HNL.out]; omega)] at this; exact this : within a b l = true)
      go_wp2_with fail
      go_ret
      refine ⟨?_, HI.out.2⟩
      rw [hr.out]; rfl

theorem toList_byt (t : ByteArray) (l : List UInt8) : (t.toList == l) = decide (byt t = l.map UInt8.toNat) := by
  rw [Lib.toList_data]
  by_cases h : t.data.toList = l
  · rw [decide_eq_true (by unfold byt; rw [h])]; simpa using h
  · have hn : ¬ byt t = l.map UInt8.toNat := fun e => h (by
      unfold byt at e
      exact (List.map_inj_right fun a b hab => UInt8.toNat_inj.1 hab).1 e)
    rw [decide_eq_false hn]; simpa using h
theorem toList_ne (t : ByteArray) (h : byt t ≠ []) : t.toList.isEmpty = false ∧ (t.toList == []) = false := by
  have h2 := toList_byt t []
  rw [decide_eq_false (by simpa using h)] at h2
  refine ⟨?_, h2⟩
  cases hh : t.toList with
  | nil => rw [hh] at h2; simp at h2
  | cons a b => rfl
theorem toList_nil (t : ByteArray) (h : byt t = []) : t.toList.isEmpty = true ∧ (t.toList == []) = true := by
  have h2 := toList_byt t []
  rw [decide_eq_true (by simpa using h)] at h2
  refine ⟨?_, h2⟩
  cases hh : t.toList with
  | nil => rfl
  | cons a b => rw [hh] at h2; simp at h2

theorem isVersion_at (t : ByteArray) (w : World) : Calls Tryz.prog 90 #[.string t] w fun e w' => e = .returned (.bool (ver (byt t))) ∧ w = w' := by
  have q1 := toList_byt t [72, 84, 84, 80, 47, 49, 46, 49]
  have q2 := toList_byt t [72, 84, 84, 80, 47, 49, 46, 48]
  rw [show ([72, 84, 84, 80, 47, 49, 46, 49] : List UInt8).map UInt8.toNat = v11 from rfl] at q1
  rw [show ([72, 84, 84, 80, 47, 49, 46, 48] : List UInt8).map UInt8.toNat = v10 from rfl] at q2
  unfold ver
  by_cases h1 : byt t = v11
  · rw [decide_eq_true h1] at q1 ⊢
    clear h1
    have H2 := hide q2
    clear q2
    go_enter Tryz.func90, Tryz.ntmps90
    go_wp2_with fail
    go_ret
    exact ⟨rfl, rfl⟩
  · rw [decide_eq_false h1] at q1 ⊢
    clear h1
    by_cases h2 : byt t = v10
    · rw [decide_eq_true h2] at q2 ⊢
      clear h2
      go_enter Tryz.func90, Tryz.ntmps90
      go_wp2_with fail
      go_ret
      exact ⟨rfl, rfl⟩
    · rw [decide_eq_false h2] at q2 ⊢
      clear h2
      go_enter Tryz.func90, Tryz.ntmps90
      go_wp2_with fail
      go_ret
      exact ⟨rfl, rfl⟩
theorem isStatus_at (n : Int) (w : World) : Calls Tryz.prog 76 #[.int .i64 n] w fun e w' => e = .returned (.bool (decide (100 ≤ n) && decide (n ≤ 599))) ∧ w = w' := by
  by_cases h1 : 100 ≤ n
  · have q1 : decide (100 ≤ n) = true := decide_eq_true h1
    go_enter Tryz.func76, Tryz.ntmps76
    go_wp2_with fail
    go_ret
    exact ⟨by simp [q1], rfl⟩
  · have q1 : decide (100 ≤ n) = false := decide_eq_false h1
    go_enter Tryz.func76, Tryz.ntmps76
    go_wp2_with fail
    go_ret
    exact ⟨by simp [q1], rfl⟩
set_option maxRecDepth 100000 in
set_option maxHeartbeats 2000000 in
theorem isReason_at (t : ByteArray) (w : World) : Calls Tryz.prog 77 #[.string t] w fun e w' => e = .returned (.bool (reason (byt t))) ∧ Below w.heap.size w w' := by
  have hl := byt_length t
  obtain ⟨N, hN⟩ : ∃ N, N = t.size := ⟨_, rfl⟩
  have hNI : (t.size : Int) = (N : Int) := by rw [hN]
  rw [← hN] at hl
  have HN := hide hN
  clear hN
  by_cases h1 : N ≤ 256
  · have q1 : decide ((N : Int) ≤ 256) = true := decide_eq_true (by omega)
    have q2 : decide (N ≤ 256) = true := decide_eq_true (by omega)
    have hr : reason (byt t) = within 32 126 (byt t) := by unfold reason; rw [hl, q2]; rfl
    rw [hr]
    have HW := hide (within_at t 32 126 w (by rw [← HN.out]; omega))
    clear hl hr
    go_enter Tryz.func77, Tryz.ntmps77
    go_wp2_with fail
    refine HW.out.mono ?_
    rintro e w1 ⟨rfl, hb⟩
    have HB := hide hb
    clear hb HW
    go_wp2_with fail
    go_ret
    exact ⟨by first | rfl | simp, HB.out⟩
  · have q1 : decide ((N : Int) ≤ 256) = false := decide_eq_false (by omega)
    have q2 : decide (N ≤ 256) = false := decide_eq_false (by omega)
    have hr : reason (byt t) = false := by unfold reason; rw [hl, q2]; rfl
    rw [hr]
    clear hl hr
    go_enter Tryz.func77, Tryz.ntmps77
    go_wp2_with fail
    go_ret
    exact ⟨rfl, Below.refl _ _⟩
theorem pre47 (t : ByteArray) : Lib.hasPrefix t.data.toList [47] = decide ((byt t).head? = some 47) := by
  unfold Lib.hasPrefix byt
  cases t.data.toList with
  | nil => rfl
  | cons c r =>
    simp only [List.map_cons, List.head?_cons]
    by_cases h : c = 47
    · subst h; rfl
    · have : ¬ c.toNat = 47 := fun e => h (UInt8.toNat_inj.1 (by simpa using e))
      rw [decide_eq_false (by simpa using this)]
      simp [List.isPrefixOf, Ne.symm h]
set_option maxRecDepth 100000 in
set_option maxHeartbeats 2000000 in
theorem isPath_at (t : ByteArray) (w : World) (hm : t.size ≤ maxLen) : Calls Tryz.prog 135 #[.string t] w fun e w' => e = .returned (.bool (path (byt t))) ∧ Below w.heap.size w w' := by
  have hl := byt_length t
  unfold maxLen at hm
  have HP := hide (Tryz.strings_HasPrefix t ⟨#[47]⟩ w)
  rw [show (⟨#[47]⟩ : ByteArray).data.toList = [47] from rfl, pre47 t] at HP
  obtain ⟨N, hN⟩ : ∃ N, N = t.size := ⟨_, rfl⟩
  have hNI : (t.size : Int) = (N : Int) := by rw [hN]
  rw [← hN] at hl hm
  have HN := hide hN
  clear hN
  by_cases h0 : (byt t).head? = some 47
  · rw [decide_eq_true h0] at HP
    by_cases h1 : N ≤ 2048
    · have q1 : decide ((N : Int) ≤ 2048) = true := decide_eq_true (by omega)
      have q2 : decide (N ≤ 2048) = true := decide_eq_true (by omega)
      have hr : path (byt t) = within 33 126 (byt t) := by unfold path; rw [hl, q2, decide_eq_true h0]; rfl
      rw [hr]
      have HW := hide (within_at t 33 126 w (by rw [← HN.out]; omega))
      clear hl hr h0
      go_enter Tryz.func135, Tryz.ntmps135
      go_wp2_with fail
      refine HP.out.mono ?_
      rintro e w0 ⟨rfl, rfl⟩
      go_wp2_with fail
      refine HW.out.mono ?_
      rintro e w1 ⟨rfl, hb⟩
      have HB := hide hb
      clear hb HW
      go_wp2_with fail
      go_ret
      exact ⟨by first | rfl | simp, HB.out⟩
    · have q1 : decide ((N : Int) ≤ 2048) = false := decide_eq_false (by omega)
      have q2 : decide (N ≤ 2048) = false := decide_eq_false (by omega)
      have hr : path (byt t) = false := by unfold path; rw [hl, q2]; simp
      rw [hr]
      clear hl hr h0
      go_enter Tryz.func135, Tryz.ntmps135
      go_wp2_with fail
      refine HP.out.mono ?_
      rintro e w0 ⟨rfl, rfl⟩
      go_wp2_with fail
      go_ret
      exact ⟨rfl, Below.refl _ _⟩
  · rw [decide_eq_false h0] at HP
    have hr : path (byt t) = false := by unfold path; rw [decide_eq_false h0]; simp
    rw [hr]
    clear hl hr h0
    go_enter Tryz.func135, Tryz.ntmps135
    go_wp2_with fail
    refine HP.out.mono ?_
    rintro e w0 ⟨rfl, rfl⟩
    go_wp2_with fail
    go_ret
    exact ⟨rfl, Below.refl _ _⟩
theorem mk_idx : ∀ c : Fin 256, decide (0 ≤ Lib.indexByte [33, 35, 36, 37, 38, 39, 42, 43, 45, 46, 94, 95, 96, 124, 126] (c.val.toUInt8)) = mk.contains c.val := by decide +kernel
theorem mkIdx_at (c : Nat) (w : World) (hc : c < 256) : Calls Tryz.prog 134 #[.string ⟨#[33, 35, 36, 37, 38, 39, 42, 43, 45, 46, 94, 95, 96, 124, 126]⟩, .int .u8 c] w fun e w' => ∃ i : Int, e = .returned (.int .i64 i) ∧ decide (0 ≤ i) = mk.contains c ∧ w = w' := by
  have HM : Hid (decide (0 ≤ Lib.indexByte [33, 35, 36, 37, 38, 39, 42, 43, 45, 46, 94, 95, 96, 124, 126] ((c : Int).toNat.toUInt8)) = mk.contains c) := mk_idx ⟨c, hc⟩
  have HI := hide (Tryz.stringslite_IndexByte ⟨#[33, 35, 36, 37, 38, 39, 42, 43, 45, 46, 94, 95, 96, 124, 126]⟩ c w)
  go_enter Tryz.func134, Tryz.ntmps134
  go_wp2_with fail
  refine HI.out.mono ?_
  rintro e w0 ⟨rfl, rfl⟩
  go_wp2_with fail
  go_ret
  exact ⟨_, rfl, HM.out, rfl⟩
theorem tb_lo (c : Nat) : tb c = ((decide (97 ≤ lo c) && decide (lo c ≤ 122)) || (dig c || mk.contains c)) := by
  unfold tb lo
  by_cases h : 65 ≤ c ∧ c ≤ 90
  · rw [if_pos h, decide_eq_true h.1, decide_eq_true h.2, decide_eq_true (show 97 ≤ c + 32 by omega), decide_eq_true (show c + 32 ≤ 122 by omega)]; simp
  · rw [if_neg h]
    have : (decide (65 ≤ c) && decide (c ≤ 90)) = false := by simp; omega
    rw [this]; simp [Bool.or_assoc]
set_option maxRecDepth 100000 in
set_option maxHeartbeats 2000000 in
theorem isTokenByte_at (c : Nat) (w : World) (hc : c < 256) : Calls Tryz.prog 126 #[.int .u8 c] w fun e w' => e = .returned (.bool (tb c)) ∧ w = w' := by
  have HS := hide (small_at c w hc)
  have HM := hide (mkIdx_at c w hc)
  rw [tb_lo]
  obtain ⟨L, hL⟩ : ∃ L, L = lo c := ⟨_, rfl⟩
  rw [← hL] at HS ⊢
  have hL2 : L < 256 := by rw [hL]; exact lo_lt hc
  clear hL
  by_cases h1 : 97 ≤ L ∧ L ≤ 122
  · have q1 : decide (97 ≤ (L : Int)) = true := decide_eq_true (by omega)
    have q2 : decide ((L : Int) ≤ 122) = true := decide_eq_true (by omega)
    rw [decide_eq_true h1.1, decide_eq_true h1.2]
    clear h1
    go_enter Tryz.func126, Tryz.ntmps126
    go_wp2_with fail
    refine HS.out.mono ?_
    rintro e w0 ⟨rfl, rfl⟩
    go_wp2_with fail
    refine HS.out.mono ?_
    rintro e w0 ⟨rfl, rfl⟩
    go_wp2_with fail
    go_ret
    exact ⟨by first | rfl | simp, rfl⟩
  · have hn : (decide (97 ≤ L) && decide (L ≤ 122)) = false := by simp; omega
    rw [hn]
    simp only [Bool.false_or]
    have tail : ∀ (d1 d2 : Bool), decide (48 ≤ (c : Int)) = d1 → decide ((c : Int) ≤ 57) = d2 → dig c = (d1 && d2) := by
      intro d1 d2 e1 e2
      unfold dig
      rw [← e1, ← e2]
      congr 1 <;> (apply decide_eq_decide.2; omega)
    by_cases ha : 97 ≤ L
    · have q1 : decide (97 ≤ (L : Int)) = true := decide_eq_true (by omega)
      have q2 : decide ((L : Int) ≤ 122) = false := decide_eq_false (by omega)
      clear h1 hn ha
      by_cases hd : 48 ≤ c
      · have d1 : decide (48 ≤ (c : Int)) = true := decide_eq_true (by omega)
        by_cases hd2 : c ≤ 57
        · have d2 : decide ((c : Int) ≤ 57) = true := decide_eq_true (by omega)
          rw [tail _ _ d1 d2]
          clear tail
          go_enter Tryz.func126, Tryz.ntmps126
          go_wp2_with fail
          refine HS.out.mono ?_
          rintro e w0 ⟨rfl, rfl⟩
          go_wp2_with fail
          refine HS.out.mono ?_
          rintro e w0 ⟨rfl, rfl⟩
          go_wp2_with fail
          go_ret
          exact ⟨by first | rfl | simp, rfl⟩
        · have d2 : decide ((c : Int) ≤ 57) = false := decide_eq_false (by omega)
          rw [tail _ _ d1 d2]
          clear tail
          go_enter Tryz.func126, Tryz.ntmps126
          go_wp2_with fail
          refine HS.out.mono ?_
          rintro e w0 ⟨rfl, rfl⟩
          go_wp2_with fail
          refine HS.out.mono ?_
          rintro e w0 ⟨rfl, rfl⟩
          go_wp2_with fail
          refine HM.out.mono ?_
          rintro e w0 ⟨i, rfl, hi, rfl⟩
          have HI := hide hi
          clear hi
          go_wp2_with fail
          go_ret
          exact ⟨by rw [HI.out]; first | rfl | simp, rfl⟩
      · have d1 : decide (48 ≤ (c : Int)) = false := decide_eq_false (by omega)
        rw [tail _ _ d1 rfl]
        clear tail
        go_enter Tryz.func126, Tryz.ntmps126
        go_wp2_with fail
        refine HS.out.mono ?_
        rintro e w0 ⟨rfl, rfl⟩
        go_wp2_with fail
        refine HS.out.mono ?_
        rintro e w0 ⟨rfl, rfl⟩
        go_wp2_with fail
        refine HM.out.mono ?_
        rintro e w0 ⟨i, rfl, hi, rfl⟩
        have HI := hide hi
        clear hi
        go_wp2_with fail
        go_ret
        exact ⟨by rw [HI.out]; first | rfl | simp, rfl⟩
    · have q1 : decide (97 ≤ (L : Int)) = false := decide_eq_false (by omega)
      clear h1 hn ha
      by_cases hd : 48 ≤ c
      · have d1 : decide (48 ≤ (c : Int)) = true := decide_eq_true (by omega)
        by_cases hd2 : c ≤ 57
        · have d2 : decide ((c : Int) ≤ 57) = true := decide_eq_true (by omega)
          rw [tail _ _ d1 d2]
          clear tail
          go_enter Tryz.func126, Tryz.ntmps126
          go_wp2_with fail
          refine HS.out.mono ?_
          rintro e w0 ⟨rfl, rfl⟩
          go_wp2_with fail
          go_ret
          exact ⟨by first | rfl | simp, rfl⟩
        · have d2 : decide ((c : Int) ≤ 57) = false := decide_eq_false (by omega)
          rw [tail _ _ d1 d2]
          clear tail
          go_enter Tryz.func126, Tryz.ntmps126
          go_wp2_with fail
          refine HS.out.mono ?_
          rintro e w0 ⟨rfl, rfl⟩
          go_wp2_with fail
          refine HM.out.mono ?_
          rintro e w0 ⟨i, rfl, hi, rfl⟩
          have HI := hide hi
          clear hi
          go_wp2_with fail
          go_ret
          exact ⟨by rw [HI.out]; first | rfl | simp, rfl⟩
      · have d1 : decide (48 ≤ (c : Int)) = false := decide_eq_false (by omega)
        rw [tail _ _ d1 rfl]
        clear tail
        go_enter Tryz.func126, Tryz.ntmps126
        go_wp2_with fail
        refine HS.out.mono ?_
        rintro e w0 ⟨rfl, rfl⟩
        go_wp2_with fail
        refine HM.out.mono ?_
        rintro e w0 ⟨i, rfl, hi, rfl⟩
        have HI := hide hi
        clear hi
        go_wp2_with fail
        go_ret
        exact ⟨by rw [HI.out]; first | rfl | simp, rfl⟩
set_option maxRecDepth 100000 in
set_option maxHeartbeats 2000000 in
theorem token_at (t : ByteArray) (w : World) (hm : t.size ≤ maxLen) : Calls Tryz.prog 92 #[.string t] w fun e w' => e = .returned (.bool (tok (byt t))) ∧ Below w.heap.size w w' := by
  have HLT : Hid (∀ k, (byt t).getD k 0 < 256) := fun k => getD_lt (byt_lt t) k
  obtain ⟨l, hl⟩ : ∃ l, l = byt t := ⟨_, rfl⟩
  rw [← hl] at HLT ⊢
  obtain ⟨N, hN⟩ : ∃ N, N = t.size := ⟨_, rfl⟩
  have HNL : Hid (N = l.length) := by show _ = _; rw [hN, hl, byt_length]
  have hNI : (t.size : Int) = (N : Int) := by rw [hN]
  unfold maxLen at hm
  rw [← hN] at hm
  by_cases h0 : l = []
  · have he := toList_nil t (by rw [← hl]; exact h0)
    obtain ⟨he1, he2⟩ := he
    have hr : tok l = false := by unfold tok; rw [decide_eq_false (by simp [h0])]; rfl
    rw [hr]
    clear hr h0 hl hN
    go_enter Tryz.func92, Tryz.ntmps92
    go_wp2_with fail
    go_ret
    exact ⟨rfl, Below.refl _ _⟩
  have he := toList_ne t (by rw [← hl]; exact h0)
  obtain ⟨he1, he2⟩ := he
  by_cases h64 : 64 < N
  · have q1 : decide (64 < (N : Int)) = true := decide_eq_true (by omega)
    have q2 : decide (64 < N) = true := decide_eq_true (by omega)
    have hr : tok l = false := by unfold tok; rw [← HNL.out, decide_eq_false (show ¬ N ≤ 64 by omega)]; simp
    rw [hr]
    clear hr h0 hl hN
    go_enter Tryz.func92, Tryz.ntmps92
    go_wp2_with fail
    go_ret
    exact ⟨rfl, Below.refl _ _⟩
  have q1 : decide (64 < (N : Int)) = false := decide_eq_false (by omega)
  have q2 : decide (64 < N) = false := decide_eq_false (by omega)
  have HR : Hid (tok l = l.all tb) := by show _ = _; unfold tok; rw [← HNL.out, decide_eq_true (show N ≤ 64 by omega), decide_eq_true (show l ≠ [] from h0)]; simp
  obtain ⟨cap, w1, hcv, hcap, hb1, hbeg⟩ := conv_bytes t w
  rw [← hN] at hcv hcap
  rw [← hl] at hbeg
  have HI : Hid (Beg w1 w.heap.size l ∧ Below w.heap.size w w1) := ⟨hbeg, hb1⟩
  have hN64 : N ≤ 64 := by omega
  clear hl hN hb1 hbeg h0 hm h64
  go_enter Tryz.func92, Tryz.ntmps92
  go_wp2_with fail
  clear hcv he1 he2
  go_loop [15] (fun i => ∃ k : Nat, k ≤ N ∧ i = .int .i64 k ∧ Hid ((l.take k).all tb = true)) (fun i => N - (intOf i).toNat)
  case atStart => exact ⟨0, by omega, rfl, rfl⟩
  case round =>
    obtain ⟨k, hk, rfl, HT⟩ := hrel
    by_cases hkN : k < N
    · have hdk : decide ((k : Int) < (N : Int)) = true := decide_eq_true (by omega)
      have hkl : k < l.length := by rw [← HNL.out]; exact hkN
      have hcl := HI.out.1.cell hkl
      have hc := HLT.out k
      have HA : Hid (tb (l.getD k 0) = true → (l.take (k + 1)).all tb = true) := fun h => all_take _ l k hkl HT.out h
      have HF : Hid (tb (l.getD k 0) = false → l.all tb = false) := fun h => all_not _ l k hkl h
      obtain ⟨c, hcc⟩ : ∃ c, c = l.getD k 0 := ⟨_, rfl⟩
      rw [← hcc] at hcl HA HF hc
      have HB := hide (isTokenByte_at c w1 hc)
      clear hcc hkl
      go_wp2_with fail
      refine HB.out.mono ?_
      rintro e w0 ⟨rfl, rfl⟩
      cases hb : tb c with
      | false =>
        have hf := hide (HF.out hb)
        clear HA HF hb
        go_wp2_with fail
        go_ret
        refine ⟨?_, HI.out.2⟩
        rw [HR.out, hf.out]; rfl
      | true =>
        have ht := hide (HA.out hb)
        clear HA HF hb
        go_wp2_with fail
        go_round
        case rel => exact ⟨k + 1, by omega, by go_num, ht.out⟩
        case measure => simp [intOf]; omega
    · have hdk : decide ((k : Int) < (N : Int)) = false := decide_eq_false (by omega)
      have hr := hide (by have := HT.out; rw [List.take_of_length_le (by rw [← HNL.out]; omega)] at this; exact this : l.all tb = true)
      go_wp2_with fail
      go_ret
      refine ⟨?_, HI.out.2⟩
      rw [HR.out, hr.out]; rfl
end Go.Proofs.YtccoddmdlbdfjaaGreatDoor
