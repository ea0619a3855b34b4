/-
  readNumber, readAge, forbids of package fields; conditions as each theorem has them.
-/
import Derived.Test.YtffjhhacegnhmaaGreatDoorFA
import Derived.Test.YtffjhhacegnhmaaGreatDoorK
set_option linter.unusedSimpArgs false
set_option linter.unusedVariables false
namespace Go.Proofs.YtffjhhacegnhmaaGreatDoor
open Go.RowKit

theorem n7_wh (l : List Nat) : n7 l = wh l 7 := rfl
set_option maxRecDepth 100000 in
set_option maxHeartbeats 4000000 in
theorem readNumber_at (t : ByteArray) (w : World) (hm : t.size ≤ maxLen) : Calls Tryz.prog 61 #[.string t] w fun e w' => e = .returned (two (n7 (byt t))) ∧ Below w.heap.size w w' := by
  obtain ⟨l, hl⟩ : ∃ l, l = byt t := ⟨_, rfl⟩
  have hix : ∀ w, 0 < t.size → (Instr.index 9 (.string t) (.int .i64 0)).run Tryz.prog w = .ok (.int .u8 (l.getD 0 0 : Nat)) w := fun w h => by rw [hl]; exact run_ixstr t 0 h w
  have HLT : Hid (∀ k, l.getD k 0 < 256) := fun k => by rw [hl]; exact getD_lt (byt_lt t) k
  rw [← hl]
  have HL : Hid (byt t = l) := hl.symm
  obtain ⟨N, hN⟩ : ∃ N, N = t.size := ⟨_, rfl⟩
  have HN := hide hN
  unfold maxLen at hm
  have hNI : (t.size : Int) = (N : Int) := by rw [hN]
  have HNL : Hid (N = l.length) := by show _ = _; rw [hN, hl, byt_length]
  rw [← hN] at hm hix
  obtain ⟨cap, w1, hcv, hcap, hb1, hbeg⟩ := conv_bytes t w
  rw [← hN] at hcv hcap
  rw [← hl] at hbeg
  have HI0 : Hid (Beg w1 w.heap.size l ∧ Below w.heap.size w w1) := ⟨hbeg, hb1⟩
  clear hl hN hb1 hbeg
  by_cases h0 : N = 0
  · have he := toList_nil t (by rw [HL.out]; exact List.eq_nil_of_length_eq_zero (by rw [← HNL.out]; exact h0))
    obtain ⟨he1, he2⟩ := he
    have HR : Hid (n7 l = none) := by have := HNL.out; have e : l = [] := List.eq_nil_of_length_eq_zero (by omega); simp [n7, isNum, e, Hid]
    clear h0 hcv hix
    go_enter Tryz.func61, Tryz.ntmps61
    go_wp2_with fail
    go_ret2
    exact ⟨by rw [HR.out]; rfl, Below.refl _ _⟩
  have HNE : Hid (l ≠ []) := fun e => by have := HNL.out; rw [e] at this; simp at this; omega
  have he := toList_ne t (by rw [HL.out]; exact HNE.out)
  obtain ⟨he1, he2⟩ := he
  by_cases hNd : 7 < N
  · have q1 : decide (7 < (N : Int)) = true := decide_eq_true (by omega)
    have q1' : decide (7 < N) = true := decide_eq_true (by omega)
    have HR : Hid (n7 l = none) := by
      have := HNL.out
      have e : ¬ l.length ≤ 7 := by omega
      simp [n7, e, Hid]
    clear hcv hix
    go_enter Tryz.func61, Tryz.ntmps61
    go_wp2_with fail
    go_ret2
    exact ⟨by rw [HR.out]; rfl, Below.refl _ _⟩
  have q1 : decide (7 < (N : Int)) = false := decide_eq_false (by omega)
  have q1' : decide (7 < N) = false := decide_eq_false (by omega)
  have hx0 : ∀ w, (Instr.index 9 (.string t) (.int .i64 0)).run Tryz.prog w = .ok (.int .u8 (l.getD 0 0 : Nat)) w := fun w => hix w (by omega)
  have hc0 := HLT.out 0
  obtain ⟨c0, e0⟩ : ∃ c, c = l.getD 0 0 := ⟨_, rfl⟩
  rw [← e0] at hx0 hc0
  have HC0 := hide e0
  clear e0 hix
  have hN7 : N ≤ 7 := by omega
  have main : ∀ (b g : Bool), ((c0 : Int) == 48) = b → decide (1 < (N : Int)) = g → decide (1 < N) = g → (b && g) = false → (l.all dig = true → isNum l = true) →
      Calls Tryz.prog 61 #[.string t] w fun e w' => e = .returned (two (n7 l)) ∧ Below w.heap.size w w' := by
    intro b g hb g1 g1' hbg hP
    have HP := hide hP
    clear hP
    have three : (b = false ∧ g = false) ∨ (b = false ∧ g = true) ∨ (b = true ∧ g = false) := by
      cases b <;> cases g <;> simp at hbg ⊢
    clear hbg
    rcases three with ⟨rfl, rfl⟩ | ⟨rfl, rfl⟩ | ⟨rfl, rfl⟩
    all_goals
      go_enter Tryz.func61, Tryz.ntmps61
      go_wp2_with fail
      clear hb hx0 hc0 g1 g1' hcv
      go_loop [4, 27] (fun n i => ∃ k : Nat, k ≤ N ∧ i = .int .i64 k ∧ ∃ v : Nat, n = .int .i64 v ∧ v < 10000000 ∧ Hid (v = val 0 (l.take k) ∧ v < 10 ^ k ∧ (l.take k).all dig = true)) (fun _ i => N - (intOf i).toNat)
      case atStart => exact ⟨0, by omega, rfl, 0, rfl, by omega, rfl, by simp, rfl⟩
      case round =>
        obtain ⟨k, hk, rfl, v, rfl, hv5, HI⟩ := hrel
        by_cases h1 : k < N
        · have hl : k < l.length := by rw [← HNL.out]; exact h1
          have hcl := HI0.out.1.cell hl
          have hc := HLT.out k
          obtain ⟨i1, i2, i3⟩ := HI.out
          have HT : Hid (val 0 (l.take (k + 1)) = step v (l.getD k 0)) := by show _ = _; rw [take_snoc l k hl, val_snoc, ← i1]
          have HA : Hid (dig (l.getD k 0) = true → (l.take (k + 1)).all dig = true) := fun h => by rw [take_snoc l k hl, List.all_append, i3, List.all_cons, List.all_nil, h]; rfl
          have HF : Hid (dig (l.getD k 0) = false → n7 l = none) := fun h => by
            unfold n7
            rw [if_neg]
            rintro ⟨hn, _⟩
            rw [isNum_of] at hn
            simp only [Bool.and_eq_true] at hn
            have := List.all_eq_true.1 hn.1.2 (l.getD k 0) (getD_mem hl)
            rw [h] at this; cases this
          have HPW : Hid (∀ c, c ≤ 57 → step v c < 10 ^ (k + 1)) := fun c hcc => by
            unfold step; rw [Nat.pow_succ]; omega
          have HP5 : Hid (10 ^ (k + 1) ≤ 10000000) := Nat.pow_le_pow_right (n := 10) (by omega) (show k + 1 ≤ 7 by omega)
          obtain ⟨c, hcc⟩ : ∃ c, c = l.getD k 0 := ⟨_, rfl⟩
          rw [← hcc] at hcl hc HT HA HF
          clear hcc hl i1 i2 i3
          have hdd : decide ((k : Int) < (N : Int)) = true := decide_eq_true (by omega)
          by_cases h48 : c < 48
          · have q1 : decide ((c : Int) < 48) = true := decide_eq_true (by omega)
            have HR := hide (HF.out (by simp [dig]; omega))
            go_wp2_with fail
            go_ret2
            refine ⟨?_, HI0.out.2⟩
            rw [HR.out]; rfl
          · have q1 : decide ((c : Int) < 48) = false := decide_eq_false (by omega)
            by_cases h57 : 57 < c
            · have q2 : decide (57 < (c : Int)) = true := decide_eq_true (by omega)
              have HR := hide (HF.out (by simp [dig]; omega))
              go_wp2_with fail
              go_ret2
              refine ⟨?_, HI0.out.2⟩
              rw [HR.out]; rfl
            · have q2 : decide (57 < (c : Int)) = false := decide_eq_false (by omega)
              have HO := hide (HA.out (by simp [dig]; omega))
              have HW := hide (HPW.out c (by omega))
              obtain ⟨V, hV⟩ : ∃ V, V = step v c := ⟨_, rfl⟩
              rw [← hV] at HT HW
              have hVI : 10 * (v : Int) + ((c : Int) - 48) = (V : Int) := by rw [hV, step]; omega
              have hV5 : V < 10000000 := Nat.lt_of_lt_of_le HW.out HP5.out
              clear hV
              go_wp2_with fail
              go_round
              case rel => exact ⟨k + 1, by omega, by go_num, V, by first | rfl | go_num, hV5, HT.out.symm, HW.out, HO.out⟩
              case measure => simp [intOf]; omega
        · have hdd : decide ((k : Int) < (N : Int)) = false := decide_eq_false (by omega)
          have HR : Hid (n7 l = some v) := by
            obtain ⟨i1, i2, i3⟩ := HI.out
            rw [List.take_of_length_le (by rw [← HNL.out]; omega)] at i1 i3
            show n7 l = some v
            rw [n7, if_pos ⟨HP.out i3, by rw [← HNL.out]; omega⟩, i1]
          go_wp2_with fail
          go_ret2
          refine ⟨?_, HI0.out.2⟩
          rw [HR.out]; rfl
  by_cases h48 : c0 = 48
  · have hb : ((c0 : Int) == 48) = true := by simp; omega
    by_cases h1N : 1 < N
    · have g1 : decide (1 < (N : Int)) = true := decide_eq_true (by omega)
      have g1' : decide (1 < N) = true := decide_eq_true (by omega)
      have HR : Hid (n7 l = none) := by
        have : isNum l = false := by rw [isNum_of, headD_getD, ← HC0.out, h48, ← HNL.out]; simp [h1N]
        simp [n7, this, Hid]
      clear h48 main hcv
      go_enter Tryz.func61, Tryz.ntmps61
      go_wp2_with fail
      go_ret2
      exact ⟨by rw [HR.out]; rfl, Below.refl _ _⟩
    · exact main true false hb (decide_eq_false (by omega)) (decide_eq_false (by omega)) rfl (fun h => by rw [isNum_of, ← HNL.out, h]; simp [h1N, HNE.out])
  · have hb : ((c0 : Int) == 48) = false := by simp; omega
    by_cases h1N : 1 < N
    · exact main false true hb (decide_eq_true (by omega)) (decide_eq_true (by omega)) rfl (fun h => by rw [isNum_of, headD_getD, ← HC0.out, h]; simp [h48, HNE.out])
    · exact main false false hb (decide_eq_false (by omega)) (decide_eq_false (by omega)) rfl (fun h => by rw [isNum_of, headD_getD, ← HC0.out, h]; simp [h48, HNE.out])
theorem pre_take (s p : List UInt8) : Lib.hasPrefix s p = decide ((s.map UInt8.toNat).take p.length = p.map UInt8.toNat) := by
  unfold Lib.hasPrefix
  induction p generalizing s with
  | nil => simp
  | cons a p ih =>
    cases s with
    | nil => simp
    | cons b s =>
      rw [List.isPrefixOf, ih]
      simp only [List.map_cons, List.length_cons, List.take_succ_cons, List.cons.injEq]
      by_cases h : a = b
      · subst h; simp
      · have h2 : ¬ b.toNat = a.toNat := fun e => h (UInt8.toNat_inj.1 e.symm)
        simp [h, h2]
theorem n7_le (l : List Nat) : (n7 l).getD 0 < 10000000 := by
  cases h : n7 l with
  | none => simp
  | some m => simpa using n7_lt h
set_option maxRecDepth 100000 in
theorem readAge_at (t : ByteArray) (w : World) (hm : t.size ≤ 140737488355328) : Calls Tryz.prog 43 #[.string t] w fun e w' => RdI rdA t e ∧ Below w.heap.size w w' := by
  have HS := hide (fsmall_at t w hm)
  have hsz : (strN (low (byt t))).size ≤ 140737488355328 := by rw [strN_size, low_length, byt_length]; exact hm
  have hbx : byt (strN (low (byt t))) = low (byt t) := byt_strN _ (low_lt (byt_lt t))
  have HRA : Hid (rdA (byt t) = mx (byt (strN (low (byt t))))) := by show _ = _; rw [hbx]; rfl
  obtain ⟨X, hX⟩ : ∃ X, X = strN (low (byt t)) := ⟨_, rfl⟩
  rw [← hX] at HS HRA hsz
  clear hX hbx
  have HC : Hid (∀ W, Calls Tryz.prog 60 #[.string X, .string ⟨#[109, 97, 120, 45, 97, 103, 101, 61]⟩] W fun e w' => e = .returned (.tuple #[.string (if (byt X).take 8 = maS then strN ((byt X).drop 8) else X), .bool (decide ((byt X).take 8 = maS))]) ∧ W = w') := fun W => by
    refine (Tryz.strings_CutPrefix X ⟨#[109, 97, 120, 45, 97, 103, 101, 61]⟩ W).mono ?_
    rintro e w' ⟨rfl, rfl⟩
    refine ⟨?_, rfl⟩
    have hp := pre_take X.data.toList [109, 97, 120, 45, 97, 103, 101, 61]
    have hp2 : Lib.hasPrefix X.data.toList [109, 97, 120, 45, 97, 103, 101, 61] = decide ((byt X).take 8 = maS) := hp
    show Ending.returned (.tuple #[.string ⟨(if Lib.hasPrefix X.data.toList [109, 97, 120, 45, 97, 103, 101, 61] = true then X.data.toList.drop 8 else X.data.toList).toArray⟩, .bool (Lib.hasPrefix X.data.toList [109, 97, 120, 45, 97, 103, 101, 61])]) = _
    rw [hp2]
    by_cases h : (byt X).take 8 = maS
    · rw [decide_eq_true h, if_pos rfl, if_pos h, strN_drop]
    · rw [decide_eq_false h, if_neg (by simp), if_neg h]
  by_cases h : (byt X).take 8 = maS
  · rw [decide_eq_true h, if_pos h] at HC
    have HR : Hid (rdA (byt t) = some ((n7 ((byt X).drop 8)).getD 0)) := by show _ = _; rw [HRA.out, mx, if_pos h]
    obtain ⟨Y, hY⟩ : ∃ Y, Y = strN ((byt X).drop 8) := ⟨_, rfl⟩
    have hYs : Y.size ≤ maxLen := by rw [hY, strN_size, List.length_drop, byt_length]; unfold maxLen; omega
    have hYb : byt Y = (byt X).drop 8 := by rw [hY]; exact byt_strN _ (fun x hx => byt_lt X x (List.mem_of_mem_drop hx))
    rw [← hY] at HC
    rw [← hYb] at HR
    have HN : Hid (∀ W, Calls Tryz.prog 61 #[.string Y] W fun e w' => e = .returned (two (n7 (byt Y))) ∧ Below W.heap.size W w') := fun W => readNumber_at Y W hYs
    have HLE := hide (n7_le (byt Y))
    obtain ⟨o, ho⟩ : ∃ o, o = n7 (byt Y) := ⟨_, rfl⟩
    rw [← ho] at HN HR HLE
    clear h hY hYs hYb ho hsz HRA
    cases o with
    | none =>
      go_enter Tryz.func43, Tryz.ntmps43
      go_wp2_with fail
      refine HS.out.mono ?_
      rintro e w1 ⟨rfl, hb1⟩
      have B1 := hide hb1
      clear hb1
      go_wp2_with fail
      refine (HC.out _).mono ?_
      rintro e w2 ⟨rfl, rfl⟩
      go_wp2_with fail
      refine (HN.out _).mono ?_
      rintro e w3 ⟨rfl, hb3⟩
      have B3 := hide (B1.out.trans (hb3.mono B1.out.size))
      clear hb3
      unfold two
      simp only [Option.getD_none, Option.isSome_none]
      go_wp2_with fail
      go_ret2
      exact ⟨⟨0, true, rfl, by omega, HR.out⟩, B3.out⟩
    | some m =>
      go_enter Tryz.func43, Tryz.ntmps43
      go_wp2_with fail
      refine HS.out.mono ?_
      rintro e w1 ⟨rfl, hb1⟩
      have B1 := hide hb1
      clear hb1
      go_wp2_with fail
      refine (HC.out _).mono ?_
      rintro e w2 ⟨rfl, rfl⟩
      go_wp2_with fail
      refine (HN.out _).mono ?_
      rintro e w3 ⟨rfl, hb3⟩
      have B3 := hide (B1.out.trans (hb3.mono B1.out.size))
      clear hb3
      unfold two
      simp only [Option.getD_some, Option.isSome_some]
      go_wp2_with fail
      go_ret2
      exact ⟨⟨m, true, rfl, HLE.out, HR.out⟩, B3.out⟩
  · rw [decide_eq_false h, if_neg h] at HC
    have HR : Hid (rdA (byt t) = none) := by show _ = _; rw [HRA.out, mx, if_neg h]
    have HN : Hid (∀ W, Calls Tryz.prog 61 #[.string X] W fun e w' => e = .returned (two (n7 (byt X))) ∧ Below W.heap.size W w') := fun W => readNumber_at X W (by unfold maxLen; omega)
    have HLE := hide (n7_le (byt X))
    obtain ⟨o, ho⟩ : ∃ o, o = n7 (byt X) := ⟨_, rfl⟩
    rw [← ho] at HN HLE
    clear h ho hsz HRA
    cases o with
    | none =>
      go_enter Tryz.func43, Tryz.ntmps43
      go_wp2_with fail
      refine HS.out.mono ?_
      rintro e w1 ⟨rfl, hb1⟩
      have B1 := hide hb1
      clear hb1
      go_wp2_with fail
      refine (HC.out _).mono ?_
      rintro e w2 ⟨rfl, rfl⟩
      go_wp2_with fail
      refine (HN.out _).mono ?_
      rintro e w3 ⟨rfl, hb3⟩
      have B3 := hide (B1.out.trans (hb3.mono B1.out.size))
      clear hb3
      unfold two
      simp only [Option.getD_none, Option.isSome_none]
      go_wp2_with fail
      go_ret2
      exact ⟨⟨0, false, rfl, by omega, HR.out⟩, B3.out⟩
    | some m =>
      go_enter Tryz.func43, Tryz.ntmps43
      go_wp2_with fail
      refine HS.out.mono ?_
      rintro e w1 ⟨rfl, hb1⟩
      have B1 := hide hb1
      clear hb1
      go_wp2_with fail
      refine (HC.out _).mono ?_
      rintro e w2 ⟨rfl, rfl⟩
      go_wp2_with fail
      refine (HN.out _).mono ?_
      rintro e w3 ⟨rfl, hb3⟩
      have B3 := hide (B1.out.trans (hb3.mono B1.out.size))
      clear hb3
      unfold two
      simp only [Option.getD_some, Option.isSome_some]
      go_wp2_with fail
      go_ret2
      exact ⟨⟨m, false, rfl, HLE.out, HR.out⟩, B3.out⟩
theorem forbids_at (t : ByteArray) (w : World) : Calls Tryz.prog 41 #[.string t] w fun e w' => e = .returned (.bool (forb (byt t))) ∧ w = w' := by
  have q1 := toList_byt t [110, 111, 45, 115, 116, 111, 114, 101]
  have q2 := toList_byt t [110, 111, 45, 99, 97, 99, 104, 101]
  have q3 := toList_byt t [112, 114, 105, 118, 97, 116, 101]
  rw [show ([110, 111, 45, 115, 116, 111, 114, 101] : List UInt8).map UInt8.toNat = nsS from rfl] at q1
  rw [show ([110, 111, 45, 99, 97, 99, 104, 101] : List UInt8).map UInt8.toNat = ncS from rfl] at q2
  rw [show ([112, 114, 105, 118, 97, 116, 101] : List UInt8).map UInt8.toNat = prS from rfl] at q3
  have H4 : Hid (∀ W, Calls Tryz.prog 59 #[.string t, .string ⟨#[110, 111, 45, 99, 97, 99, 104, 101, 61]⟩] W fun e w' => e = .returned (.bool (decide ((byt t).take 9 = ncE))) ∧ W = w') := fun W => by
    refine (Tryz.strings_HasPrefix t ⟨#[110, 111, 45, 99, 97, 99, 104, 101, 61]⟩ W).mono ?_
    rintro e w' ⟨rfl, rfl⟩
    exact ⟨congrArg (fun x => Ending.returned (.bool x)) (pre_take t.data.toList [110, 111, 45, 99, 97, 99, 104, 101, 61]), rfl⟩
  have H5 : Hid (∀ W, Calls Tryz.prog 59 #[.string t, .string ⟨#[112, 114, 105, 118, 97, 116, 101, 61]⟩] W fun e w' => e = .returned (.bool (decide ((byt t).take 8 = prE))) ∧ W = w') := fun W => by
    refine (Tryz.strings_HasPrefix t ⟨#[112, 114, 105, 118, 97, 116, 101, 61]⟩ W).mono ?_
    rintro e w' ⟨rfl, rfl⟩
    exact ⟨congrArg (fun x => Ending.returned (.bool x)) (pre_take t.data.toList [112, 114, 105, 118, 97, 116, 101, 61]), rfl⟩
  unfold forb
  obtain ⟨b1, hb1⟩ : ∃ b, b = decide (byt t = nsS) := ⟨_, rfl⟩
  obtain ⟨b2, hb2⟩ : ∃ b, b = decide (byt t = ncS) := ⟨_, rfl⟩
  obtain ⟨b3, hb3⟩ : ∃ b, b = decide (byt t = prS) := ⟨_, rfl⟩
  obtain ⟨b4, hb4⟩ : ∃ b, b = decide ((byt t).take 9 = ncE) := ⟨_, rfl⟩
  obtain ⟨b5, hb5⟩ : ∃ b, b = decide ((byt t).take 8 = prE) := ⟨_, rfl⟩
  rw [← hb1, ← hb2, ← hb3, ← hb4, ← hb5]
  rw [← hb1] at q1
  rw [← hb2] at q2
  rw [← hb3] at q3
  rw [← hb4] at H4
  rw [← hb5] at H5
  clear hb1 hb2 hb3 hb4 hb5
  cases b1 with
  | true =>
    clear q2 q3
    go_enter Tryz.func41, Tryz.ntmps41
    go_wp2_with fail
    go_ret
    exact ⟨rfl, rfl⟩
  | false =>
    cases b2 with
    | true =>
      clear q3
      go_enter Tryz.func41, Tryz.ntmps41
      go_wp2_with fail
      go_ret
      exact ⟨rfl, rfl⟩
    | false =>
      cases b3 with
      | true =>
        go_enter Tryz.func41, Tryz.ntmps41
        go_wp2_with fail
        go_ret
        exact ⟨rfl, rfl⟩
      | false =>
        cases b4 with
        | true =>
          go_enter Tryz.func41, Tryz.ntmps41
          go_wp2_with fail
          refine (H4.out _).mono ?_
          rintro e w1 ⟨rfl, rfl⟩
          go_wp2_with fail
          go_ret
          exact ⟨rfl, rfl⟩
        | false =>
          go_enter Tryz.func41, Tryz.ntmps41
          go_wp2_with fail
          refine (H4.out _).mono ?_
          rintro e w1 ⟨rfl, rfl⟩
          go_wp2_with fail
          refine (H5.out _).mono ?_
          rintro e w1 ⟨rfl, rfl⟩
          go_wp2_with fail
          go_ret
          exact ⟨by first | rfl | simp, rfl⟩
end Go.Proofs.YtffjhhacegnhmaaGreatDoor
