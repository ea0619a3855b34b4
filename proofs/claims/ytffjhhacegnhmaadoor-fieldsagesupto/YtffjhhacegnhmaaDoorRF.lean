/-
  The reference's Age; conditions as the theorem has them.
-/
import Derived.Test.YtffjhhacegnhmaaDoorRE
import Derived.Test.YtffjhhacegnhmaaDoorRT
set_option linter.unusedSimpArgs false
set_option linter.unusedVariables false
namespace Go.Proofs.YtffjhhacegnhmaaDoor
open Go.RowKit

theorem rg_cons (d : List Nat) (r : List (List Nat)) (A N : Nat) : rg (d :: r) A N = if forb d = true then (0, false) else match mx d with | none => rg r A N | some m => if m = 0 then (0, false) else rg r (min m 1048576) (N + 1) := rfl
theorem rg_nil (A N : Nat) : rg [] A N = if N = 1 then (A, true) else (0, false) := rfl
theorem dirs_size {fs : List Fd} (h : Few fs) : (dirs fs).length ≤ 4000000 := by
  have := gat_len ccS rdD fs
  have h5 := h.all
  unfold dirs
  omega
set_option maxRecDepth 100000 in
set_option maxHeartbeats 4000000 in
theorem rage_at (a : Option Addr) (n c : Nat) (fs : List Fd) (w : World) (h : SrcF w a n c fs) (hfew : Few fs) (hsz : ∀ d ∈ dirs fs, d.length ≤ 2000000) :
    Calls Tryd.prog 15 #[.slice a n c] w fun e w' => e = .returned (ageV (agev fs)) ∧ Below w.heap.size w w' := by
  have HD := hide (rdirectives_at a n c fs w h hfew)
  have HB := hide (gat_ltD fs h.byte)
  have hR : rg (dirs fs) 0 0 = agev fs := rg_agev fs
  have hdl := dirs_size hfew
  have HSZ := hide hsz
  obtain ⟨R, eR⟩ : ∃ x, x = agev fs := ⟨_, rfl⟩
  obtain ⟨ds, eds⟩ : ∃ x, x = dirs fs := ⟨_, rfl⟩
  rw [← eds] at HD HB hR hdl HSZ
  rw [← eR] at hR ⊢
  have HR := hide hR
  clear eR eds h hfew hR hsz
  go_enter Tryd.func15, Tryd.ntmps15
  go_wp2_with fail
  refine HD.out.mono ?_
  rintro e w1 ⟨v, rfl, ho, hb1⟩
  obtain ⟨a1, c1, rfl, s1⟩ := own_srcV ho
  have S1 := hide s1
  have B1 := hide hb1
  have hcl := s1.hcap
  have hmx := s1.hmax
  unfold maxLen at hmx
  rw [strs_length] at S1 hcl ⊢
  obtain ⟨L, hL⟩ : ∃ N, N = ds.length := ⟨_, rfl⟩
  rw [← hL] at S1 hcl hdl ⊢
  have HL := hide hL
  clear ho hb1 HD s1 hL
  go_wp2_with fail
  go_loop [5, 6, 7] (fun va vn vi => ∃ k A N : Nat, k ≤ L ∧ va = .int .i64 A ∧ vn = .int .i64 N ∧ vi = .int .i64 k ∧ A ≤ 1048576 ∧ N ≤ k ∧ Hid (rg (ds.drop k) A N = R)) (fun _ _ i => L - (intOf i).toNat)
  case atStart => exact ⟨0, 0, 0, by omega, rfl, rfl, rfl, by omega, by omega, HR.out⟩
  case round =>
    obtain ⟨k, A, N, hk, rfl, rfl, rfl, hA, hN, HI⟩ := hrel
    by_cases hkL : k < L
    · have hdk : decide ((k : Int) < (L : Int)) = true := decide_eq_true (by omega)
      have hkl : k < ds.length := by rw [← HL.out]; exact hkL
      obtain ⟨b, o, rfl, _, q⟩ := S1.out.lies (by omega)
      have c0 := q k _ (strs_get ds k hkl)
      have hbd := HB.out _ (getD_mem (d := []) hkl)
      have hsd := HSZ.out _ (getD_mem (d := []) hkl)
      have HRG := HI.out
      rw [drop_getD (d := []) hkl, rg_cons] at HRG
      obtain ⟨d, ed⟩ : ∃ x, x = ds.getD k [] := ⟨_, rfl⟩
      rw [← ed] at c0 hbd hsd HRG
      have HRG := hide HRG
      obtain ⟨X, hX⟩ : ∃ x, x = strN d := ⟨_, rfl⟩
      rw [← hX] at c0
      have hXd : byt X = d := by rw [hX]; exact byt_strN _ hbd
      have hXs : X.size = d.length := by rw [hX, strN_size]
      have e0 := toList_byt X [110, 111, 45, 115, 116, 111, 114, 101]
      have e1 := toList_byt X [110, 111, 45, 99, 97, 99, 104, 101]
      have e2 := toList_byt X [112, 114, 105, 118, 97, 116, 101]
      rw [hXd, show ([110, 111, 45, 115, 116, 111, 114, 101] : List UInt8).map UInt8.toNat = nsS from rfl] at e0
      rw [hXd, show ([110, 111, 45, 99, 97, 99, 104, 101] : List UInt8).map UInt8.toNat = ncS from rfl] at e1
      rw [hXd, show ([112, 114, 105, 118, 97, 116, 101] : List UInt8).map UInt8.toNat = prS from rfl] at e2
      have HB3 : Hid (∀ W, Calls Tryd.prog 30 #[.string X, .string ⟨#[110, 111, 45, 99, 97, 99, 104, 101, 61]⟩] W fun e w' => e = .returned (.bool (decide (d.take 9 = ncE))) ∧ W = w') := fun W => by
        have := rbegins_at X ⟨#[110, 111, 45, 99, 97, 99, 104, 101, 61]⟩ W (by unfold maxLen; omega) (by decide)
        rw [hXd] at this
        exact this
      have HB4 : Hid (∀ W, Calls Tryd.prog 30 #[.string X, .string ⟨#[112, 114, 105, 118, 97, 116, 101, 61]⟩] W fun e w' => e = .returned (.bool (decide (d.take 8 = prE))) ∧ W = w') := fun W => by
        have := rbegins_at X ⟨#[112, 114, 105, 118, 97, 116, 101, 61]⟩ W (by unfold maxLen; omega) (by decide)
        rw [hXd] at this
        exact this
      have HB5 : Hid (∀ W, Calls Tryd.prog 30 #[.string X, .string ⟨#[109, 97, 120, 45, 97, 103, 101, 61]⟩] W fun e w' => e = .returned (.bool (decide (d.take 8 = maS))) ∧ W = w') := fun W => by
        have := rbegins_at X ⟨#[109, 97, 120, 45, 97, 103, 101, 61]⟩ W (by unfold maxLen; omega) (by decide)
        rw [hXd] at this
        exact this
      have HWH : Hid (∀ W, Calls Tryd.prog 31 #[.string (X.extract 8 X.size), .int .i64 7] W fun e w' => e = .returned (two (n7 (d.drop 8))) ∧ W = w') := fun W => by
        have := whole_at (X.extract 8 X.size) 7 W (by rw [ByteArray.size_extract]; unfold maxLen; omega) (by omega)
        rw [byt_drop, hXd, ← n7_wh] at this
        exact this
      have HMX : Hid (d.take 8 = maS → 8 ≤ X.size) := fun hm => by
        have := congrArg List.length hm
        rw [List.length_take] at this
        rw [hXs]
        have e8 : maS.length = 8 := rfl
        omega
      have HFB : Hid (forb d = (decide (d = nsS) || decide (d = ncS) || decide (d = prS) || decide (d.take 9 = ncE) || decide (d.take 8 = prE))) := rfl
      have HMD : Hid (mx d = if d.take 8 = maS then some ((n7 (d.drop 8)).getD 0) else none) := rfl
      have hX2 : X.size ≤ 2000000 := by omega
      obtain ⟨XS, hXS⟩ : ∃ x, x = X.size := ⟨_, rfl⟩
      clear q hbd hsd hX hXd ed hkl hXs
      by_cases f0 : d = nsS
      · rw [decide_eq_true f0] at e0
        have HZ : Hid (R = (0, false)) := by
          show _ = _
          rw [← HRG.out, if_pos (by rw [HFB.out, decide_eq_true f0]; rfl)]
        clear f0
        go_wp2_with fail
        go_ret2
        exact ⟨by rw [HZ.out]; rfl, B1.out⟩
      rw [decide_eq_false f0] at e0
      by_cases f1 : d = ncS
      · rw [decide_eq_true f1] at e1
        have HZ : Hid (R = (0, false)) := by
          show _ = _
          rw [← HRG.out, if_pos (by rw [HFB.out, decide_eq_true f1]; simp)]
        clear f0 f1
        go_wp2_with fail
        go_ret2
        exact ⟨by rw [HZ.out]; rfl, B1.out⟩
      rw [decide_eq_false f1] at e1
      by_cases f2 : d = prS
      · rw [decide_eq_true f2] at e2
        have HZ : Hid (R = (0, false)) := by
          show _ = _
          rw [← HRG.out, if_pos (by rw [HFB.out, decide_eq_true f2]; simp)]
        clear f0 f1 f2
        go_wp2_with fail
        go_ret2
        exact ⟨by rw [HZ.out]; rfl, B1.out⟩
      rw [decide_eq_false f2] at e2
      rw [decide_eq_false f0, decide_eq_false f1, decide_eq_false f2] at HFB
      clear f0 f1 f2
      go_wp2_with fail
      refine (HB3.out _).mono ?_
      rintro e w2 ⟨rfl, rfl⟩
      clear HB3
      by_cases f3 : d.take 9 = ncE
      · rw [decide_eq_true f3]
        have HZ : Hid (R = (0, false)) := by
          show _ = _
          rw [← HRG.out, if_pos (by rw [HFB.out, decide_eq_true f3]; simp)]
        clear f3
        go_wp2_with fail
        go_ret2
        exact ⟨by rw [HZ.out]; rfl, B1.out⟩
      rw [decide_eq_false f3]
      rw [decide_eq_false f3] at HFB
      clear f3
      go_wp2_with fail
      refine (HB4.out _).mono ?_
      rintro e w3 ⟨rfl, rfl⟩
      clear HB4
      by_cases f4 : d.take 8 = prE
      · rw [decide_eq_true f4]
        have HZ : Hid (R = (0, false)) := by
          show _ = _
          rw [← HRG.out, if_pos (by rw [HFB.out, decide_eq_true f4]; simp)]
        clear f4
        go_wp2_with fail
        go_ret2
        exact ⟨by rw [HZ.out]; rfl, B1.out⟩
      rw [decide_eq_false f4]
      rw [decide_eq_false f4] at HFB
      rw [HFB.out, HMD.out, if_neg (by simp)] at HRG
      clear f4 HFB HMD
      go_wp2_with fail
      refine (HB5.out _).mono ?_
      rintro e w4 ⟨rfl, rfl⟩
      clear HB5 e0 e1 e2
      by_cases f5 : d.take 8 = maS
      · rw [decide_eq_true f5]
        rw [if_pos f5] at HRG
        have h8 := HMX.out f5
        rw [← hXS] at h8
        obtain ⟨O, hO⟩ : ∃ x, x = n7 (d.drop 8) := ⟨_, rfl⟩
        have hlt : ∀ m, O = some m → m < 10000000 := fun m hm => mx_lt (d := d) (by unfold mx; rw [if_pos f5, ← hO, hm]; rfl)
        rw [← hO] at HRG HWH
        clear f5 hO HMX
        have g1 : decide ((8 : Int) ≤ (X.size : Int)) = true := decide_eq_true (by omega)
        have g2 : decide (8 ≤ X.size) = true := decide_eq_true (by omega)
        have g3 : 8 ≤ X.size := by omega
        go_wp2_with fail
        refine (HWH.out _).mono ?_
        rintro e w5 ⟨rfl, rfl⟩
        clear HWH g1 g2 g3 c0
        unfold two
        cases O with
        | none =>
          have HZ : Hid (R = (0, false)) := HRG.out.symm
          go_wp2_with fail
          go_ret2
          exact ⟨by rw [HZ.out]; rfl, B1.out⟩
        | some m =>
          have hml := hlt m rfl
          clear hlt
          by_cases hm0 : m = 0
          · subst hm0
            have HZ : Hid (R = (0, false)) := HRG.out.symm
            go_wp2_with fail
            go_ret2
            exact ⟨by rw [HZ.out]; rfl, B1.out⟩
          · have HZ : Hid (rg (ds.drop (k + 1)) (min m 1048576) (N + 1) = R) := by
              have := HRG.out
              show _ = _
              simpa [hm0] using this
            have z0 : ((m : Int) == 0) = false := by simp; omega
            go_wp2_with fail
            go_round
            case rel => exact ⟨k + 1, min m 1048576, N + 1, by omega, by rw [show (min (m : Int) 1048576) = ((min m 1048576 : Nat) : Int) by omega], by go_num, by go_num, by omega, by omega, HZ.out⟩
            case measure => simp [intOf]; omega
      · rw [decide_eq_false f5]
        rw [if_neg f5] at HRG
        have HZ : Hid (rg (ds.drop (k + 1)) A N = R) := HRG.out
        clear f5
        go_wp2_with fail
        go_round
        case rel => exact ⟨k + 1, A, N, by omega, rfl, rfl, by go_num, by omega, by omega, HZ.out⟩
        case measure => simp [intOf]; omega
    · have hdk : decide ((k : Int) < (L : Int)) = false := decide_eq_false (by omega)
      have HZ := HI.out
      rw [List.drop_eq_nil_of_le (by rw [← HL.out]; omega), rg_nil] at HZ
      have HZ := hide HZ
      by_cases hn : N = 1
      · have q1 : ((N : Int) != 1) = false := by simp; omega
        have q1' : ((N : Int) == 1) = true := by simp; omega
        rw [if_pos hn] at HZ
        clear hn
        go_wp2_with fail
        go_ret2
        exact ⟨by rw [← HZ.out]; rfl, B1.out⟩
      · have q1 : ((N : Int) != 1) = true := by simp; omega
        have q1' : ((N : Int) == 1) = false := by simp; omega
        rw [if_neg hn] at HZ
        clear hn
        go_wp2_with fail
        go_ret2
        exact ⟨by rw [← HZ.out]; rfl, B1.out⟩
end Go.Proofs.YtffjhhacegnhmaaDoor
