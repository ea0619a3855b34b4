/-
  ProxyHops' walk: what is sent on is one head, has no hop field, and each other field as it was; conditions as each theorem has them.
-/
import Derived.Test.YtccoddmdlbdfjaaGreatDoorHQ
set_option linter.unusedSimpArgs false
set_option linter.unusedVariables false
set_option linter.constructorNameAsVariable false
set_option maxRecDepth 100000
namespace Go.Proofs.YtccoddmdlbdfjaaGreatDoor
open Go.RowKit

theorem own_newF (w : World) : OwnF (w.alloc (.cells #[] 68)) w.heap.size (.slice (some ⟨w.heap.size, 0, none⟩) 0 0) [] :=
  ⟨rfl, Or.inr ⟨w.heap.size, 0, #[], rfl, Nat.le_refl _, alloc_new _ _, by simp [fcs], Nat.zero_le _, by simp, by simp [fcs]⟩⟩
theorem getD_fd {fs : List Fd} {k : Nat} (h : k < fs.length) : fs.getD k ([], []) ∈ fs := by
  rw [List.getD_eq_getElem?_getD, List.getElem?_eq_getElem h, Option.getD_some]; exact List.getElem_mem _
theorem take_fd (fs : List Fd) (k : Nat) (h : k < fs.length) : fs.take (k + 1) = fs.take k ++ [fs.getD k ([], [])] := by
  rw [List.getD_eq_getElem?_getD, List.getElem?_eq_getElem h, Option.getD_some, List.take_add_one, List.getElem?_eq_getElem h]; rfl

set_option maxHeartbeats 4000000 in
theorem hops_walk (a : Option Addr) (n c : Nat) (b : List Nat) (w : World) (hE : E0 w) (h : Src w a n c b) (hn : n ≤ 140737488351232) : Calls Tryz.prog 5 #[.slice a n c] w fun e w' => e = .returned (.bool true) ∧ Below w.heap.size w w' := by
  have HW := hide (works_at w hE)
  have S0 := hide h
  have HE := hide hE
  have HOK0 := hide (Good.new'.add b).ok
  clear h hE
  go_enter Tryz.func5, Tryz.ntmps5
  go_wp2_with fail
  refine HW.out.mono ?_
  rintro e w1 ⟨rfl, k1⟩
  have K1 := hide k1
  have HN := hide (new_at w1.heap.size w1)
  clear k1 HW
  go_wp2_with fail
  refine HN.out.mono ?_
  rintro e w2 ⟨rfl, p2, k2, z2⟩
  have hlo : w.heap.size ≤ w1.heap.size := K1.out.size
  have K2 := K1.out.trans (k2.mono K1.out.size)
  have e2 : Env w w2 w1.heap.size := HE.out.env K2 hlo
  have HA := hide (add_at w w1.heap.size w1.heap.size Cn.new a n c b w2 p2 (S0.out.below K2) e2 (fun _ => rfl) (by omega))
  have E2 := hide e2
  obtain ⟨b1, hb1⟩ : ∃ b1, b1 = w1.heap.size := ⟨_, rfl⟩
  rw [← hb1] at HA E2 hlo ⊢
  obtain ⟨C, hC⟩ : ∃ C, C = (addC Cn.new b).1 := ⟨_, rfl⟩
  obtain ⟨N0, hN0⟩ : ∃ N, N = (addC Cn.new b).2 := ⟨_, rfl⟩
  rw [← hC, ← hN0] at HA
  rw [← hC] at HOK0
  have HC := hide hC
  clear p2 k2 z2 HN K2 e2 hb1 hC hN0 K1
  go_wp2_with fail
  refine HA.out.mono ?_
  rintro e w3 ⟨rfl, p3, k3⟩
  have E3 := hide (E2.out.kept k3)
  have P3 := hide p3
  have HSE := hide (sends_at w b1 b1 C w3 p3 HOK0.out E3.out)
  clear p3 k3 HA E2
  by_cases h2 : C.st = 2
  · obtain ⟨hC2, hok, hg, h8⟩ := sent_add (b := b) (by rw [← HC.out]; exact h2)
    rw [← HC.out] at hC2
    obtain ⟨_, hde, hpath⟩ := request_parts hok
    have hp : path (request b).1.1.2.2 = true := by
      rcases hpath with ⟨h, _⟩ | ⟨_, h⟩
      · exact absurd (hg.symm.trans h) getM_ne
      · exact h
    obtain ⟨q, hq⟩ : ∃ q, q = (request b).1.1 := ⟨_, rfl⟩
    obtain ⟨fs, hfs⟩ : ∃ fs, fs = (request b).1.2 := ⟨_, rfl⟩
    rw [← hq] at hC2 hde hp h8
    rw [← hfs] at hC2 h8
    have hfit : Fit fs := by have := HOK0.out.1; rw [hC2] at this; exact this
    obtain ⟨hT, hTl⟩ := toT_vis hde
    have hF := sentF_ok hT hTl hfit
    have hFl := sentF_len (T := toT q.2.1) hfit
    obtain ⟨hend, hread⟩ := sent_reads (T := toT q.2.1) (fs := fs) hp hF h8
    obtain ⟨R, hbeg⟩ := sent_begins (toT q.2.1) q.2.2 fs
    obtain ⟨S, hS⟩ : ∃ S, S = sent (toT q.2.1) q.2.2 fs := ⟨_, rfl⟩
    have h8' : S.length ≤ 8192 := by rw [hS]; exact h8
    rw [← hS] at hend hread hbeg
    have hSC : sendsC C = S := by rw [hC2, hS]; rfl
    have hWC : wantsC C = (q, fs) := by rw [hC2]; rfl
    have hAK : asks C = true := by rw [hC2]; rfl
    have h4 : 4 ≤ S.length := by rw [hbeg]; simp
    rw [hSC] at HSE
    obtain ⟨N, hN⟩ : ∃ N, N = S.length := ⟨_, rfl⟩
    rw [← hN] at HSE h4 h8' hend hread
    have HEND := hide hend
    have HREAD := hide hread
    have HBEG := hide hbeg
    have HFIT := hide hfit
    have HFF := hide hF
    have HWCC := hide hWC
    have HAKK := hide hAK
    have HP := hide hp
    have HNN := hide hN
    clear hC2 hok hg h8 hde hpath hp hq hfs hT hTl hF hend hread hbeg hS hSC hWC hAK hN
    go_wp2_with fail
    refine HSE.out.mono ?_
    rintro e w4 ⟨sa, sd, rfl, s4, k4⟩
    have P4 := hide (P3.out.below k4)
    have E4 := hide (E3.out.below k4)
    have S4 := hide s4
    have HST := hide (state_at b1 b1 C w4 P4.out)
    have HWN := hide (wants_at b1 b1 C w4 P4.out HOK0.out)
    rw [HWCC.out, HAKK.out] at HWN
    simp only at HWN
    obtain ⟨L, hL⟩ : ∃ L, L = fs.length := ⟨_, rfl⟩
    rw [← hL] at HWN hFl
    obtain ⟨st, hst⟩ : ∃ st, st = C.st := ⟨_, rfl⟩
    rw [← hst] at HST h2
    have q2 : ((st : Int) != 2) = false := by simp; omega
    have HL := hide hL
    clear s4 k4 HSE P3 E3 hst hL
    go_wp2_with fail
    refine HST.out.mono ?_
    rintro e w5 ⟨rfl, rfl⟩
    go_wp2_with fail
    refine HWN.out.mono ?_
    rintro e w5 ⟨r, ra, rc, rfl, hr, sf5, k5⟩
    have hpt : byt r.t = q.2.2 := (congrArg (fun q : Rq => q.2.2) hr).symm
    obtain ⟨qm, x0, x1, x2, x3, qs, qp, qt⟩ := r
    simp only at hpt
    unfold Rc.arr
    obtain ⟨G1, hG1⟩ : ∃ G, G = w5.heap.size := ⟨_, rfl⟩
    obtain ⟨W6, hW6⟩ : ∃ W, W = w5.alloc (.cells #[.string qm, .int .u8 (x0 : Nat), .int .u8 (x1 : Nat), .int .u8 (x2 : Nat), .int .u8 (x3 : Nat), .string qs, .int .i64 (qp : Nat), .string qt, .slice ra L rc] 34) := ⟨_, rfl⟩
    have b6 : Below w5.heap.size w5 W6 := by rw [hW6]; exact (Below.refl _ _).alloc (Nat.le_refl _) _
    have g6 : W6.heap[G1]? = some (.cells #[.string qm, .int .u8 (x0 : Nat), .int .u8 (x1 : Nat), .int .u8 (x2 : Nat), .int .u8 (x3 : Nat), .string qs, .int .i64 (qp : Nat), .string qt, .slice ra L rc] 34) := by rw [hW6, hG1]; exact alloc_new _ _
    have k46 := k5.trans (b6.mono k5.size)
    have E6 := hide (E4.out.below k46)
    have S6 := hide (S4.out.below k46)
    have F6 := hide (sf5.below b6)
    have HEN := hide (end_at sa N sd S W6 S6.out E6.out.V)
    rw [HEND.out] at HEN
    have G6 := hide g6
    have HPT := hide hpt
    have HG1 := hide hG1.symm
    have HW6 : Hid (w5.alloc (.cells #[.string qm, .int .u8 (x0 : Nat), .int .u8 (x1 : Nat), .int .u8 (x2 : Nat), .int .u8 (x3 : Nat), .string qs, .int .i64 (qp : Nat), .string qt, .slice ra L rc] 34) = W6) := hW6.symm
    clear hr sf5 k5 hW6 b6 g6 hG1 HWN k46 E4 S4 P4 HST hpt
    go_wp2_with (first | rw [HW6.out, HG1.out])
    try rw [HW6.out, HG1.out]
    try go_wp2_with fail
    refine HEN.out.mono ?_
    rintro e w7 ⟨v, rfl, hih, k7⟩
    obtain rfl : v = .nilIface := hih
    have hst := run_str_src (S6.out.below k7)
    have E7 := hide (E6.out.below k7)
    have S7 := hide (S6.out.below k7)
    have F7 := hide (F6.out.below k7)
    have g7 := keepB k7 G6.out
    have c7 : w7.cell? ⟨G1, 7, none⟩ = some (.string qt) := by simp [World.cell?, g7]
    have c8 : w7.cell? ⟨G1, 8, none⟩ = some (.slice ra L rc) := by simp [World.cell?, g7]
    have hnn : ∀ w, (binOp .neq 59 .nilIface .nilIface).run Tryz.prog w = .ok (.bool false) w := fun w => by kernel_rfl
    have qn : ((N : Int) != (N : Int)) = false := by simp
    have G7 := hide g7
    have hqs : qt.size ≤ 2048 := by have h1 := (path_parts HP.out).2.1; rw [← HPT.out] at h1; simpa [byt] using h1
    have y1 : ¬ 9223372036854775807 < 4 + qt.size := by omega
    have y2 : ¬ 9223372036854775807 < 4 + qt.size + 17 := by omega
    have hSb : ∀ x ∈ S, x < 256 := S7.out.byte
    have hRb : ∀ x ∈ R, x < 256 := fun x hx => hSb x (by rw [HBEG.out]; exact List.mem_append_right _ hx)
    have hSP : strN S = (⟨#[71, 69, 84, 32]⟩ ++ qt ++ ⟨#[32, 72, 84, 84, 80, 47, 49, 46, 49, 13, 10, 72, 111, 115, 116, 58, 32]⟩ : ByteArray) ++ strN R := byt_inj (by
      rw [byt_strN _ hSb, byt_app, byt_app, byt_app, byt_strN _ hRb, HPT.out]
      exact HBEG.out)
    have HBG := hide (begins_true (strN S) _ (strN R) w7 hSP (by rw [strN_size, ← HNN.out]; unfold maxLen; omega))
    have hSd : ∀ x ∈ S.drop 4, x < 256 := fun x hx => hSb x (List.mem_of_mem_drop hx)
    obtain ⟨sx, s1, s2, s3⟩ := bytes_from4 sa N sd S7.out.hcap h4
    have hst4 := run_str_src (s3 w7 S S7.out)
    obtain ⟨T, hT⟩ : ∃ T, T = strN (S.drop 4) := ⟨_, rfl⟩
    have hTs : T.size ≤ 8192 := by rw [hT, strN_size, List.length_drop]; have := HNN.out; omega
    have y3 : ¬ 9223372036854775807 < 12 + T.size := by omega
    have hTb : byt T = S.drop 4 := by rw [hT, byt_strN _ hSd]
    rw [← hT] at hst4
    obtain ⟨cap9, W9, hcv, s9, k9⟩ := conv_src (⟨#[71, 69, 84, 32, 104, 116, 116, 112, 58, 47, 47, 97]⟩ ++ T) w7 (by rw [ByteArray.size_append]; show 12 + T.size ≤ maxLen; unfold maxLen; omega)
    have hsz : (⟨#[71, 69, 84, 32, 104, 116, 116, 112, 58, 47, 47, 97]⟩ ++ T : ByteArray).size = 12 + T.size := by rw [ByteArray.size_append]; rfl
    rw [hsz] at hcv s9
    have hX : byt (⟨#[71, 69, 84, 32, 104, 116, 116, 112, 58, 47, 47, 97]⟩ ++ T) = gA ++ S.drop 4 := by rw [byt_app, hTb]; rfl
    rw [hX] at s9
    obtain ⟨X, hXX⟩ : ∃ X, X = gA ++ S.drop 4 := ⟨_, rfl⟩
    rw [← hXX] at s9 HREAD
    have E9 := hide (E7.out.below k9)
    have F9 := hide (F7.out.below k9)
    have G9 := hide (keepB k9 G7.out)
    have HRQ := hide (request_at _ _ cap9 X W9 s9 E9.out.V E9.out.E)
    obtain ⟨m9, z0, z1, z2, z3, t9, p9, u9, hrow⟩ := request_row X
    simp only [hrow] at HRQ
    clear k7 HEN E6 S6 F6 G6 g7 hSb hRb hSP hSd s3 hT hTb s9 k9 hX hXX hqs hrow E7 S7 F7 G7
    go_wp2_with fail
    refine HBG.out.mono ?_
    rintro e w8 ⟨rfl, rfl⟩
    go_wp2_with fail
    refine HRQ.out.mono ?_
    rintro e w10 ⟨ad, ac, v, rfl, sf10, hih, k10⟩
    obtain ⟨fs2, hfs2⟩ : ∃ fs2, fs2 = (request X).1.2 := ⟨_, rfl⟩
    obtain ⟨er, her⟩ : ∃ er, er = (request X).2.2 := ⟨_, rfl⟩
    obtain ⟨I, hI⟩ : ∃ I, I = (request X).2.1 := ⟨_, rfl⟩
    rw [← hfs2] at sf10 HREAD ⊢
    rw [← her] at hih HREAD
    rw [← hI]
    obtain ⟨L2, hL2⟩ : ∃ L2, L2 = fs2.length := ⟨_, rfl⟩
    rw [← hL2] at sf10 ⊢
    obtain ⟨G2, hG2⟩ : ∃ G, G = w10.heap.size := ⟨_, rfl⟩
    obtain ⟨W11, hW11⟩ : ∃ W, W = w10.alloc (.cells #[.string m9, .int .u8 (z0 : Nat), .int .u8 (z1 : Nat), .int .u8 (z2 : Nat), .int .u8 (z3 : Nat), .string t9, .int .i64 (p9 : Nat), .string u9, .slice ad L2 ac] 34) := ⟨_, rfl⟩
    have b11 : Below w10.heap.size w10 W11 := by rw [hW11]; exact (Below.refl _ _).alloc (Nat.le_refl _) _
    have g11 : W11.heap[G2]? = some (.cells #[.string m9, .int .u8 (z0 : Nat), .int .u8 (z1 : Nat), .int .u8 (z2 : Nat), .int .u8 (z3 : Nat), .string t9, .int .i64 (p9 : Nat), .string u9, .slice ad L2 ac] 34) := by rw [hW11, hG2]; exact alloc_new _ _
    have k911 := k10.trans (b11.mono k10.size)
    have g1 := keepB k911 G9.out
    have d7 : W11.cell? ⟨G1, 7, none⟩ = some (.string qt) := by simp [World.cell?, g1]
    have d8 : W11.cell? ⟨G1, 8, none⟩ = some (.slice ra L rc) := by simp [World.cell?, g1]
    have GG := hide g11
    have E11 := hide (E9.out.below k911)
    have F11 := hide (F9.out.below k911)
    have SX := hide (sf10.below b11)
    have HL2 := hide hL2
    have HG2 := hide hG2.symm
    have HW11 : Hid (w10.alloc (.cells #[.string m9, .int .u8 (z0 : Nat), .int .u8 (z1 : Nat), .int .u8 (z2 : Nat), .int .u8 (z3 : Nat), .string t9, .int .i64 (p9 : Nat), .string u9, .slice ad L2 ac] 34) = W11) := hW11.symm
    clear sf10 k10 hfs2 her hI hL2 hG2 hW11 b11 g11 k911 g1 HRQ E9 F9 G9 hcv hst hst4 s1 s2 c7 c8 y1 y2 y3 HBG
    rcases HREAD.out with ⟨rfl, hfl⟩ | ⟨hno, hbig⟩
    · obtain rfl : v = .nilIface := hih
      have HFL := hide hfl
      clear hfl HREAD
      go_wp2_with (first | rw [HW11.out, HG2.out])
      try rw [HW11.out, HG2.out]
      try go_wp2_with fail
      have hsm : (somE fs false).2 = 0 := by unfold somE; rw [if_neg (by have := HFIT.out.2; omega)]
      have HKP := hide (keep_at ra L rc fs W11 E11.out.V F11.out HFIT.out.few)
      rw [hsm] at HKP
      obtain ⟨KF, hKF⟩ : ∃ KF, KF = (somE fs false).1 := ⟨_, rfl⟩
      rw [← hKF] at HKP
      have HKB : Hid (okB KF) := fun f hf => F11.out.byte f (somE_mem HFIT.out (by rw [← hKF]; exact hf))
      have HKL : Hid (∀ f ∈ KF, f.1.length ≤ 64) := fun f hf => (HFIT.out.lens (somE_mem HFIT.out (by rw [← hKF]; exact hf))).1
      have HOW : Hid (ownK fs = KF.filter fun f => !isN hostN f) := by show _ = _; rw [hKF]; rfl
      have hK4 : KF.length ≤ 64 := by
        rw [hKF, somE_fit HFIT.out]
        exact Nat.le_trans (List.length_filter_le _ _) HFIT.out.2
      clear hsm hKF
      refine HKP.out.mono ?_
      rintro e w12 ⟨kv, rfl, ow12, k12⟩
      obtain ⟨ka, kc, rfl, sk12, _⟩ := ow12.src HKB.out
      obtain ⟨K, hK⟩ : ∃ K, K = KF.length := ⟨_, rfl⟩
      rw [← hK] at sk12 hK4 ⊢
      have SX12 := SX.out.below k12
      have hSF : fs2 = (hostN, toT q.2.1) :: (connN, endV) :: ownK fs := HFL.out
      have hL2 : 2 ≤ L2 := by rw [HL2.out, hSF]; simp
      obtain ⟨xb, xo, rfl, hxl, hxc⟩ := SX12.lies (by omega)
      have e0 : w12.cell? ⟨xb, xo, none⟩ = some (.string ⟨#[72, 111, 115, 116]⟩) := by
        have := hxc 0 (.string (strN hostN)) (by rw [hSF]; rfl)
        rw [Nat.add_zero, show strN hostN = ⟨#[72, 111, 115, 116]⟩ from byt_inj (by decide +kernel)] at this
        exact this
      have e2 : w12.cell? ⟨xb, xo + 2, none⟩ = some (.string ⟨#[67, 111, 110, 110, 101, 99, 116, 105, 111, 110]⟩) := by
        have := hxc 2 (.string (strN connN)) (by rw [hSF]; rfl)
        rw [show strN connN = ⟨#[67, 111, 110, 110, 101, 99, 116, 105, 111, 110]⟩ from byt_inj (by decide +kernel)] at this
        exact this
      have e3 : w12.cell? ⟨xb, xo + 2 + 1, none⟩ = some (.string ⟨#[99, 108, 111, 115, 101]⟩) := by
        have := hxc 3 (.string (strN endV)) (by rw [hSF]; rfl)
        rw [show strN endV = ⟨#[99, 108, 111, 115, 101]⟩ from byt_inj (by decide +kernel)] at this
        exact this
      have e3' : w12.cell? ⟨xb, xo + 3, none⟩ = some (.string ⟨#[99, 108, 111, 115, 101]⟩) := e3
      have hne : ∀ w, (binOp .neq 68 (.agg #[.string ⟨#[67, 111, 110, 110, 101, 99, 116, 105, 111, 110]⟩, .string ⟨#[99, 108, 111, 115, 101]⟩]) (.agg #[.string ⟨#[67, 111, 110, 110, 101, 99, 116, 105, 111, 110]⟩, .string ⟨#[99, 108, 111, 115, 101]⟩])).run Tryz.prog w = .ok (.bool false) w := fun w => by kernel_rfl
      have qs2 : decide ((L2 : Int) < 2) = false := decide_eq_false (by omega)
      have hG := keepB k12 GG.out
      have d8 : w12.cell? ⟨G2, 8, none⟩ = some (.slice (some ⟨xb, xo, none⟩) L2 ac) := by simp [World.cell?, hG]
      have GG12 := hide hG
      obtain ⟨W13, hW13⟩ : ∃ W, W = w12.alloc (.cells #[] 68) := ⟨_, rfl⟩
      have b13 : Below w12.heap.size w12 W13 := by rw [hW13]; exact (Below.refl _ _).alloc (Nat.le_refl _) _
      have o13 : OwnF W13 w12.heap.size (.slice (some ⟨w12.heap.size, 0, none⟩) 0 0) [] := by rw [hW13]; exact own_newF w12
      obtain ⟨B, hB⟩ : ∃ B, B = w12.heap.size := ⟨_, rfl⟩
      rw [← hB] at o13
      have HI13 : Hid (OwnF W13 B (.slice (some ⟨B, 0, none⟩) 0 0) ((KF.take 0).filter fun f => !isN hostN f) ∧ Below w12.heap.size w12 W13) := ⟨o13, b13⟩
      have HW13 : Hid (w12.alloc (.cells #[] 68) = W13) := hW13.symm
      have HB := hide hB.symm
      have SK := hide sk12
      have SXX := hide SX12
      have BE12 : Hid (Below w.heap.size w w12) := E11.out.be.trans (k12.mono E11.out.be.size)
      have HSF := hide hSF
      have HK := hide hK
      clear ow12 k12 sk12 SX12 hxc hG hW13 b13 o13 hB HKP SX GG F11 E11 hSF hK d7
      go_wp2_with (first | rw [HW13.out, HB.out])
      try rw [HW13.out, HB.out]
      try go_wp2_with fail
      clear e0 e2 e3 e3' hne qs2 d8
      go_loopw [13, 14] (fun v i_ wr => ∃ k : Nat, k ≤ K ∧ i_ = .int .i64 k ∧ Hid (OwnF wr B v ((KF.take k).filter fun f => !isN hostN f) ∧ Below w12.heap.size w12 wr)) (fun _ i _ => K - (intOf i).toNat)
      case atStart => exact ⟨0, Nat.zero_le _, rfl, HI13⟩
      case round =>
        clear HI13 HW13
        obtain ⟨k, hk, rfl, HI⟩ := hrel
        obtain ⟨j1, j2⟩ := HI.out
        have s1 := SK.out.below j2
        by_cases hkn : k < K
        · have hdk : decide ((k : Int) < (K : Int)) = true := decide_eq_true (by omega)
          obtain ⟨b', o, rfl, c0, c1⟩ := s1.at_ hkn
          rw [Nat.mul_comm 2 k] at c0 c1
          have hkl : k < KF.length := by rw [← HK.out]; exact hkn
          have hmem := getD_fd hkl
          have hby := HKB.out _ hmem
          have hfl := HKL.out _ hmem
          have HSN := hide (filter_snoc (fun f : Fd => !isN hostN f) (KF.take k) (KF.getD k ([], [])))
          rw [← take_fd KF k hkl] at HSN
          have hfl2 : ((KF.take k).filter fun f => !isN hostN f).length ≤ 4000000 := by
            have h1 := List.length_filter_le (fun f : Fd => !isN hostN f) (KF.take k)
            have h2 := List.length_take_le k KF
            omega
          obtain ⟨fd, hf0⟩ : ∃ f, f = KF.getD k ([], []) := ⟨_, rfl⟩
          rw [← hf0] at c0 c1 hby hfl HSN
          obtain ⟨p, q'⟩ := fd
          simp only at c0 c1 hby hfl
          have HLW := hide (lower_at (strN p) wr (by rw [strN_size]; omega))
          rw [byt_strN p hby.1] at HLW
          have hb0 : ((strN (low p)).toList == ([104, 111, 115, 116] : List UInt8)) = decide (low p = [104, 111, 115, 116]) := by
            have := eq_byt (strN (low p)) ⟨#[104, 111, 115, 116]⟩
            rwa [show (⟨#[104, 111, 115, 116]⟩ : ByteArray).toList = [104, 111, 115, 116] from by decide +kernel, byt_strN _ (low_lt hby.1), show byt (⟨#[104, 111, 115, 116]⟩ : ByteArray) = [104, 111, 115, 116] from rfl] at this
          have hb1 : ((strN (low p)).toList != ([104, 111, 115, 116] : List UInt8)) = !decide (low p = [104, 111, 115, 116]) := by rw [← hb0]; rfl
          have his : isN hostN (p, q') = decide (low p = [104, 111, 115, 116]) := rfl
          obtain ⟨LP, hLP⟩ : ∃ x, x = strN (low p) := ⟨_, rfl⟩
          rw [← hLP] at HLW hb0 hb1
          obtain ⟨P, hP⟩ : ∃ x, x = strN p := ⟨_, rfl⟩
          obtain ⟨Q, hQ⟩ : ∃ x, x = strN q' := ⟨_, rfl⟩
          rw [← hP] at c0 HLW
          rw [← hQ] at c1
          have HPQ : Hid (P = strN p ∧ Q = strN q') := ⟨hP, hQ⟩
          have C0 := hide c0
          have C1 := hide c1
          have hbl : b' < wr.heap.size := lt_of_cell c0
          have HBL := hide hbl
          have J1 := hide j1
          have J2 := hide j2
          clear hf0 hkl hmem hby hfl hLP hP hQ c1 HI j1 j2 s1 hbl
          by_cases hh : low p = [104, 111, 115, 116]
          · rw [decide_eq_true hh] at hb0 hb1 his
            rw [Bool.not_true] at hb1
            rw [his] at HSN
            have HR2 : Hid ((KF.take (k + 1)).filter (fun f => !isN hostN f) = (KF.take k).filter (fun f => !isN hostN f)) := by
              show _ = _
              rw [HSN.out]; exact List.append_nil _
            clear hh his HSN
            go_wp2_with fail
            refine HLW.out.mono ?_
            rintro e w14 ⟨rfl, k14⟩
            have O14 := hide (J1.out.below k14)
            have B14 := hide (J2.out.trans (k14.mono J2.out.size))
            clear k14 HLW
            go_wp2_with fail
            go_roundw
            case rel => exact ⟨k + 1, by omega, by go_num, by rw [HR2.out]; exact O14.out, B14.out⟩
            case measure => simp [intOf] <;> omega
          · rw [decide_eq_false hh] at hb0 hb1 his
            rw [Bool.not_false] at hb1
            rw [his] at HSN
            have HR2 : Hid ((KF.take (k + 1)).filter (fun f => !isN hostN f) = (KF.take k).filter (fun f => !isN hostN f) ++ [(p, q')]) := HSN.out
            clear hh his HSN
            go_wp2_with fail
            refine HLW.out.mono ?_
            rintro e w14 ⟨rfl, k14⟩
            have O14 := hide (J1.out.below k14)
            have B14 := hide (J2.out.trans (k14.mono J2.out.size))
            have d0 : w14.cell? ⟨b', o + k * 2, none⟩ = some (.string P) := (k14.cell (p := ⟨b', o + k * 2, none⟩) HBL.out).trans C0.out
            have d1 : w14.cell? ⟨b', o + k * 2 + 1, none⟩ = some (.string Q) := (k14.cell (p := ⟨b', o + k * 2 + 1, none⟩) HBL.out).trans C1.out
            obtain ⟨v4, w15, hap, ho15, hb15, _⟩ := push_fld (p, q') O14.out hfl2 (by rw [← HB.out]; exact B14.out.size)
            rw [show (strN (p, q').1) = P from HPQ.out.1.symm, show (strN (p, q').2) = Q from HPQ.out.2.symm] at hap
            have HAP := hide hap
            have O15 := hide ho15
            have B15 : Hid (Below w12.heap.size w12 w15) := B14.out.trans (by rw [HB.out]; exact hb15)
            clear k14 HLW c0 hap ho15 hb15
            go_wp2_with (first | (refine wpList_app_run _ rfl _ _ 32 32 rfl _ _ rfl rfl HAP.out ?_))
            go_roundw
            case rel => exact ⟨k + 1, by omega, by go_num, by rw [HR2.out]; exact O15.out, B15.out⟩
            case measure => simp [intOf] <;> omega
        · obtain rfl : k = K := by omega
          have hdk : decide ((k : Int) < (k : Int)) = false := decide_eq_false (by omega)
          rw [List.take_of_length_le (by rw [HK.out]; exact Nat.le_refl _), ← HOW.out] at j1
          have SXr := SXX.out.below j2
          rw [HSF.out] at SXr
          obtain ⟨la, lc, rfl, sl, _⟩ := j1.src (fun f hf => HKB.out f (by rw [HOW.out] at hf; exact (List.mem_filter.1 hf).1))
          obtain ⟨sx2, t1, t2, t3⟩ := fields_from2 (some ⟨xb, xo, none⟩) L2 ac SXr.hcap hL2
          have HSM := hide (same_fields wr sx2 la _ _ _ _ (ownK fs) (t3 wr _ _ _ SXr) sl)
          have hG := keepB j2 GG12.out
          have d8 : wr.cell? ⟨G2, 8, none⟩ = some (.slice (some ⟨xb, xo, none⟩) L2 ac) := by simp [World.cell?, hG]
          have BEr := hide (BE12.out.trans (j2.mono BE12.out.size))
          clear j1 j2 s1 SXr t3 sl hG HI
          go_wp2_with fail
          refine HSM.out.mono ?_
          rintro e w16 ⟨rfl, k16⟩
          have BE16 := hide (BEr.out.trans (k16.mono BEr.out.size))
          clear k16 HSM
          go_wp2_with fail
          go_ret
          exact ⟨rfl, BE16.out⟩
    · obtain ⟨g, rfl⟩ := hih.ptr hno
      have hn2 : ∀ w, (binOp .neq 59 (.iface 145 (.pointer (some ⟨g, 0, none⟩))) .nilIface).run Tryz.prog w = .ok (.bool true) w := fun w => by kernel_rfl
      have BE := hide E11.out.be
      clear hih hno HREAD
      by_cases hb8 : 8192 < N + 8
      · have q3 : decide ((8192 : Int) < (N : Int) + 8) = true := decide_eq_true (by omega)
        go_wp2_with (first | rw [HW11.out, HG2.out])
        try rw [HW11.out, HG2.out]
        try go_wp2_with fail
        go_ret
        exact ⟨rfl, BE.out⟩
      · have q3 : decide ((8192 : Int) < (N : Int) + 8) = false := decide_eq_false (by omega)
        have q5 : decide ((63 : Int) ≤ (L : Int)) = true := decide_eq_true (by omega)
        by_cases hq8 : 2040 < qt.size
        · have q4 : decide ((2040 : Int) < (qt.size : Int)) = true := decide_eq_true (by omega)
          go_wp2_with (first | rw [HW11.out, HG2.out])
          try rw [HW11.out, HG2.out]
          try go_wp2_with fail
          go_ret
          exact ⟨rfl, BE.out⟩
        · have q4 : decide ((2040 : Int) < (qt.size : Int)) = false := decide_eq_false (by omega)
          go_wp2_with (first | rw [HW11.out, HG2.out])
          try rw [HW11.out, HG2.out]
          try go_wp2_with fail
          go_ret
          exact ⟨rfl, BE.out⟩
  · have hs0 : sendsC C = [] := by rw [HC.out] at h2 ⊢; exact sends_no h2
    rw [hs0] at HSE
    simp only [List.length_nil] at HSE
    go_wp2_with fail
    refine HSE.out.mono ?_
    rintro e w4 ⟨sa, sd, rfl, s4, k4⟩
    have HST := hide (state_at b1 b1 C w4 (P3.out.below k4))
    have BE := hide (E3.out.below k4).be
    obtain ⟨st, hst⟩ : ∃ st, st = C.st := ⟨_, rfl⟩
    rw [← hst] at HST h2
    have q2 : ((st : Int) != 2) = true := by simp; omega
    clear s4 k4 HSE P3 E3 hst
    go_wp2_with fail
    refine HST.out.mono ?_
    rintro e w5 ⟨rfl, rfl⟩
    go_wp2_with fail
    go_ret
    exact ⟨rfl, BE.out⟩
end Go.Proofs.YtccoddmdlbdfjaaGreatDoor
