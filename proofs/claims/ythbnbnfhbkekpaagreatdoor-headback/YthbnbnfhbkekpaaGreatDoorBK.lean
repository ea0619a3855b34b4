/-
  HeadBack's walk; conditions as each theorem has them.
-/
import Derived.Test.YthbnbnfhbkekpaaGreatDoorV
import Derived.Test.YthbnbnfhbkekpaaGreatDoorCW
import Derived.Test.YthbnbnfhbkekpaaGreatDoorT
set_option linter.unusedSimpArgs false
set_option linter.unusedVariables false
namespace Go.Proofs.YthbnbnfhbkekpaaGreatDoor
open Go.RowKit

set_option maxRecDepth 100000 in
set_option maxHeartbeats 8000000 in
theorem back_walk (pv : Value) (m : ByteArray) (A : Ad) (h : ByteArray) (p : Int) (t : ByteArray) (xa : Option Addr) (xn xc : Nat) (fs : List Fd) (qv : Value) (s : Int) (r : ByteArray) (ya : Option Addr) (yn yc : Nat) (gs : List Fd) (a2 : Option Addr) (n2 c2 : Nat) (more : List Nat) (w : World) (hT : Tabs w ∧ Pow w) (hq : IsRq w pv m A h p t xa xn xc fs) (hy : IsRy w qv s r ya yn yc gs) (h2 : Src w a2 n2 c2 more) (hn2 : n2 ≤ 1048576) :
    Calls Tryz.prog 6 #[pv, qv, .slice a2 n2 c2] w fun e w' => e = .returned (.bool true) ∧ Below w.heap.size w w' := by
  obtain ⟨rfl, ok, hm, hh, hp, ht, src, sht, len⟩ := hq
  obtain ⟨rfl, hs, hr, src2, sht2, len2⟩ := hy
  obtain ⟨A0, A1, A2, A3⟩ := A
  unfold rqV ryV
  obtain ⟨G0, hG0⟩ : ∃ G, G = w.heap.size := ⟨_, rfl⟩
  obtain ⟨G1, hG1⟩ : ∃ G, G = w.heap.size + 1 := ⟨_, rfl⟩
  obtain ⟨W0, hW0⟩ : ∃ W, W = (w.alloc (.cells #[.string m, .int .u8 (A0 : Nat), .int .u8 (A1 : Nat), .int .u8 (A2 : Nat), .int .u8 (A3 : Nat), .string h, .int .i64 p, .string t, .slice xa xn xc] 44)).alloc (.cells #[.int .i64 s, .string r, .slice ya yn yc] 51) := ⟨_, rfl⟩
  have b0 : Below w.heap.size w W0 := by rw [hW0]; exact ((Below.refl _ _).alloc (Nat.le_refl _) _).alloc (by simp) _
  have g0 : W0.heap[G0]? = some (.cells #[.string m, .int .u8 (A0 : Nat), .int .u8 (A1 : Nat), .int .u8 (A2 : Nat), .int .u8 (A3 : Nat), .string h, .int .i64 p, .string t, .slice xa xn xc] 44) := by rw [hW0, hG0]; exact alloc_old _ (alloc_new _ _)
  have g1 : W0.heap[G1]? = some (.cells #[.int .i64 s, .string r, .slice ya yn yc] 51) := by rw [hW0, hG1]; exact alloc_new2 _ _ _
  have HW0 : Hid ((w.alloc (.cells #[.string m, .int .u8 (A0 : Nat), .int .u8 (A1 : Nat), .int .u8 (A2 : Nat), .int .u8 (A3 : Nat), .string h, .int .i64 p, .string t, .slice xa xn xc] 44)).alloc (.cells #[.int .i64 s, .string r, .slice ya yn yc] 51) = W0) := hW0.symm
  have HG0 := hide hG0.symm
  have HG1 := hide hG1.symm
  have R0 := hide g0
  have Q0 := hide g1
  have HWK := hide (works_at W0 (hT.1.below b0))
  have M0 := hide h2
  have X0 := hide src
  have Y0 := hide src2
  have T0 := hide (hT.1.below b0)
  have P0 := hide (hT.2.below b0)
  have B0 := hide b0
  have HOK := hide ok
  have HPQ : Hid (∀ W, SrcF W xa xn xc fs → Vars W → Pow W → Calls Tryz.prog 22 #[.agg #[.string m, .int .u8 (A0 : Nat), .int .u8 (A1 : Nat), .int .u8 (A2 : Nat), .int .u8 (A3 : Nat), .string h, .int .i64 p, .string t, .slice xa xn xc]] W (Wrote (putQ (byt m) (det (A0, A1, A2, A3) (byt h) p) (byt t) fs) W)) := fun W h1 h2 h3 =>
    putRequest_at m (A0, A1, A2, A3) h p t xa xn xc fs W ok (by unfold maxLen; omega) hh (by unfold maxLen; omega) h1 (fun f hf => by have := sht f hf; unfold maxLen; omega) h2 h3
  have HPR : Hid (∀ W, SrcF W ya yn yc gs → Pow W → Calls Tryz.prog 24 #[.agg #[.int .i64 s, .string r, .slice ya yn yc]] W (Wrote (putY s (byt r) gs) W)) := fun W h1 h3 =>
    putReply_at s r ya yn yc gs W h1 (fun f hf => by have := sht2 f hf; unfold maxLen; omega) h3
  clear hW0 hG0 hG1 g0 g1 b0 hT h2 src src2 ok hm hh hp ht sht sht2 len len2 hs hr
  go_enter Tryz.func6, Tryz.ntmps6
  go_wp2_with (first | (rw [HW0.out, HG1.out, HG0.out]))
  try (rw [HW0.out, HG1.out, HG0.out]; go_wp2_with fail)
  refine HWK.out.mono ?_
  rintro e w1 ⟨rfl, k1⟩
  have B1 := hide (B0.out.trans (k1.mono B0.out.size))
  have T1 := hide (T0.out.below k1)
  have P1 := hide (P0.out.below k1)
  have R1 := hide (keepB k1 R0.out)
  have Q1 := hide (keepB k1 Q0.out)
  have HPC := hide (HPQ.out w1 (X0.out.keep (fun h0 i o ei => B1.out.block i (X0.out.lt h0 ei)) B1.out.size) T1.out.v P1.out)
  unfold Wrote at HPC
  obtain ⟨PQ, hPQ⟩ : ∃ x, x = putQ (byt m) (det (A0, A1, A2, A3) (byt h) p) (byt t) fs := ⟨_, rfl⟩
  rw [← hPQ] at HPC
  obtain ⟨pb, pcd⟩ := PQ
  simp only at HPC
  have HEP := hide hPQ.symm
  clear hPQ k1 B0 T0 P0 R0 Q0 HWK HPQ
  go_wp2_with (first | (refine wpList_load_rowG rfl 44 _ rfl G0 rfl 44 #[.string m, .int .u8 (A0 : Nat), .int .u8 (A1 : Nat), .int .u8 (A2 : Nat), .int .u8 (A3 : Nat), .string h, .int .i64 p, .string t, .slice xa xn xc] (0, 0) _ R1.out Tryz.underlying44 rfl info44 ?_))
  refine HPC.out.mono ?_
  rintro e w2 ⟨ba, bcap, rfl, hs2, k2⟩
  have B2 := hide (B1.out.trans (k2.mono B1.out.size))
  have T2 := hide (T1.out.below k2)
  have P2 := hide (P1.out.below k2)
  have R2 := hide (keepB k2 R1.out)
  have Q2 := hide (keepB k2 Q1.out)
  have S2 := hide hs2
  clear hs2 k2 HPC B1 T1 P1 R1 Q1
  by_cases hpc : pcd = 0
  · subst hpc
    obtain ⟨hrq, hb8, hp1⟩ := putQ_back HOK.out HEP.out more
    obtain ⟨pn, rfl⟩ : ∃ k : Nat, p = k := ⟨p.toNat, by omega⟩
    rw [Int.toNat_natCast] at hrq
    have HRQ := hide hrq
    obtain ⟨pl, hpl⟩ : ∃ L, L = pb.length := ⟨_, rfl⟩
    rw [← hpl] at S2 hb8 HRQ ⊢
    have HPL := hide hpl
    have HBY := hide (bytes_at ba pl bcap pb w2 S2.out (by omega))
    clear hrq hpl hp1
    go_wp2_with fail
    refine HBY.out.mono ?_
    rintro e w3 ⟨v3, rfl, o3, k3⟩
    have b03 := B2.out.trans (k3.mono B2.out.size)
    obtain ⟨v4, w4, a4, o4, b4⟩ := run_app o3 (M0.out.keep (fun h0 i o ei => b03.block i (M0.out.lt h0 ei)) b03.size) (by rw [← HPL.out]; omega) k3.size
    obtain ⟨x4, c4, rfl, s4, _⟩ := own_src o4 (by intro x hx; rcases List.mem_append.1 hx with h | h; exact S2.out.byte x h; exact M0.out.byte x h)
    have k24 : Below w2.heap.size w2 w4 := k3.trans b4
    have B4 := hide (B2.out.trans (k24.mono B2.out.size))
    have T4 := hide (T2.out.below k24)
    have P4 := hide (P2.out.below k24)
    have R4 := hide (keepB k24 R2.out)
    have Q4 := hide (keepB k24 Q2.out)
    have HR4 := hide (request_at x4 _ c4 (pb ++ more) w4 s4 T4.out.v T4.out.e)
    rw [HRQ.out] at HR4
    have hrow : ∀ v, rqC (byt m, (([A0, A1, A2, A3], byt h), pn), byt t) v = #[.string m, .int .u8 (A0 : Nat), .int .u8 (A1 : Nat), .int .u8 (A2 : Nat), .int .u8 (A3 : Nat), .string h, .int .i64 (pn : Nat), .string t, v] := fun v => by unfold rqC; simp only [strN_byt]; rfl
    simp only [hrow] at HR4
    have A4 := hide a4
    clear o3 k3 b03 a4 o4 b4 s4 k24 HBY B2 T2 P2 R2 Q2 hrow
    generalize (pb ++ more).length = FL at A4 HR4
    go_wp2_with (first | (refine wpList_app_run _ rfl _ _ 22 22 rfl _ _ rfl rfl A4.out ?_))
    refine HR4.out.mono ?_
    rintro e w5 ⟨ad5, cap5, v5, rfl, sf5, hg5, k5⟩
    obtain rfl := hg5.nil rfl
    obtain ⟨fl5, hfl5⟩ : ∃ L, L = fs.length := ⟨_, rfl⟩
    rw [← hfl5] at sf5 ⊢
    obtain ⟨G6, hG6⟩ : ∃ G, G = w5.heap.size := ⟨_, rfl⟩
    obtain ⟨W6, hW6⟩ : ∃ W, W = w5.alloc (.cells #[.string m, .int .u8 (A0 : Nat), .int .u8 (A1 : Nat), .int .u8 (A2 : Nat), .int .u8 (A3 : Nat), .string h, .int .i64 (pn : Nat), .string t, .slice ad5 fl5 cap5] 44) := ⟨_, rfl⟩
    have b6 : Below w5.heap.size w5 W6 := by rw [hW6]; exact (Below.refl _ _).alloc (Nat.le_refl _) _
    have g6 : W6.heap[G6]? = some (.cells #[.string m, .int .u8 (A0 : Nat), .int .u8 (A1 : Nat), .int .u8 (A2 : Nat), .int .u8 (A3 : Nat), .string h, .int .i64 (pn : Nat), .string t, .slice ad5 fl5 cap5] 44) := by rw [hW6, hG6]; exact alloc_new _ _
    have k46 : Below w4.heap.size w4 W6 := k5.trans (b6.mono k5.size)
    have B6 := hide (B4.out.trans (k46.mono B4.out.size))
    have T6 := hide (T4.out.below k46)
    have P6 := hide (P4.out.below k46)
    have R6 := hide (keepB k46 R4.out)
    have Q6 := hide (keepB k46 Q4.out)
    have Z6 := hide g6
    have HSQ := hide (same_request W6 m A0 A1 A2 A3 h (pn : Int) t ad5 xa fl5 cap5 xn xc fs (sf5.below b6) (X0.out.keep (fun h0 i o ei => B6.out.block i (X0.out.lt h0 ei)) B6.out.size))
    have HW6 : Hid (w5.alloc (.cells #[.string m, .int .u8 (A0 : Nat), .int .u8 (A1 : Nat), .int .u8 (A2 : Nat), .int .u8 (A3 : Nat), .string h, .int .i64 (pn : Nat), .string t, .slice ad5 fl5 cap5] 44) = W6) := hW6.symm
    have HG6 := hide hG6.symm
    have ll : ((pl : Int) != (pl : Int)) = false := by simp
    clear hfl5 hG6 hW6 b6 g6 k46 sf5 hg5 k5 HR4 A4 B4 T4 P4 R4 Q4
    go_wp2_with (first
      | (rw [HW6.out, HG6.out])
      | (refine wpList_load_rowG rfl 44 _ rfl G6 rfl 44 #[.string m, .int .u8 (A0 : Nat), .int .u8 (A1 : Nat), .int .u8 (A2 : Nat), .int .u8 (A3 : Nat), .string h, .int .i64 (pn : Nat), .string t, .slice ad5 fl5 cap5] (0, 0) _ Z6.out Tryz.underlying44 rfl info44 ?_)
      | (refine wpList_load_rowG rfl 44 _ rfl G0 rfl 44 #[.string m, .int .u8 (A0 : Nat), .int .u8 (A1 : Nat), .int .u8 (A2 : Nat), .int .u8 (A3 : Nat), .string h, .int .i64 (pn : Nat), .string t, .slice xa xn xc] (0, 0) _ R6.out Tryz.underlying44 rfl info44 ?_))
    try (rw [HW6.out, HG6.out]; go_wp2_with (first
      | (refine wpList_load_rowG rfl 44 _ rfl G6 rfl 44 #[.string m, .int .u8 (A0 : Nat), .int .u8 (A1 : Nat), .int .u8 (A2 : Nat), .int .u8 (A3 : Nat), .string h, .int .i64 (pn : Nat), .string t, .slice ad5 fl5 cap5] (0, 0) _ Z6.out Tryz.underlying44 rfl info44 ?_)
      | (refine wpList_load_rowG rfl 44 _ rfl G0 rfl 44 #[.string m, .int .u8 (A0 : Nat), .int .u8 (A1 : Nat), .int .u8 (A2 : Nat), .int .u8 (A3 : Nat), .string h, .int .i64 (pn : Nat), .string t, .slice xa xn xc] (0, 0) _ R6.out Tryz.underlying44 rfl info44 ?_)))
    refine HSQ.out.mono ?_
    rintro e w7 ⟨rfl, k7⟩
    have B7 := hide (B6.out.trans (k7.mono B6.out.size))
    have T7 := hide (T6.out.below k7)
    have P7 := hide (P6.out.below k7)
    have R7 := hide (keepB k7 R6.out)
    have Q7 := hide (keepB k7 Q6.out)
    clear k7 HSQ B6 T6 P6 R6 Q6 Z6
    have HPY := hide (HPR.out w7 (Y0.out.keep (fun h0 i o ei => B7.out.block i (Y0.out.lt h0 ei)) B7.out.size) P7.out)
    unfold Wrote at HPY
    obtain ⟨PY, hPY⟩ : ∃ x, x = putY s (byt r) gs := ⟨_, rfl⟩
    rw [← hPY] at HPY
    obtain ⟨yb, ycd⟩ := PY
    simp only at HPY
    have HEQ := hide hPY.symm
    clear hPY
    have q10 : w7.cell? ⟨G1, 0, none⟩ = some (.int .i64 s) := by simp [World.cell?, Q7.out]
    have q11 : w7.cell? ⟨G1, 1, none⟩ = some (.string r) := by simp [World.cell?, Q7.out]
    have q12 : w7.cell? ⟨G1, 2, none⟩ = some (.slice ya yn yc) := by simp [World.cell?, Q7.out]
    go_wp2_with fail
    refine HPY.out.mono ?_
    rintro e wa ⟨pa, pcap, rfl, hsa, ka⟩
    have BA := hide (B7.out.trans (ka.mono B7.out.size))
    have TA := hide (T7.out.below ka)
    have QA := hide (keepB ka Q7.out)
    have SA := hide hsa
    clear hsa ka HPY q10 q11 q12
    by_cases hyc : ycd = 0
    · subst hyc
      obtain ⟨hre, hl8, hs0⟩ := putY_back HEQ.out more
      obtain ⟨sn, rfl⟩ : ∃ k : Nat, s = k := ⟨s.toNat, by omega⟩
      rw [Int.toNat_natCast] at hre
      have HRE := hide hre
      obtain ⟨yl, hyl⟩ : ∃ L, L = yb.length := ⟨_, rfl⟩
      rw [← hyl] at SA hl8 ⊢
      rw [← hyl] at HRE
      have HYL := hide hyl
      have HBY := hide (bytes_at pa yl pcap yb wa SA.out (by omega))
      clear hre hyl hs0
      go_wp2_with fail
      refine HBY.out.mono ?_
      rintro e wb ⟨vb, rfl, ob, kb⟩
      have b0b := BA.out.trans (kb.mono BA.out.size)
      obtain ⟨vc, wc, ac, oc, bc⟩ := run_app ob (M0.out.keep (fun h0 i o ei => b0b.block i (M0.out.lt h0 ei)) b0b.size) (by rw [← HYL.out]; omega) kb.size
      obtain ⟨xc', cc', rfl, sc, _⟩ := own_src oc (by intro x hx; rcases List.mem_append.1 hx with h | h; exact SA.out.byte x h; exact M0.out.byte x h)
      have kac : Below wa.heap.size wa wc := kb.trans bc
      have BC := hide (BA.out.trans (kac.mono BA.out.size))
      have TC := hide (TA.out.below kac)
      have QC := hide (keepB kac QA.out)
      have HRC := hide (reply_at xc' _ cc' (yb ++ more) wc sc TC.out.v TC.out.e)
      rw [HRE.out] at HRC
      unfold ryC at HRC
      simp only [strN_byt] at HRC
      have AC := hide ac
      clear ob kb b0b ac oc bc sc kac HBY BA TA QA
      generalize (yb ++ more).length = FL at AC HRC
      go_wp2_with (first | (refine wpList_app_run _ rfl _ _ 22 22 rfl _ _ rfl rfl AC.out ?_))
      refine HRC.out.mono ?_
      rintro e wd ⟨add, capd, vd, rfl, sfd, hgd, kd⟩
      obtain rfl := hgd.nil rfl
      obtain ⟨gl, hgl⟩ : ∃ L, L = gs.length := ⟨_, rfl⟩
      rw [← hgl] at sfd ⊢
      obtain ⟨GD, hGD⟩ : ∃ G, G = wd.heap.size := ⟨_, rfl⟩
      obtain ⟨WD, hWD⟩ : ∃ W, W = wd.alloc (.cells #[.int .i64 (sn : Nat), .string r, .slice add gl capd] 51) := ⟨_, rfl⟩
      have bd : Below wd.heap.size wd WD := by rw [hWD]; exact (Below.refl _ _).alloc (Nat.le_refl _) _
      have gd : WD.heap[GD]? = some (.cells #[.int .i64 (sn : Nat), .string r, .slice add gl capd] 51) := by rw [hWD, hGD]; exact alloc_new _ _
      have kcd : Below wc.heap.size wc WD := kd.trans (bd.mono kd.size)
      have BD := hide (BC.out.trans (kcd.mono BC.out.size))
      have qd := keepB kcd QC.out
      have HSR := hide (same_reply WD (sn : Int) r add ya gl capd yn yc gs (sfd.below bd) (Y0.out.keep (fun h0 i o ei => BD.out.block i (Y0.out.lt h0 ei)) BD.out.size))
      have HWD : Hid (wd.alloc (.cells #[.int .i64 (sn : Nat), .string r, .slice add gl capd] 51) = WD) := hWD.symm
      have HGD := hide hGD.symm
      have e0 : WD.cell? ⟨GD, 0, none⟩ = some (.int .i64 (sn : Nat)) := by simp [World.cell?, gd]
      have e1 : WD.cell? ⟨GD, 1, none⟩ = some (.string r) := by simp [World.cell?, gd]
      have e2 : WD.cell? ⟨GD, 2, none⟩ = some (.slice add gl capd) := by simp [World.cell?, gd]
      have e3 : WD.cell? ⟨G1, 0, none⟩ = some (.int .i64 (sn : Nat)) := by simp [World.cell?, qd]
      have e4 : WD.cell? ⟨G1, 1, none⟩ = some (.string r) := by simp [World.cell?, qd]
      have e5 : WD.cell? ⟨G1, 2, none⟩ = some (.slice ya yn yc) := by simp [World.cell?, qd]
      have ll : ((yl : Int) == (yl : Int)) = true := by simp
      clear hgl hGD hWD bd gd kcd qd sfd hgd kd HRC AC BC TC QC
      go_wp2_with (first | (rw [HWD.out, HGD.out]))
      try (rw [HWD.out, HGD.out]; go_wp2_with fail)
      refine HSR.out.mono ?_
      rintro e wf ⟨rfl, kf⟩
      have BF := hide (BD.out.trans (kf.mono BD.out.size))
      clear kf HSR BD
      go_wp2_with fail
      go_ret
      exact ⟨rfl, BF.out⟩
    · have qyc : ((ycd : Int) == 0) = false := by simp; omega
      have qyn : ((ycd : Int) != 0) = true := by simp; omega
      have hyb : yb = [] := by
        have h1 := putY_bad (s := s) (r := byt r) (fs := gs) (by rw [HEQ.out]; exact hyc)
        rw [HEQ.out] at h1; exact h1
      subst hyb
      clear hyc
      go_wp2_with fail
      go_ret
      exact ⟨rfl, BA.out⟩
  · have qpc : ((pcd : Int) == 0) = false := by simp; omega
    clear hpc
    have HPY := hide (HPR.out w2 (Y0.out.keep (fun h0 i o ei => B2.out.block i (Y0.out.lt h0 ei)) B2.out.size) P2.out)
    unfold Wrote at HPY
    obtain ⟨PY, hPY⟩ : ∃ x, x = putY s (byt r) gs := ⟨_, rfl⟩
    rw [← hPY] at HPY
    obtain ⟨yb, ycd⟩ := PY
    simp only at HPY
    have HEQ := hide hPY.symm
    clear hPY
    have q10 : w2.cell? ⟨G1, 0, none⟩ = some (.int .i64 s) := by simp [World.cell?, Q2.out]
    have q11 : w2.cell? ⟨G1, 1, none⟩ = some (.string r) := by simp [World.cell?, Q2.out]
    have q12 : w2.cell? ⟨G1, 2, none⟩ = some (.slice ya yn yc) := by simp [World.cell?, Q2.out]
    go_wp2_with fail
    refine HPY.out.mono ?_
    rintro e wa ⟨pa, pcap, rfl, hsa, ka⟩
    have BA := hide (B2.out.trans (ka.mono B2.out.size))
    have TA := hide (T2.out.below ka)
    have QA := hide (keepB ka Q2.out)
    have SA := hide hsa
    clear hsa ka HPY q10 q11 q12
    by_cases hyc : ycd = 0
    · subst hyc
      obtain ⟨hre, hl8, hs0⟩ := putY_back HEQ.out more
      obtain ⟨sn, rfl⟩ : ∃ k : Nat, s = k := ⟨s.toNat, by omega⟩
      rw [Int.toNat_natCast] at hre
      have HRE := hide hre
      obtain ⟨yl, hyl⟩ : ∃ L, L = yb.length := ⟨_, rfl⟩
      rw [← hyl] at SA hl8 ⊢
      rw [← hyl] at HRE
      have HYL := hide hyl
      have HBY := hide (bytes_at pa yl pcap yb wa SA.out (by omega))
      clear hre hyl hs0
      go_wp2_with fail
      refine HBY.out.mono ?_
      rintro e wb ⟨vb, rfl, ob, kb⟩
      have b0b := BA.out.trans (kb.mono BA.out.size)
      obtain ⟨vc, wc, ac, oc, bc⟩ := run_app ob (M0.out.keep (fun h0 i o ei => b0b.block i (M0.out.lt h0 ei)) b0b.size) (by rw [← HYL.out]; omega) kb.size
      obtain ⟨xc', cc', rfl, sc, _⟩ := own_src oc (by intro x hx; rcases List.mem_append.1 hx with h | h; exact SA.out.byte x h; exact M0.out.byte x h)
      have kac : Below wa.heap.size wa wc := kb.trans bc
      have BC := hide (BA.out.trans (kac.mono BA.out.size))
      have TC := hide (TA.out.below kac)
      have QC := hide (keepB kac QA.out)
      have HRC := hide (reply_at xc' _ cc' (yb ++ more) wc sc TC.out.v TC.out.e)
      rw [HRE.out] at HRC
      unfold ryC at HRC
      simp only [strN_byt] at HRC
      have AC := hide ac
      clear ob kb b0b ac oc bc sc kac HBY BA TA QA
      generalize (yb ++ more).length = FL at AC HRC
      go_wp2_with (first | (refine wpList_app_run _ rfl _ _ 22 22 rfl _ _ rfl rfl AC.out ?_))
      refine HRC.out.mono ?_
      rintro e wd ⟨add, capd, vd, rfl, sfd, hgd, kd⟩
      obtain rfl := hgd.nil rfl
      obtain ⟨gl, hgl⟩ : ∃ L, L = gs.length := ⟨_, rfl⟩
      rw [← hgl] at sfd ⊢
      obtain ⟨GD, hGD⟩ : ∃ G, G = wd.heap.size := ⟨_, rfl⟩
      obtain ⟨WD, hWD⟩ : ∃ W, W = wd.alloc (.cells #[.int .i64 (sn : Nat), .string r, .slice add gl capd] 51) := ⟨_, rfl⟩
      have bd : Below wd.heap.size wd WD := by rw [hWD]; exact (Below.refl _ _).alloc (Nat.le_refl _) _
      have gd : WD.heap[GD]? = some (.cells #[.int .i64 (sn : Nat), .string r, .slice add gl capd] 51) := by rw [hWD, hGD]; exact alloc_new _ _
      have kcd : Below wc.heap.size wc WD := kd.trans (bd.mono kd.size)
      have BD := hide (BC.out.trans (kcd.mono BC.out.size))
      have qd := keepB kcd QC.out
      have HSR := hide (same_reply WD (sn : Int) r add ya gl capd yn yc gs (sfd.below bd) (Y0.out.keep (fun h0 i o ei => BD.out.block i (Y0.out.lt h0 ei)) BD.out.size))
      have HWD : Hid (wd.alloc (.cells #[.int .i64 (sn : Nat), .string r, .slice add gl capd] 51) = WD) := hWD.symm
      have HGD := hide hGD.symm
      have e0 : WD.cell? ⟨GD, 0, none⟩ = some (.int .i64 (sn : Nat)) := by simp [World.cell?, gd]
      have e1 : WD.cell? ⟨GD, 1, none⟩ = some (.string r) := by simp [World.cell?, gd]
      have e2 : WD.cell? ⟨GD, 2, none⟩ = some (.slice add gl capd) := by simp [World.cell?, gd]
      have e3 : WD.cell? ⟨G1, 0, none⟩ = some (.int .i64 (sn : Nat)) := by simp [World.cell?, qd]
      have e4 : WD.cell? ⟨G1, 1, none⟩ = some (.string r) := by simp [World.cell?, qd]
      have e5 : WD.cell? ⟨G1, 2, none⟩ = some (.slice ya yn yc) := by simp [World.cell?, qd]
      have ll : ((yl : Int) == (yl : Int)) = true := by simp
      clear hgl hGD hWD bd gd kcd qd sfd hgd kd HRC AC BC TC QC
      go_wp2_with (first | (rw [HWD.out, HGD.out]))
      try (rw [HWD.out, HGD.out]; go_wp2_with fail)
      refine HSR.out.mono ?_
      rintro e wf ⟨rfl, kf⟩
      have BF := hide (BD.out.trans (kf.mono BD.out.size))
      clear kf HSR BD
      go_wp2_with fail
      go_ret
      exact ⟨rfl, BF.out⟩
    · have qyc : ((ycd : Int) == 0) = false := by simp; omega
      have qyn : ((ycd : Int) != 0) = true := by simp; omega
      have hyb : yb = [] := by
        have h1 := putY_bad (s := s) (r := byt r) (fs := gs) (by rw [HEQ.out]; exact hyc)
        rw [HEQ.out] at h1; exact h1
      subst hyb
      clear hyc
      go_wp2_with fail
      go_ret
      exact ⟨rfl, BA.out⟩
end Go.Proofs.YthbnbnfhbkekpaaGreatDoor
