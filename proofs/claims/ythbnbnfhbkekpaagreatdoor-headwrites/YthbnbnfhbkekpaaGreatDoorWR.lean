/-
  HeadWrites' walk; conditions as each theorem has them.
-/
import Derived.Test.YthbnbnfhbkekpaaGreatDoorRT
import Derived.Test.YthbnbnfhbkekpaaGreatDoorT
set_option linter.unusedSimpArgs false
set_option linter.unusedVariables false
namespace Go.Proofs.YthbnbnfhbkekpaaGreatDoor
open Go.RowKit

set_option maxRecDepth 100000 in
set_option maxHeartbeats 8000000 in
theorem writes_walk (pv : Value) (m : ByteArray) (A : Ad) (h : ByteArray) (p : Int) (t : ByteArray) (xa : Option Addr) (xn xc : Nat) (fs : List Fd) (qv : Value) (s : Int) (r : ByteArray) (ya : Option Addr) (yn yc : Nat) (gs : List Fd) (w : World) (hT : Tabs w ∧ Pow w) (hq : IsRq w pv m A h p t xa xn xc fs) (hy : IsRy w qv s r ya yn yc gs) :
    Calls Tryz.prog 4 #[pv, qv] w fun e w' => e = .returned (.bool true) ∧ Below w.heap.size w w' := by
  obtain ⟨rfl, ok, hm, hh, hp, ht, src, sht, len⟩ := hq
  obtain ⟨rfl, hs, hr, src2, sht2, len2⟩ := hy
  obtain ⟨A0, A1, A2, A3⟩ := A
  unfold rqV ryV
  obtain ⟨G0, hG0⟩ : ∃ G, G = w.heap.size := ⟨_, rfl⟩
  obtain ⟨G1, hG1⟩ : ∃ G, G = w.heap.size + 1 := ⟨_, rfl⟩
  obtain ⟨W0, hW0⟩ : ∃ W, W = (w.alloc (.cells #[.string m, .int .u8 (A0 : Nat), .int .u8 (A1 : Nat), .int .u8 (A2 : Nat), .int .u8 (A3 : Nat), .string h, .int .i64 p, .string t, .slice xa xn xc] 44)).alloc (.cells #[.int .i64 s, .string r, .slice ya yn yc] 51) := ⟨_, rfl⟩
  have b0 : Below w.heap.size w W0 := by rw [hW0]; exact ((Below.refl _ _).alloc (Nat.le_refl _) _).alloc (by simp) _
  have g0 : W0.heap[G0]? = some (.cells #[.string m, .int .u8 (A0 : Nat), .int .u8 (A1 : Nat), .int .u8 (A2 : Nat), .int .u8 (A3 : Nat), .string h, .int .i64 p, .string t, .slice xa xn xc] 44) := by rw [hW0, hG0]; exact alloc_old _ (alloc_new _ _)
  have g1 : W0.heap[G1]? = some (.cells #[.int .i64 s, .string r, .slice ya yn yc] 51) := by rw [hW0, hG1]; exact alloc_new2 _ _ _
  have HW0 : Hid ((w.alloc (.cells #[.string m, .int .u8 (A0 : Nat), .int .u8 (A1 : Nat), .int .u8 (A2 : Nat), .int .u8 (A3 : Nat), .string h, .int .i64 p, .string t, .slice xa xn xc] 44)).alloc (.cells #[.int .i64 s, .string r, .slice ya yn yc] 51) = W0) := hW0.symm
  have HG0 := hide hG0.symm
  have HG1 := hide hG1.symm
  have R0 := hide g0
  have Q0 := hide g1
  have X0 := hide src
  have Y0 := hide src2
  have T0 := hide (hT.1.below b0)
  have P0 := hide (hT.2.below b0)
  have B0 := hide b0
  obtain ⟨PQ, hPQ⟩ : ∃ x, x = putQ (byt m) (det (A0, A1, A2, A3) (byt h) p) (byt t) fs := ⟨_, rfl⟩
  obtain ⟨PY, hPY⟩ : ∃ x, x = putY s (byt r) gs := ⟨_, rfl⟩
  have HPQ : Hid (∀ W xo xm co, SrcF W xo xm co fs → Vars W → Pow W → Calls Tryz.prog 22 #[.agg #[.string m, .int .u8 (A0 : Nat), .int .u8 (A1 : Nat), .int .u8 (A2 : Nat), .int .u8 (A3 : Nat), .string h, .int .i64 p, .string t, .slice xo xm co]] W (Wrote PQ W)) := fun W xo xm co h1 h2 h3 => by
    rw [hPQ]; exact putRequest_at m (A0, A1, A2, A3) h p t xo xm co fs W ok (by unfold maxLen; omega) hh (by unfold maxLen; omega) h1 (fun f hf => by have := sht f hf; unfold maxLen; omega) h2 h3
  have HRQ : Hid (∀ W, SrcF W xa xn xc fs → Calls Tryz.prog 23 #[.agg #[.string m, .int .u8 (A0 : Nat), .int .u8 (A1 : Nat), .int .u8 (A2 : Nat), .int .u8 (A3 : Nat), .string h, .int .i64 p, .string t, .slice xa xn xc]] W (Wrote PQ W)) := fun W h1 => by
    rw [hPQ]; exact rputRequest_at m (A0, A1, A2, A3) h p t xa xn xc fs W ok hm hh ht h1 sht
  have HPR : Hid (∀ W, SrcF W ya yn yc gs → Pow W → Calls Tryz.prog 24 #[.agg #[.int .i64 s, .string r, .slice ya yn yc]] W (Wrote PY W)) := fun W h1 h3 => by
    rw [hPY]; exact putReply_at s r ya yn yc gs W h1 (fun f hf => by have := sht2 f hf; unfold maxLen; omega) h3
  have HRR : Hid (∀ W, SrcF W ya yn yc gs → Calls Tryz.prog 25 #[.agg #[.int .i64 s, .string r, .slice ya yn yc]] W (Wrote PY W)) := fun W h1 => by
    rw [hPY]; exact rputReply_at s r ya yn yc gs W hr h1 sht2
  unfold Wrote at HPQ HRQ HPR HRR
  obtain ⟨pb, pc⟩ := PQ
  obtain ⟨yb, yd⟩ := PY
  simp only at HPQ HRQ HPR HRR
  have HCP := hide (copyF_at xa xn xc fs W0 (src.below b0) (by omega))
  have c8 : W0.cell? ⟨G0, 8, none⟩ = some (.slice xa xn xc) := by simp [World.cell?, g0]
  clear hW0 hG0 hG1 g0 g1 b0 hT src src2 ok hm hh hp ht sht sht2 len len2 hs hr hPQ hPY
  go_enter Tryz.func4, Tryz.ntmps4
  go_wp2_with (first | (rw [HW0.out, HG1.out, HG0.out]))
  try (rw [HW0.out, HG1.out, HG0.out]; go_wp2_with fail)
  refine HCP.out.mono ?_
  rintro e w1 ⟨v1, rfl, o1, k1⟩
  obtain ⟨xo, co, rfl, so, _⟩ := o1.src X0.out.byte
  rw [X0.out.hlen] at so ⊢
  have B1 := hide (B0.out.trans (k1.mono B0.out.size))
  have T1 := hide (T0.out.below k1)
  have P1 := hide (P0.out.below k1)
  have r1 := keepB k1 R0.out
  have R1 := hide r1
  have Q1 := hide (keepB k1 Q0.out)
  have S1 := hide so
  have e0 : w1.cell? ⟨G0, 0, none⟩ = some (.string m) := by simp [World.cell?, r1]
  have e1 : w1.cell? ⟨G0, 1, none⟩ = some (.int .u8 (A0 : Nat)) := by simp [World.cell?, r1]
  have e2 : w1.cell? ⟨G0, 2, none⟩ = some (.int .u8 (A1 : Nat)) := by simp [World.cell?, r1]
  have e3 : w1.cell? ⟨G0, 3, none⟩ = some (.int .u8 (A2 : Nat)) := by simp [World.cell?, r1]
  have e4 : w1.cell? ⟨G0, 4, none⟩ = some (.int .u8 (A3 : Nat)) := by simp [World.cell?, r1]
  have e5 : w1.cell? ⟨G0, 5, none⟩ = some (.string h) := by simp [World.cell?, r1]
  have e6 : w1.cell? ⟨G0, 6, none⟩ = some (.int .i64 p) := by simp [World.cell?, r1]
  have e7 : w1.cell? ⟨G0, 7, none⟩ = some (.string t) := by simp [World.cell?, r1]
  clear k1 o1 so r1 c8 HCP B0 T0 P0 R0 Q0
  go_wp2_with fail
  refine (HPQ.out w1 xo xn co S1.out T1.out.v P1.out).mono ?_
  rintro e w2 ⟨pa, pcap, rfl, hs2, k2⟩
  have B2 := hide (B1.out.trans (k2.mono B1.out.size))
  have T2 := hide (T1.out.below k2)
  have P2 := hide (P1.out.below k2)
  have R2 := hide (keepB k2 R1.out)
  have Q2 := hide (keepB k2 Q1.out)
  have S2 := hide (S1.out.below k2)
  have PA2 := hide hs2
  clear k2 hs2 B1 T1 P1 R1 Q1 S1 HPQ e0 e1 e2 e3 e4 e5 e6 e7
  go_wp2_with (first | (refine wpList_load_rowG rfl 44 _ rfl G0 rfl 44 #[.string m, .int .u8 (A0 : Nat), .int .u8 (A1 : Nat), .int .u8 (A2 : Nat), .int .u8 (A3 : Nat), .string h, .int .i64 p, .string t, .slice xa xn xc] (0, 0) _ R2.out Tryz.underlying44 rfl info44 ?_))
  refine (HRQ.out w2 (X0.out.keep (fun h0 i o ei => B2.out.block i (X0.out.lt h0 ei)) B2.out.size)).mono ?_
  rintro e w3 ⟨qa, qcap, rfl, hs3, k3⟩
  have B3 := hide (B2.out.trans (k3.mono B2.out.size))
  have T3 := hide (T2.out.below k3)
  have P3 := hide (P2.out.below k3)
  have R3 := hide (keepB k3 R2.out)
  have q3 := keepB k3 Q2.out
  have Q3 := hide q3
  have S3 := hide (S2.out.below k3)
  have PA3 := hide (PA2.out.below k3)
  have QA3 := hide hs3
  have f0 : w3.cell? ⟨G1, 0, none⟩ = some (.int .i64 s) := by simp [World.cell?, q3]
  have f1 : w3.cell? ⟨G1, 1, none⟩ = some (.string r) := by simp [World.cell?, q3]
  have f2 : w3.cell? ⟨G1, 2, none⟩ = some (.slice ya yn yc) := by simp [World.cell?, q3]
  clear k3 hs3 q3 B2 T2 P2 R2 Q2 S2 PA2 HRQ
  go_wp2_with fail
  refine (HPR.out w3 (Y0.out.keep (fun h0 i o ei => B3.out.block i (Y0.out.lt h0 ei)) B3.out.size) P3.out).mono ?_
  rintro e w4 ⟨ca, ccap, rfl, hs4, k4⟩
  have B4 := hide (B3.out.trans (k4.mono B3.out.size))
  have T4 := hide (T3.out.below k4)
  have R4 := hide (keepB k4 R3.out)
  have q4 := keepB k4 Q3.out
  have S4 := hide (S3.out.below k4)
  have PA4 := hide (PA3.out.below k4)
  have QA4 := hide (QA3.out.below k4)
  have CA4 := hide hs4
  have g0 : w4.cell? ⟨G1, 0, none⟩ = some (.int .i64 s) := by simp [World.cell?, q4]
  have g1 : w4.cell? ⟨G1, 1, none⟩ = some (.string r) := by simp [World.cell?, q4]
  have g2 : w4.cell? ⟨G1, 2, none⟩ = some (.slice ya yn yc) := by simp [World.cell?, q4]
  clear k4 hs4 q4 B3 T3 P3 R3 Q3 S3 PA3 QA3 HPR f0 f1 f2
  go_wp2_with fail
  refine (HRR.out w4 (Y0.out.keep (fun h0 i o ei => B4.out.block i (Y0.out.lt h0 ei)) B4.out.size)).mono ?_
  rintro e w5 ⟨da, dcap, rfl, hs5, k5⟩
  have B5 := hide (B4.out.trans (k5.mono B4.out.size))
  have T5 := hide (T4.out.below k5)
  have r5 := keepB k5 R4.out
  have S5 := hide (S4.out.below k5)
  have HB1 := hide (same_bytes w5 pa qa _ pcap _ qcap pb (PA4.out.below k5) (QA4.out.below k5))
  have HB2 := hide (same_bytes w5 ca da _ ccap _ dcap yb (CA4.out.below k5) hs5)
  have HSF := hide (same_fields w5 xo xa xn co xn xc fs S5.out (X0.out.keep (fun h0 i o ei => B5.out.block i (X0.out.lt h0 ei)) B5.out.size))
  have h8 : w5.cell? ⟨G0, 8, none⟩ = some (.slice xa xn xc) := by simp [World.cell?, r5]
  have pp : ((pc : Int) == (pc : Int)) = true := by simp
  have yy : ((yd : Int) == (yd : Int)) = true := by simp
  clear k5 hs5 r5 B4 T4 R4 S4 PA4 QA4 CA4 HRR g0 g1 g2
  go_wp2_with fail
  refine HB1.out.mono ?_
  rintro e w6 ⟨rfl, rfl⟩
  go_wp2_with fail
  refine HB2.out.mono ?_
  rintro e w7 ⟨rfl, rfl⟩
  go_wp2_with fail
  refine HSF.out.mono ?_
  rintro e w8 ⟨rfl, k8⟩
  have B8 := hide (B5.out.trans (k8.mono B5.out.size))
  have HWK := hide (works_at w8 (T5.out.below k8))
  clear k8 HB1 HB2 HSF B5 T5 S5 h8
  go_wp2_with fail
  refine HWK.out.mono ?_
  rintro e w9 ⟨rfl, k9⟩
  have B9 := hide (B8.out.trans (k9.mono B8.out.size))
  clear k9 HWK B8
  go_wp2_with fail
  go_ret
  exact ⟨rfl, B9.out⟩
end Go.Proofs.YthbnbnfhbkekpaaGreatDoor
