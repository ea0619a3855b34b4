/-
  FiveWrites' walk; conditions as each theorem has them.
-/
import Derived.Test.YtefgjmijbedbkaaDoorWK
import Derived.Test.YtefgjmijbedbkaaDoorPE
set_option linter.unusedSimpArgs false
set_option linter.unusedVariables false
namespace Go.Proofs.YtefgjmijbedbkaaDoor
open Go.RowKit

set_option maxRecDepth 100000 in
set_option maxHeartbeats 8000000 in
theorem writes_walk (a : Option Addr) (n c : Nat) (zs : List Int) (us ps : ByteArray) (k : Int) (A : Ad) (t : ByteArray) (p : Int) (w : World) (hV : Vars w) (h : SrcI w a n c zs) (hn : n * 8 ≤ 140737488351232) (hu : us.size ≤ maxLen) (hu2 : us.size ≤ 140737488355328) (hp : ps.size ≤ maxLen) (hp2 : ps.size ≤ 140737488355328) (hk : -9223372036854775808 ≤ k ∧ k ≤ 9223372036854775807) (ha : A.ok) (ht : t.size ≤ maxLen) (hwf : -9223372036854775808 ≤ p ∧ p ≤ 9223372036854775807) :
    Calls Tryd.prog 4 #[.slice a n c, .string us, .string ps, .int .i64 k, deV A t p] w fun e w' => e = .returned (.bool true) ∧ Below w.heap.size w w' := by
  obtain ⟨A0, A1, A2, A3⟩ := A
  have b0 : Below w.heap.size w (w.alloc (.cells #[.int .u8 (A0 : Nat), .int .u8 (A1 : Nat), .int .u8 (A2 : Nat), .int .u8 (A3 : Nat), .string t, .int .i64 p] 47)) := (Below.refl _ _).alloc (Nat.le_refl _) _
  obtain ⟨W0, hW0⟩ : ∃ W, W = w.alloc (.cells #[.int .u8 (A0 : Nat), .int .u8 (A1 : Nat), .int .u8 (A2 : Nat), .int .u8 (A3 : Nat), .string t, .int .i64 p] 47) := ⟨_, rfl⟩
  rw [← hW0] at b0
  have r0 : W0.heap[w.heap.size]? = some (.cells #[.int .u8 (A0 : Nat), .int .u8 (A1 : Nat), .int .u8 (A2 : Nat), .int .u8 (A3 : Nat), .string t, .int .i64 p] 47) := by rw [hW0]; exact alloc_new _ _
  have SB : Hid (∀ W : World, Below w.heap.size w W → SrcI W a n c zs) := fun W k => h.keep (fun h0 i o ei => k.block i (h.lt h0 ei)) k.size
  have B0 := hide b0
  have V0 := hide (hV.below b0)
  have R0 := hide r0
  have HI := hide (ints_at a n c zs W0 (SB.out W0 b0) (by omega))
  have HW0 := hide hW0.symm
  have HU := hide hu
  have HPS := hide hp
  have HT := hide ht
  have HA := hide ha
  have HWF := hide hwf
  simp only [deV]
  clear b0 r0 hW0 h hV hu hp ht ha hwf hk hu2 hp2
  go_enter Tryd.func4, Tryd.ntmps4
  go_wp2_with fail
  rw [HW0.out]
  refine HI.out.mono ?_
  rintro e w1 ⟨xo, co, rfl, si1, hb1⟩
  have B1 := hide (B0.out.trans (hb1.mono B0.out.size))
  have V1 := hide (V0.out.below hb1)
  have R1 := hide (keepB hb1 R0.out)
  have SI1 := hide si1
  have HG := hide (putGreeting_at xo n co zs w1 si1)
  clear si1 hb1 HI
  obtain ⟨l1, m1, hE1⟩ : ∃ l m, putGr zs = (l, m) := ⟨_, _, rfl⟩
  rw [hE1] at HG
  go_wp2_with fail
  refine HG.out.mono ?_
  rintro e w2 ⟨x2, y2, rfl, s2, hb2⟩
  have B2 := hide (B1.out.trans (hb2.mono B1.out.size))
  have V2 := hide (V1.out.below hb2)
  have R2 := hide (keepB hb2 R1.out)
  have SI2 := hide (SI1.out.below hb2)
  have S2 := hide s2
  have HG2 := hide (rputGreeting_at a n c zs w2 (SB.out w2 B2.out))
  rw [hE1] at HG2
  clear s2 hb2 HG hE1
  simp only at S2 HG2 ⊢
  go_wp2_with fail
  refine HG2.out.mono ?_
  rintro e w3 ⟨x3, y3, rfl, s3, hb3⟩
  have B3 := hide (B2.out.trans (hb3.mono B2.out.size))
  have V3 := hide (V2.out.below hb3)
  have R3 := hide (keepB hb3 R2.out)
  have HSB := hide (same_bytes w3 x2 x3 _ y2 _ y3 l1 (S2.out.below hb3) s3)
  have HSI := hide (same_ints w3 xo a n co n c zs (SI2.out.below hb3) (SB.out w3 B3.out))
  clear s3 hb3 HG2 S2
  go_wp2_with fail
  refine HSB.out.mono ?_
  rintro e w4 ⟨rfl, rfl⟩
  go_wp2_with fail
  refine HSI.out.mono ?_
  rintro e w4 ⟨rfl, hb4⟩
  have B4 := hide (B3.out.trans (hb4.mono B3.out.size))
  have V4 := hide (V3.out.below hb4)
  have R4 := hide (keepB hb4 R3.out)
  clear hb4 HSI HSB
  obtain ⟨l2, m2, hE2⟩ : ∃ l m, putLg (byt us) (byt ps) = (l, m) := ⟨_, _, rfl⟩
  have HC5 := hide (putLogin_at us ps w4 HU.out HPS.out)
  rw [hE2] at HC5
  go_wp2_with fail
  refine HC5.out.mono ?_
  rintro e w5 ⟨x5, y5, rfl, s5, hb5⟩
  simp only at s5 ⊢
  have B5 := hide (B4.out.trans (hb5.mono B4.out.size))
  have V5 := hide (V4.out.below hb5)
  have R5 := hide (keepB hb5 R4.out)
  have S5 := hide s5
  clear s5 hb5 HC5
  have HC6 := hide (rputLogin_at us ps w5 HU.out HPS.out)
  rw [hE2] at HC6
  go_wp2_with fail
  refine HC6.out.mono ?_
  rintro e w6 ⟨x6, y6, rfl, s6, hb6⟩
  simp only at s6 ⊢
  have B6 := hide (B5.out.trans (hb6.mono B5.out.size))
  have V6 := hide (V5.out.below hb6)
  have R6 := hide (keepB hb6 R5.out)
  have S6 := hide s6
  have S5 := hide (S5.out.below hb6)
  clear s6 hb6 HC6
  have HS56 := hide (same_bytes w6 x5 x6 _ y5 _ y6 l2 S5.out S6.out)
  go_wp2_with fail
  refine HS56.out.mono ?_
  rintro e wx56 ⟨rfl, rfl⟩
  clear hE2 HS56
  obtain ⟨l3, m3, hE3⟩ : ∃ l m, putRq k (A0, A1, A2, A3) (byt t) p = (l, m) := ⟨_, _, rfl⟩
  have HC7 := hide (putRequest_at k (A0, A1, A2, A3) t p w6 V6.out HA.out HT.out HWF.out)
  rw [hE3] at HC7
  simp only [deV] at HC7
  have rr6 := R6.out
  have k0 : w6.cell? ⟨w.heap.size, 0, none⟩ = some (.int .u8 (A0 : Nat)) := by simp [World.cell?, rr6]
  have k1 : w6.cell? ⟨w.heap.size, 1, none⟩ = some (.int .u8 (A1 : Nat)) := by simp [World.cell?, rr6]
  have k2 : w6.cell? ⟨w.heap.size, 2, none⟩ = some (.int .u8 (A2 : Nat)) := by simp [World.cell?, rr6]
  have k3 : w6.cell? ⟨w.heap.size, 3, none⟩ = some (.int .u8 (A3 : Nat)) := by simp [World.cell?, rr6]
  have k4 : w6.cell? ⟨w.heap.size, 4, none⟩ = some (.string t) := by simp [World.cell?, rr6]
  have k5 : w6.cell? ⟨w.heap.size, 5, none⟩ = some (.int .i64 p) := by simp [World.cell?, rr6]
  clear rr6
  go_wp2_with fail
  refine HC7.out.mono ?_
  rintro e w7 ⟨x7, y7, rfl, s7, hb7⟩
  simp only at s7 ⊢
  have B7 := hide (B6.out.trans (hb7.mono B6.out.size))
  have V7 := hide (V6.out.below hb7)
  have R7 := hide (keepB hb7 R6.out)
  have S7 := hide s7
  clear s7 hb7 HC7 k0 k1 k2 k3 k4 k5
  have HC8 := hide (rputRequest_at k (A0, A1, A2, A3) t p w7 HA.out HT.out HWF.out)
  rw [hE3] at HC8
  simp only [deV] at HC8
  have rr7 := R7.out
  have k0 : w7.cell? ⟨w.heap.size, 0, none⟩ = some (.int .u8 (A0 : Nat)) := by simp [World.cell?, rr7]
  have k1 : w7.cell? ⟨w.heap.size, 1, none⟩ = some (.int .u8 (A1 : Nat)) := by simp [World.cell?, rr7]
  have k2 : w7.cell? ⟨w.heap.size, 2, none⟩ = some (.int .u8 (A2 : Nat)) := by simp [World.cell?, rr7]
  have k3 : w7.cell? ⟨w.heap.size, 3, none⟩ = some (.int .u8 (A3 : Nat)) := by simp [World.cell?, rr7]
  have k4 : w7.cell? ⟨w.heap.size, 4, none⟩ = some (.string t) := by simp [World.cell?, rr7]
  have k5 : w7.cell? ⟨w.heap.size, 5, none⟩ = some (.int .i64 p) := by simp [World.cell?, rr7]
  clear rr7
  go_wp2_with fail
  refine HC8.out.mono ?_
  rintro e w8 ⟨x8, y8, rfl, s8, hb8⟩
  simp only at s8 ⊢
  have B8 := hide (B7.out.trans (hb8.mono B7.out.size))
  have V8 := hide (V7.out.below hb8)
  have R8 := hide (keepB hb8 R7.out)
  have S8 := hide s8
  have S7 := hide (S7.out.below hb8)
  clear s8 hb8 HC8 k0 k1 k2 k3 k4 k5
  have HC9 := hide (putReply_at k (A0, A1, A2, A3) t p w8 V8.out HA.out HT.out HWF.out)
  rw [hE3] at HC9
  simp only [deV] at HC9
  have rr8 := R8.out
  have k0 : w8.cell? ⟨w.heap.size, 0, none⟩ = some (.int .u8 (A0 : Nat)) := by simp [World.cell?, rr8]
  have k1 : w8.cell? ⟨w.heap.size, 1, none⟩ = some (.int .u8 (A1 : Nat)) := by simp [World.cell?, rr8]
  have k2 : w8.cell? ⟨w.heap.size, 2, none⟩ = some (.int .u8 (A2 : Nat)) := by simp [World.cell?, rr8]
  have k3 : w8.cell? ⟨w.heap.size, 3, none⟩ = some (.int .u8 (A3 : Nat)) := by simp [World.cell?, rr8]
  have k4 : w8.cell? ⟨w.heap.size, 4, none⟩ = some (.string t) := by simp [World.cell?, rr8]
  have k5 : w8.cell? ⟨w.heap.size, 5, none⟩ = some (.int .i64 p) := by simp [World.cell?, rr8]
  clear rr8
  go_wp2_with fail
  refine HC9.out.mono ?_
  rintro e w9 ⟨x9, y9, rfl, s9, hb9⟩
  simp only at s9 ⊢
  have B9 := hide (B8.out.trans (hb9.mono B8.out.size))
  have V9 := hide (V8.out.below hb9)
  have R9 := hide (keepB hb9 R8.out)
  have S9 := hide s9
  have S7 := hide (S7.out.below hb9)
  have S8 := hide (S8.out.below hb9)
  clear s9 hb9 HC9 k0 k1 k2 k3 k4 k5
  have HS78 := hide (same_bytes w9 x7 x8 _ y7 _ y8 l3 S7.out S8.out)
  have HS98 := hide (same_bytes w9 x9 x8 _ y9 _ y8 l3 S9.out S8.out)
  go_wp2_with fail
  refine HS78.out.mono ?_
  rintro e wx78 ⟨rfl, rfl⟩
  go_wp2_with fail
  refine HS98.out.mono ?_
  rintro e wx98 ⟨rfl, rfl⟩
  clear hE3 HS78 HS98
  obtain ⟨l4, m4, hE4⟩ : ∃ l m, two1 5 k = (l, m) := ⟨_, _, rfl⟩
  obtain ⟨l5, m5, hE5⟩ : ∃ l m, two1 1 k = (l, m) := ⟨_, _, rfl⟩
  have HC10 := hide (putChoice_at k w9)
  rw [hE4] at HC10
  go_wp2_with fail
  refine HC10.out.mono ?_
  rintro e w10 ⟨x10, y10, rfl, s10, hb10⟩
  simp only at s10 ⊢
  have B10 := hide (B9.out.trans (hb10.mono B9.out.size))
  have V10 := hide (V9.out.below hb10)
  have R10 := hide (keepB hb10 R9.out)
  have S10 := hide s10
  clear s10 hb10 HC10
  have HC11 := hide (rputTwo_at 5 k w10 (by omega))
  rw [hE4] at HC11
  go_wp2_with fail
  refine HC11.out.mono ?_
  rintro e w11 ⟨x11, y11, rfl, s11, hb11⟩
  simp only at s11 ⊢
  have B11 := hide (B10.out.trans (hb11.mono B10.out.size))
  have V11 := hide (V10.out.below hb11)
  have R11 := hide (keepB hb11 R10.out)
  have S11 := hide s11
  have S10 := hide (S10.out.below hb11)
  clear s11 hb11 HC11
  have HC12 := hide (putVerdict_at k w11)
  rw [hE5] at HC12
  go_wp2_with fail
  refine HC12.out.mono ?_
  rintro e w12 ⟨x12, y12, rfl, s12, hb12⟩
  simp only at s12 ⊢
  have B12 := hide (B11.out.trans (hb12.mono B11.out.size))
  have V12 := hide (V11.out.below hb12)
  have R12 := hide (keepB hb12 R11.out)
  have S12 := hide s12
  have S10 := hide (S10.out.below hb12)
  have S11 := hide (S11.out.below hb12)
  clear s12 hb12 HC12
  have HC13 := hide (rputTwo_at 1 k w12 (by omega))
  rw [hE5] at HC13
  go_wp2_with fail
  refine HC13.out.mono ?_
  rintro e w13 ⟨x13, y13, rfl, s13, hb13⟩
  simp only at s13 ⊢
  have B13 := hide (B12.out.trans (hb13.mono B12.out.size))
  have V13 := hide (V12.out.below hb13)
  have R13 := hide (keepB hb13 R12.out)
  have S13 := hide s13
  have S10 := hide (S10.out.below hb13)
  have S11 := hide (S11.out.below hb13)
  have S12 := hide (S12.out.below hb13)
  clear s13 hb13 HC13
  have HS1011 := hide (same_bytes w13 x10 x11 _ y10 _ y11 l4 S10.out S11.out)
  have HS1213 := hide (same_bytes w13 x12 x13 _ y12 _ y13 l5 S12.out S13.out)
  have HWK := hide (works_at w13 V13.out)
  go_wp2_with fail
  refine HS1011.out.mono ?_
  rintro e wx1011 ⟨rfl, rfl⟩
  go_wp2_with fail
  refine HS1213.out.mono ?_
  rintro e wx1213 ⟨rfl, rfl⟩
  go_wp2_with fail
  refine HWK.out.mono ?_
  rintro e w14 ⟨rfl, hb14⟩
  have B14 := hide (B13.out.trans (hb14.mono B13.out.size))
  clear hb14
  go_wp2_with fail
  go_ret
  exact ⟨by first | rfl | simp, B14.out⟩
end Go.Proofs.YtefgjmijbedbkaaDoor
