/-
  The chapter's examples ('works' of the statements); conditions as each theorem has them.
-/
import Derived.Test.YtefgjmijbedbkaaDoorY
import Derived.Test.YtefgjmijbedbkaaDoorZ
set_option linter.unusedSimpArgs false
set_option linter.unusedVariables false
namespace Go.Proofs.YtefgjmijbedbkaaDoor
open Go.RowKit

theorem ex1 : greet [5, 1, 0, 255] = ([0], 3, .ok) := by decide +kernel
theorem name_a : name [97] = ([97], .ok) := by
  have hl : labB [97] = true := (labB_iff [97]).2 ⟨by simp, by simp, fun i hi => by
    have : i = 0 := by simpa using hi
    subst this
    decide +kernel⟩
  have hp : pcs [97] = [[97]] := by decide +kernel
  unfold name
  rw [if_neg (by simp), hp]
  unfold labs
  rw [if_pos hl]
  unfold labs
  simp only []
  rw [if_neg (by decide +kernel)]
  decide +kernel
theorem ex2 : req [5, 1, 0, 3, 1, 97, 0, 80] = (1, (noA, [97], 80), 8, .ok) := by
  have ht : txt [5, 1, 0, 3, 1, 97, 0, 80] 4 253 = ([97], 6, .ok) := by decide +kernel
  have hv : ver [5, 1, 0, 3, 1, 97, 0, 80] 5 = .ok := by decide +kernel
  have hp : place [5, 1, 0, 3, 1, 97, 0, 80] = ((noA, [97]), 6, .ok) := by
    unfold place
    rw [if_neg (by simp), if_neg (by simp), if_pos (by simp), ht]
    simp only [if_true, name_a]
  unfold req
  rw [if_neg (by rw [hv]; simp), if_neg (by simp), if_neg (by simp), hp]
  simp
theorem ex3 : req [5, 1, 0, 4] = (0, noD, 0, .one 3 71) := by
  have hv : ver [5, 1, 0, 4] 5 = .ok := by decide +kernel
  have hp : place [5, 1, 0, 4] = ((noA, []), 0, .one 3 71) := by
    unfold place
    rw [if_neg (by simp), if_neg (by simp), if_neg (by simp)]
  unfold req
  rw [if_neg (by rw [hv]; simp), if_neg (by simp), if_neg (by simp), hp]
  simp
/-- Bytes in a slice of their own. -/
theorem src_lit (w : World) (l : List Nat) (C : Array Value) (hC : C = (nums .u8 l).toArray) (n : Nat) (hn : n = l.length) (hb : ∀ x ∈ l, x < 256) (hl : l.length ≤ 1000) : Src (w.alloc (.cells C 5)) (some ⟨w.heap.size, 0, none⟩) n n l := by
  subst hn
  refine ⟨rfl, Nat.le_refl _, by unfold maxLen; omega, (by intro e; cases e), fun _ => ⟨w.heap.size, 0, rfl, by simp, fun i hi => ?_⟩, hb⟩
  have r := Row.new w C 5
  rw [hC] at r ⊢
  rw [Nat.zero_add]
  exact r.num0 (j := i) (l := l) hi
set_option maxRecDepth 100000 in
set_option maxHeartbeats 4000000 in
theorem works_at (w : World) (hV : Vars w) : Calls Tryd.prog 23 #[] w fun e w' => e = .returned (.bool true) ∧ Below w.heap.size w w' := by
  obtain ⟨W1, hW1⟩ : ∃ W1, W1 = w.alloc (.cells #[.int .u8 5, .int .u8 1, .int .u8 0, .int .u8 255] 5) := ⟨_, rfl⟩
  have s1 : Src W1 (some ⟨w.heap.size, 0, none⟩) 4 4 [5, 1, 0, 255] := by rw [hW1]; exact src_lit w [5, 1, 0, 255] _ rfl 4 rfl (by decide) (by decide)
  have b1 : Below w.heap.size w W1 := by rw [hW1]; exact (Below.refl _ _).alloc (Nat.le_refl _) _
  have HG := hide (greeting_at _ 4 4 _ W1 s1)
  rw [ex1] at HG
  have HW1 := hide hW1.symm
  have B1 := hide b1
  have V1 := hide (hV.below b1)
  clear s1 b1 hW1 hV
  go_enter Tryd.func23, Tryd.ntmps23
  go_wp2_with fail
  rw [HW1.out]
  refine HG.out.mono ?_
  rintro e w2 ⟨x, y, u, rfl, si, hf, hb⟩
  obtain rfl : u = .nilIface := hf
  have B2 := hide (B1.out.trans (hb.mono B1.out.size))
  have V2 := hide (V1.out.below hb)
  obtain ⟨W3, hW3⟩ : ∃ W3, W3 = w2.alloc (.cells #[.int .u8 5, .int .u8 1, .int .u8 0, .int .u8 3, .int .u8 1, .int .u8 97, .int .u8 0, .int .u8 80] 5) := ⟨_, rfl⟩
  have s3 : Src W3 (some ⟨w2.heap.size, 0, none⟩) 8 8 [5, 1, 0, 3, 1, 97, 0, 80] := by rw [hW3]; exact src_lit w2 [5, 1, 0, 3, 1, 97, 0, 80] _ rfl 8 rfl (by decide) (by decide)
  have b3 : Below w2.heap.size w2 W3 := by rw [hW3]; exact (Below.refl _ _).alloc (Nat.le_refl _) _
  have HR := hide (request_at _ 8 8 _ W3 s3 (V2.out.below b3))
  unfold reqV at HR
  rw [ex2] at HR
  have HW3 := hide hW3.symm
  have B3 := hide (B2.out.trans (b3.mono B2.out.size))
  have V3 := hide (V2.out.below b3)
  clear s3 b3 hW3 hb si
  go_wp2_with fail
  rw [HW3.out]
  refine HR.out.mono ?_
  rintro e w4 ⟨u, rfl, hf, hb⟩
  obtain rfl : u = .nilIface := hf
  have B4 := hide (B3.out.trans (hb.mono B3.out.size))
  have V4 := hide (V3.out.below hb)
  simp only [deV, noA]
  clear hb
  obtain ⟨W5, hW5⟩ : ∃ W5, W5 = (w4.alloc (.cells #[.int .u8 0, .int .u8 0, .int .u8 0, .int .u8 0, .string (strN [97]), .int .i64 80] 47)).alloc (.cells #[.int .u8 5, .int .u8 1, .int .u8 0, .int .u8 4] 5) := ⟨_, rfl⟩
  have s5 : Src W5 (some ⟨w4.heap.size + 1, 0, none⟩) 4 4 [5, 1, 0, 4] := by
    rw [hW5]
    have := src_lit (w4.alloc (.cells #[.int .u8 0, .int .u8 0, .int .u8 0, .int .u8 0, .string (strN [97]), .int .i64 80] 47)) [5, 1, 0, 4] _ rfl 4 rfl (by decide) (by decide)
    rwa [show (w4.alloc (.cells #[.int .u8 0, .int .u8 0, .int .u8 0, .int .u8 0, .string (strN [97]), .int .i64 80] 47)).heap.size = w4.heap.size + 1 by simp] at this
  have b5 : Below w4.heap.size w4 W5 := by rw [hW5]; exact ((Below.refl _ _).alloc (Nat.le_refl _) _).alloc (by simp) _
  have r5 : W5.heap[w4.heap.size]? = some (.cells #[.int .u8 0, .int .u8 0, .int .u8 0, .int .u8 0, .string (strN [97]), .int .i64 80] 47) := by rw [hW5]; exact alloc_old _ (alloc_new _ _)
  have HR2 := hide (request_at _ 4 4 _ W5 s5 (V4.out.below b5))
  unfold reqV at HR2
  rw [ex3] at HR2
  have HW5 := hide hW5.symm
  have B5 := hide (B4.out.trans (b5.mono B4.out.size))
  have R5 := hide r5
  clear s5 b5 hW5 r5
  go_wp2_with fail
  rw [HW5.out]
  refine HR2.out.mono ?_
  rintro e w6 ⟨u, rfl, hf, hb⟩
  have B6 := hide (B5.out.trans (hb.mono B5.out.size))
  have r6 := keepB hb R5.out
  have k0 : w6.cell? ⟨w4.heap.size, 0, none⟩ = some (.int .u8 0) := by simp [World.cell?, r6]
  have k1 : w6.cell? ⟨w4.heap.size, 1, none⟩ = some (.int .u8 0) := by simp [World.cell?, r6]
  have k2 : w6.cell? ⟨w4.heap.size, 2, none⟩ = some (.int .u8 0) := by simp [World.cell?, r6]
  have k3 : w6.cell? ⟨w4.heap.size, 3, none⟩ = some (.int .u8 0) := by simp [World.cell?, r6]
  have k4 : w6.cell? ⟨w4.heap.size, 4, none⟩ = some (.string (strN [97])) := by simp [World.cell?, r6]
  have k5 : w6.cell? ⟨w4.heap.size, 5, none⟩ = some (.int .i64 80) := by simp [World.cell?, r6]
  have hz6 : w4.heap.size < w6.heap.size := lt_of_some r6
  have hne6 : w4.heap.size ≠ w6.heap.size := by omega
  have HF := hide hf
  have q1 : (strN [97]).toList = [97] := by rw [Lib.toList_data]; decide
  simp only [deV, noA, noD]
  clear hf hb r6
  go_wp2_with fail
  refine (fail5_at 3 71 _).mono ?_
  rintro e w7 ⟨rfl, hb7⟩
  have hb67 : Below w6.heap.size w6 w7 := ((Below.refl _ _).alloc (Nat.le_refl _) _).trans (hb7.mono (by simp))
  have B7 := hide (B6.out.trans (hb67.mono B6.out.size))
  have HI := hide (is_at (.one 3 71) u w7 (HF.out.below hb67))
  rw [badF_badG] at HI ⊢
  clear hb7 hb67
  go_wp2_with fail
  refine HI.out.mono ?_
  rintro e w8 ⟨rfl, hb8⟩
  have B8 := hide (B7.out.trans (hb8.mono B7.out.size))
  clear hb8
  go_wp2_with fail
  go_ret
  exact ⟨rfl, B8.out⟩
end Go.Proofs.YtefgjmijbedbkaaDoor
