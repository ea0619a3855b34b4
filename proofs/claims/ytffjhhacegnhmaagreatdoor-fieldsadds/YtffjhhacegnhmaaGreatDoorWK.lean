/-
  The chapter's examples; conditions as each theorem has them.
-/
import Derived.Test.YtffjhhacegnhmaaGreatDoorFF
import Derived.Test.YtffjhhacegnhmaaGreatDoorFG
set_option linter.unusedSimpArgs false
set_option linter.unusedVariables false
namespace Go.Proofs.YtffjhhacegnhmaaGreatDoor
open Go.RowKit

def exK : List Fd := [([72, 111, 115, 116], [97]), ([67, 111, 110, 110, 101, 99, 116, 105, 111, 110], [120, 44, 32, 99, 108, 111, 115, 101]), ([88], [49]), ([86, 105, 97], [98])]
def exA : List Fd := [([99, 97, 99, 104, 101, 45, 99, 111, 110, 116, 114, 111, 108], [112, 117, 98, 108, 105, 99, 44, 32, 77, 97, 120, 45, 65, 103, 101, 61, 54, 48])]
def exB : List Fd := [([67, 97, 99, 104, 101, 45, 67, 111, 110, 116, 114, 111, 108], [109, 97, 120, 45, 97, 103, 101, 61, 54, 48, 44, 32, 110, 111, 45, 115, 116, 111, 114, 101])]
theorem exK_is : somE exK false = ([([72, 111, 115, 116], [97]), ([86, 105, 97], [98])], 0) := by decide +kernel
theorem exA_is : agev exA = (60, true) := by decide +kernel
theorem exB_is : agev exB = (0, false) := by decide +kernel
theorem exK_few : Few exK := ⟨by decide, by decide⟩
theorem exA_few : Few exA := ⟨by decide, by decide⟩
theorem exB_few : Few exB := ⟨by decide, by decide⟩
theorem exK_byte : okB exK := by unfold okB; decide
theorem exA_byte : okB exA := by unfold okB; decide
theorem exB_byte : okB exB := by unfold okB; decide
theorem src_new (w : World) (fs : List Fd) (hb : okB fs) (hl : fs.length ≤ 1000) : SrcF (w.alloc (.cells (fcs fs).toArray 43)) (some ⟨w.heap.size, 0, none⟩) fs.length fs.length fs := by
  refine ⟨rfl, Nat.le_refl _, by unfold maxLen; omega, (fun e => by cases e), fun _ => ⟨w.heap.size, 0, rfl, by simp, fun j u hu => ?_⟩, hb⟩
  rw [Nat.zero_add]
  simp only [World.cell?, alloc_new]
  simpa using hu
set_option maxRecDepth 100000 in
set_option maxHeartbeats 4000000 in
theorem works_at (w : World) (hV : Vars w) : Calls Tryz.prog 10 #[] w fun e w' => e = .returned (.bool true) ∧ Below w.heap.size w w' := by
  obtain ⟨W0, hW0⟩ : ∃ W, W = w.alloc (.cells #[.string ⟨#[72, 111, 115, 116]⟩, .string ⟨#[97]⟩, .string ⟨#[67, 111, 110, 110, 101, 99, 116, 105, 111, 110]⟩, .string ⟨#[120, 44, 32, 99, 108, 111, 115, 101]⟩, .string ⟨#[88]⟩, .string ⟨#[49]⟩, .string ⟨#[86, 105, 97]⟩, .string ⟨#[98]⟩] 43) := ⟨_, rfl⟩
  have s0 : SrcF W0 (some ⟨w.heap.size, 0, none⟩) 4 4 exK := by rw [hW0]; exact src_new w exK exK_byte (by decide)
  have b0 : Below w.heap.size w W0 := by rw [hW0]; exact (Below.refl _ _).alloc (Nat.le_refl _) _
  have HK := hide (keep_at _ 4 4 exK W0 (hV.below b0) s0 exK_few)
  rw [exK_is] at HK
  have HW0 := hide hW0.symm
  have B0 := hide b0
  have HV := hide hV
  clear hW0 s0 b0 hV
  go_enter Tryz.func10, Tryz.ntmps10
  go_wp2_with fail
  rw [HW0.out]
  refine HK.out.mono ?_
  rintro e w1 ⟨v, rfl, ho, hb1⟩
  have B1 := hide (B0.out.trans (hb1.mono B0.out.size))
  obtain ⟨a1, c1, rfl, s1, _⟩ := ho.src (by unfold okB; decide)
  have S1 := hide s1
  have hcl := s1.hcap
  have hmx := s1.hmax
  unfold maxLen at hmx
  clear ho hb1 s1 HK HW0
  obtain ⟨W2, hW2⟩ : ∃ W, W = w1.alloc (.cells #[.string ⟨#[99, 97, 99, 104, 101, 45, 99, 111, 110, 116, 114, 111, 108]⟩, .string ⟨#[112, 117, 98, 108, 105, 99, 44, 32, 77, 97, 120, 45, 65, 103, 101, 61, 54, 48]⟩] 43) := ⟨_, rfl⟩
  have s2 : SrcF W2 (some ⟨w1.heap.size, 0, none⟩) 1 1 exA := by rw [hW2]; exact src_new w1 exA exA_byte (by decide)
  have b2 : Below w1.heap.size w1 W2 := by rw [hW2]; exact (Below.refl _ _).alloc (Nat.le_refl _) _
  have B2 := hide (B1.out.trans (b2.mono B1.out.size))
  have HA := hide (age_at _ 1 1 exA W2 (HV.out.below B2.out) s2 exA_few)
  rw [exA_is] at HA
  have HW2 := hide hW2.symm
  have S2 := hide (S1.out.below b2)
  clear hW2 s2 b2
  go_wp2_with fail
  rw [HW2.out]
  refine HA.out.mono ?_
  rintro e w3 ⟨rfl, hb3⟩
  have B3 := hide (B2.out.trans (hb3.mono B2.out.size))
  have S3 := hide (S2.out.below hb3)
  clear hb3 HA HW2 S1 S2
  obtain ⟨W4, hW4⟩ : ∃ W, W = w3.alloc (.cells #[.string ⟨#[67, 97, 99, 104, 101, 45, 67, 111, 110, 116, 114, 111, 108]⟩, .string ⟨#[109, 97, 120, 45, 97, 103, 101, 61, 54, 48, 44, 32, 110, 111, 45, 115, 116, 111, 114, 101]⟩] 43) := ⟨_, rfl⟩
  have s4 : SrcF W4 (some ⟨w3.heap.size, 0, none⟩) 1 1 exB := by rw [hW4]; exact src_new w3 exB exB_byte (by decide)
  have b4 : Below w3.heap.size w3 W4 := by rw [hW4]; exact (Below.refl _ _).alloc (Nat.le_refl _) _
  have B4 := hide (B3.out.trans (b4.mono B3.out.size))
  have HB := hide (age_at _ 1 1 exB W4 (HV.out.below B4.out) s4 exB_few)
  rw [exB_is] at HB
  have HW4 := hide hW4.symm
  have S4 := hide (S3.out.below b4)
  clear hW4 s4 b4
  unfold ageV
  go_wp2_with fail
  rw [HW4.out]
  refine HB.out.mono ?_
  rintro e w5 ⟨rfl, hb5⟩
  have B5 := hide (B4.out.trans (hb5.mono B4.out.size))
  have s5 := S4.out.below hb5
  obtain ⟨b, o, rfl, d0, _⟩ := s5.at_ (i := 0) (by decide)
  obtain ⟨b', o', e', d1, _⟩ := s5.at_ (i := 1) (by decide)
  simp only [Option.some.injEq, Addr.mk.injEq, and_true] at e'
  obtain ⟨rfl, rfl⟩ := e'
  have f0 : w5.cell? ⟨b, o, none⟩ = some (.string ⟨#[72, 111, 115, 116]⟩) := d0
  have f1 : w5.cell? ⟨b, o + 2, none⟩ = some (.string ⟨#[86, 105, 97]⟩) := d1
  clear hb5 HB HW4 S3 S4 s5 d0 d1
  unfold ageV
  go_wp2_with fail
  go_ret
  exact ⟨by first | rfl | simp, B5.out⟩
end Go.Proofs.YtffjhhacegnhmaaGreatDoor
