/-
  The chapter's examples ('works' of the statements); conditions as each theorem has them.
-/
import Derived.Test.YtelfikbahcckaaaDoorPD
import Derived.Test.YtelfikbahcckaaaDoorZ
import Derived.Test.YtelfikbahcckaaaDoorRA
set_option linter.unusedSimpArgs false
set_option linter.unusedVariables false
namespace Go.Proofs.YtelfikbahcckaaaDoor
open Go.RowKit

theorem labB_one (c : Nat) (h : lbAt c 0 1 = true) : labB [c] = true := (labB_iff [c]).2 ⟨by simp, by simp, fun i hi => by
  have : i = 0 := by simpa using hi
  subst this
  exact h⟩
theorem name_ab : name [97, 46, 98] = ([97, 46, 98], .ok) := by
  have hp : pcs [97, 46, 98] = [[97], [98]] := by decide +kernel
  have h1 := labB_one 97 (by decide +kernel)
  have h2 := labB_one 98 (by decide +kernel)
  unfold name
  rw [if_neg (by simp), hp]
  simp only [labs, h1, h2, if_true]
  rw [if_neg (by decide +kernel)]
  decide +kernel
theorem ex1 : putQr 7 [97, 46, 98] = ([0, 7, 1, 0, 0, 1, 0, 0, 0, 0, 0, 0, 1, 97, 1, 98, 0, 0, 1, 0, 1], 0) := by
  have hq : qry 7 [97, 46, 98] = true := by simp [qry, name_ab]
  rw [putQr, if_pos hq]
  decide +kernel
theorem ex2 : namI [0, 0, 0, 0, 0, 0, 0, 0, 0, 0, 0, 0, 192, 12] 12 = ([], 0, .one 12 100) := by
  have : led [0, 0, 0, 0, 0, 0, 0, 0, 0, 0, 0, 0, 192, 12] 12 = 12 := by decide +kernel
  rw [namI, if_neg (by omega)]
  show nm [0, 0, 0, 0, 0, 0, 0, 0, 0, 0, 0, 0, 192, 12] 12 12 12 [] 0 = _
  rw [nm_led2 (by decide +kernel) (by decide +kernel) (by rw [this]; exact Nat.le_refl _)]
/-- Bytes in a slice of their own. -/
theorem src_lit (w : World) (l : List Nat) (C : Array Value) (hC : C = (nums .u8 l).toArray) (n : Nat) (hn : n = l.length) (hb : ∀ x ∈ l, x < 256) (hl : l.length ≤ 1000) : Src (w.alloc (.cells C 5)) (some ⟨w.heap.size, 0, none⟩) n n l := by
  subst hn
  refine ⟨rfl, Nat.le_refl _, by unfold maxLen; omega, (by intro e; cases e), fun _ => ⟨w.heap.size, 0, rfl, by simp, fun i hi => ?_⟩, hb⟩
  have r := Row.new w C 5
  rw [hC] at r ⊢
  rw [Nat.zero_add]
  exact r.num0 (j := i) (l := l) hi
set_option maxRecDepth 100000 in
set_option maxHeartbeats 4000000 in
theorem works_at (w : World) (hV : Vars w) : Calls Tryd.prog 12 #[] w fun e w' => e = .returned (.bool true) ∧ Below w.heap.size w w' := by
  have HP := hide (pputQuestion_at 7 ⟨#[97, 46, 98]⟩ w (by decide) hV)
  rw [show byt ⟨#[97, 46, 98]⟩ = [97, 46, 98] from by decide +kernel, ex1] at HP
  have V0 := hide hV
  clear hV
  go_enter Tryd.func12, Tryd.ntmps12
  go_wp2_with fail
  refine HP.out.mono ?_
  rintro e w1 ⟨x1, c1, rfl, s1, b1⟩
  have S1 := hide s1
  have B1 := hide b1
  have V1 := hide (V0.out.below b1)
  obtain ⟨W2, hW2⟩ : ∃ W2, W2 = w1.alloc (.cells #[.int .u8 0, .int .u8 0, .int .u8 0, .int .u8 0, .int .u8 0, .int .u8 0, .int .u8 0, .int .u8 0, .int .u8 0, .int .u8 0, .int .u8 0, .int .u8 0, .int .u8 192, .int .u8 12] 5) := ⟨_, rfl⟩
  have s2 : Src W2 (some ⟨w1.heap.size, 0, none⟩) 14 14 [0, 0, 0, 0, 0, 0, 0, 0, 0, 0, 0, 0, 192, 12] := by rw [hW2]; exact src_lit w1 [0, 0, 0, 0, 0, 0, 0, 0, 0, 0, 0, 0, 192, 12] _ rfl 14 rfl (by decide) (by decide)
  have b2 : Below w1.heap.size w1 W2 := by rw [hW2]; exact (Below.refl _ _).alloc (Nat.le_refl _) _
  have HN := hide (name_at _ 14 14 _ 12 W2 s2 (V1.out.below b2) (by omega) (by omega))
  rw [ex2] at HN
  have S2 := hide (S1.out.below b2)
  have B2 := hide (B1.out.trans (b2.mono B1.out.size))
  have HW2 := hide hW2.symm
  clear s1 b1 s2 b2 hW2 HP
  go_wp2_with fail
  rw [HW2.out]
  refine HN.out.mono ?_
  rintro e w3 ⟨v3, rfl, i3, b3⟩
  have I3 := hide i3
  have S3 := hide (S2.out.below b3)
  have B3 := hide (B2.out.trans (b3.mono B2.out.size))
  obtain ⟨W4, hW4⟩ : ∃ W4, W4 = w3.alloc (.cells #[.int .u8 0, .int .u8 7, .int .u8 1, .int .u8 0, .int .u8 0, .int .u8 1, .int .u8 0, .int .u8 0, .int .u8 0, .int .u8 0, .int .u8 0, .int .u8 0, .int .u8 1, .int .u8 97, .int .u8 1, .int .u8 98, .int .u8 0, .int .u8 0, .int .u8 1, .int .u8 0, .int .u8 1] 5) := ⟨_, rfl⟩
  have s4 : Src W4 (some ⟨w3.heap.size, 0, none⟩) 21 21 [0, 7, 1, 0, 0, 1, 0, 0, 0, 0, 0, 0, 1, 97, 1, 98, 0, 0, 1, 0, 1] := by rw [hW4]; exact src_lit w3 [0, 7, 1, 0, 0, 1, 0, 0, 0, 0, 0, 0, 1, 97, 1, 98, 0, 0, 1, 0, 1] _ rfl 21 rfl (by decide) (by decide)
  have b4 : Below w3.heap.size w3 W4 := by rw [hW4]; exact (Below.refl _ _).alloc (Nat.le_refl _) _
  have HSM := hide (same_bytes W4 x1 (some ⟨w3.heap.size, 0, none⟩) _ c1 21 21 _ (S3.out.below b4) s4)
  have B4 := hide (B3.out.trans (b4.mono B3.out.size))
  have I4 := hide (I3.out.below b4)
  have HW4 := hide hW4.symm
  clear i3 b3 s4 b4 hW4 HN
  go_wp2_with fail
  rw [HW4.out]
  refine HSM.out.mono ?_
  rintro e w5 ⟨rfl, rfl⟩
  have HF := hide (dfail_at 12 100 W4)
  rw [show ((12 : Nat) : Int) = 12 from rfl, show ((100 : Nat) : Int) = 100 from rfl] at HF
  clear HSM
  go_wp2_with fail
  refine HF.out.mono ?_
  rintro e w6 ⟨rfl, b6⟩
  have B6 := hide (B4.out.trans (b6.mono B4.out.size))
  have HI := hide (is_at (.one 12 100) v3 w6 (I4.out.below b6))
  rw [badF_badG] at HI ⊢
  clear b6
  go_wp2_with fail
  refine HI.out.mono ?_
  rintro e w7 ⟨rfl, b7⟩
  have B7 := hide (B6.out.trans (b7.mono B6.out.size))
  clear b7
  go_wp2_with fail
  go_ret
  exact ⟨rfl, B7.out⟩
end Go.Proofs.YtelfikbahcckaaaDoor
