/-
  PolicyTexts' walk; conditions as its theorem has them.
-/
import Derived.Test.YtiejandeoopiiaaGreatDoorWK
import Derived.Test.YtiejandeoopiiaaGreatDoorTP
import Derived.Test.YtiejandeoopiiaaGreatDoorTR
set_option linter.unusedSimpArgs false
set_option linter.unusedVariables false
namespace Go.Proofs.YtiejandeoopiiaaGreatDoor
open Go.RowKit
theorem ru_eql (r : Ru) (w : World) : (binOp .eql 37 (.agg (ruC r).toArray) (.agg (ruC r).toArray)).run Tryz.prog w = .ok (.bool true) w := by
  obtain ⟨al, ⟨a0, a1, a2, a3⟩, bt, sf, lw, hg⟩ := r
  simp only [ruC]
  cases al
  · go_simp
  · go_simp
set_option maxRecDepth 100000 in
set_option maxHeartbeats 4000000 in
theorem texts_walk (r : Ru) (t : ByteArray) (w : World) (hT : Tabs w) (hr : r.ok) (ht : t.size ≤ 2000000) : Calls Tryz.prog 4 #[.agg (ruC r).toArray, .string t] w fun e w' => e = .returned (.bool true) ∧ Below w.heap.size w w' := by
  obtain ⟨w0, hw0, g1, g2⟩ := box_of w r
  have HW0 : Hid (w.alloc (.cells (ruC r).toArray 37) = w0) := hw0.symm
  have r0 := hide g1
  have B0 := hide g2
  have T0 := hide (hT.below g2)
  have ht' : t.size ≤ maxLen := by unfold maxLen; omega
  have PN : Hid (∀ W, Tabs W → Calls Tryz.prog 15 #[.agg (ruC r).toArray] W fun e w' => e = .returned (.tuple #[.string (strN (prtT r)), .int .i64 (prtE r : Nat)]) ∧ Below W.heap.size W w') := fun W h => pPrint_at r W hr h.v h.p
  have RN : Hid (∀ W, Tabs W → Calls Tryz.prog 16 #[.agg (ruC r).toArray] W fun e w' => e = .returned (.tuple #[.string (strN (prtT r)), .int .i64 (prtE r : Nat)]) ∧ Below W.heap.size W w') := fun W h => rPrint_at r W hr
  have PT : Hid (∀ W, Tabs W → Calls Tryz.prog 17 #[.string t] W fun e w' => e = .returned (.tuple #[.agg (ruC (prsR (byt t))).toArray, .int .i64 (prsE (byt t) : Nat)]) ∧ Below W.heap.size W w') := fun W h => parse_at t W ht' h.v h.p h.e
  have RT : Hid (∀ W, Tabs W → Calls Tryz.prog 18 #[.string t] W fun e w' => e = .returned (.tuple #[.agg (ruC (prsR (byt t))).toArray, .int .i64 (prsE (byt t) : Nat)]) ∧ Below W.heap.size W w') := fun W h => rParse_at t W ht h.v h.e
  generalize strN (prtT r) = TX at PN RN
  generalize prtE r = TE at PN RN
  generalize prsR (byt t) = Q at PT RT
  generalize prsE (byt t) = QE at PT RT
  clear hw0 g1 g2 hT
  clear hr
  obtain ⟨al, ⟨a0, a1, a2, a3⟩, bt, sf, lw, hg⟩ := r
  simp only [ruC] at PN RN HW0 r0 ⊢
  go_enter Tryz.func4, Tryz.ntmps4
  go_wp2_with (first | (rw [HW0.out]; refine wpList_load_row rfl 37 _ rfl w.heap.size rfl 37 _ (0, 0) _ r0.out Tryz.underlying37 rfl infoRu ?_))
  try rw [HW0.out]
  refine (PN.out _ T0.out).mono ?_
  rintro e w1 ⟨rfl, hb⟩
  have B1 := hide (B0.out.trans (hb.mono B0.out.size))
  have r1 := hide (keepB hb r0.out)
  have T1 := hide (T0.out.below hb)
  clear hb
  go_wp2_with (first | (refine wpList_load_row rfl 37 _ rfl w.heap.size rfl 37 _ (0, 0) _ r1.out Tryz.underlying37 rfl infoRu ?_) | (refine wpList_load_rowG (by rfl) 37 _ rfl w.heap.size rfl 37 _ (0, 0) _ r1.out Tryz.underlying37 rfl infoRu ?_))
  refine (RN.out _ T1.out).mono ?_
  rintro e w2 ⟨rfl, hb⟩
  have B2 := hide (B1.out.trans (hb.mono B1.out.size))
  have T2 := hide (T1.out.below hb)
  clear hb PN RN
  go_wp2_with fail
  refine (PT.out _ T2.out).mono ?_
  rintro e w3 ⟨rfl, hb⟩
  have B3 := hide (B2.out.trans (hb.mono B2.out.size))
  have T3 := hide (T2.out.below hb)
  clear hb
  obtain ⟨w4, hw4, g1, g2⟩ := box_new w3 Q
  have HW4 := hide hw4
  have x4 := hide g1
  have B4 := hide (B3.out.trans (g2.mono B3.out.size))
  have T4 := hide (T3.out.below g2)
  clear hw4 g1 g2
  go_wp2_with (first | (refine wpList_store_rowW rfl 37 _ _ rfl w3.heap.size (ruC Q).toArray rfl rfl 37 zRu (alloc_new _ _) infoRu rfl (ruC_all Q) w4 HW4.out ?_))
  refine (RT.out _ T4.out).mono ?_
  rintro e w5 ⟨rfl, hb⟩
  have B5 := hide (B4.out.trans (hb.mono B4.out.size))
  have T5 := hide (T4.out.below hb)
  have x5 := hide (keepB hb x4.out)
  clear hb
  obtain ⟨w6, hw6, g1, g2⟩ := box_new w5 Q
  have HW6 := hide hw6
  have y6 := hide g1
  have x6 := hide (keepB g2 x5.out)
  have B6 := hide (B5.out.trans (g2.mono B5.out.size))
  have T6 := hide (T5.out.below g2)
  clear hw6 g1 g2
  have heq := fun w => ru_eql Q w
  go_wp2_with (first | (refine wpList_store_rowW rfl 37 _ _ rfl w5.heap.size (ruC Q).toArray rfl rfl 37 zRu (alloc_new _ _) infoRu rfl (ruC_all Q) w6 HW6.out ?_) | (refine wpList_load_rowG (by rfl) 37 _ rfl w3.heap.size rfl 37 _ (0, 0) _ x6.out Tryz.underlying37 rfl infoRu ?_) | (refine wpList_load_rowG (by rfl) 37 _ rfl w5.heap.size rfl 37 _ (0, 0) _ y6.out Tryz.underlying37 rfl infoRu ?_))
  refine (works_at _ T6.out).mono ?_
  rintro e w7 ⟨rfl, hb⟩
  have B7 := hide (B6.out.trans (hb.mono B6.out.size))
  clear hb
  go_wp2_with fail
  go_ret
  exact ⟨by first | rfl | simp, B7.out⟩
end Go.Proofs.YtiejandeoopiiaaGreatDoor
