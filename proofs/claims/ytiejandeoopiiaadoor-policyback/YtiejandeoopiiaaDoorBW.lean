/-
  PolicyBack's walk; conditions as its theorem has them.
-/
import Derived.Test.YtiejandeoopiiaaDoorWK
set_option linter.unusedSimpArgs false
set_option linter.unusedVariables false
namespace Go.Proofs.YtiejandeoopiiaaDoor
open Go.RowKit
theorem ru_neq (r : Ru) (w : World) : (binOp .neq 33 (.agg (ruC r).toArray) (.agg (ruC r).toArray)).run Tryd.prog w = .ok (.bool false) w := by
  obtain ⟨al, ⟨a0, a1, a2, a3⟩, bt, sf, lw, hg⟩ := r
  simp only [ruC]
  cases al
  · go_simp
  · go_simp
theorem ru_zero (w : World) : (binOp .eql 33 (.agg (ruC noRu).toArray) (.agg #[.bool false, .int .u8 0, .int .u8 0, .int .u8 0, .int .u8 0, .int .i64 0, .string ⟨#[]⟩, .int .i64 0, .int .i64 0])).run Tryd.prog w = .ok (.bool true) w := by
  simp only [ruC, noRu]
  go_simp
set_option maxRecDepth 100000 in
set_option maxHeartbeats 4000000 in
theorem back_walk (r : Ru) (t : ByteArray) (w : World) (hT : Tabs w) (hr : r.ok) (ht : t.size ≤ maxLen) : Calls Tryd.prog 4 #[.agg (ruC r).toArray, .string t] w fun e w' => e = .returned (.bool true) ∧ Below w.heap.size w w' := by
  obtain ⟨w0, hw0, g1, g2⟩ := box_of w r
  have HW0 : Hid (w.alloc (.cells (ruC r).toArray 33) = w0) := hw0.symm
  have r0 := hide g1
  have B0 := hide g2
  have T0 := hide (hT.below g2)
  have PN : Hid (∀ W, Tabs W → Calls Tryd.prog 10 #[.agg (ruC r).toArray] W fun e w' => e = .returned (.tuple #[.string (strN (prtT r)), .int .i64 (prtE r : Nat)]) ∧ Below W.heap.size W w') := fun W h => pPrint_at r W hr h.v h.p
  have PT : Hid (∀ W, Tabs W → Calls Tryd.prog 11 #[.string t] W fun e w' => e = .returned (.tuple #[.agg (ruC (prsR (byt t))).toArray, .int .i64 (prsE (byt t) : Nat)]) ∧ Below W.heap.size W w') := fun W h => parse_at t W ht h.v h.p h.e
  clear hw0 g1 g2 hT
  go_enter Tryd.func4, Tryd.ntmps4
  go_wp2_with fail
  rw [HW0.out]
  refine (works_at _ T0.out).mono ?_
  rintro e w1 ⟨rfl, hb⟩
  have B1 := hide (B0.out.trans (hb.mono B0.out.size))
  have r1 := hide (keepB hb r0.out)
  have T1 := hide (T0.out.below hb)
  clear hb
  go_wp2_with (first | (refine wpList_load_row rfl 33 _ rfl w.heap.size rfl 33 _ (0, 0) _ r1.out Tryd.underlying33 rfl infoRu ?_))
  refine (PN.out _ T1.out).mono ?_
  rintro e w2 ⟨rfl, hb⟩
  have B2 := hide (B1.out.trans (hb.mono B1.out.size))
  have r2 := hide (keepB hb r1.out)
  have T2 := hide (T1.out.below hb)
  clear hb
  by_cases hg : r.right = true
  · have HTT : Hid (prtT r = prt r) := by show _ = _; unfold prtT; rw [if_pos hg]
    have HTE : Hid (prtE r = 0) := by show _ = _; unfold prtE; rw [if_pos hg]
    rw [HTT.out, HTE.out]
    have hpl := prt_len hg hr.net
    have hbt : byt (strN (prt r)) = prt r := byt_strN _ (prt_lt hg hr)
    have PP : Hid (∀ W, Tabs W → Calls Tryd.prog 11 #[.string (strN (prt r))] W fun e w' => e = .returned (.tuple #[.agg (ruC r).toArray, .int .i64 0]) ∧ Below W.heap.size W w') := fun W h => by
      have := parse_at (strN (prt r)) W (by rw [strN_size]; unfold maxLen; omega) h.v h.p h.e
      have hp := prs_prt hg hr.net
      rw [hbt, show prsR (prt r) = r by rw [prsR, hp]; rfl, show prsE (prt r) = 0 by rw [prsE, hp]; rfl] at this
      exact this
    generalize strN (prt r) = TX at PP ⊢
    clear hpl hbt HTT HTE hg
    go_wp2_with fail
    refine (PP.out _ T2.out).mono ?_
    rintro e w3 ⟨rfl, hb⟩
    have B3 := hide (B2.out.trans (hb.mono B2.out.size))
    have r3 := hide (keepB hb r2.out)
    have T3 := hide (T2.out.below hb)
    clear hb
    obtain ⟨w4, hw4, g1, g2⟩ := box_new w3 r
    have HW4 := hide hw4
    have x4 := hide g1
    have B4 := hide (B3.out.trans (g2.mono B3.out.size))
    have r4 := hide (keepB g2 r3.out)
    have T4 := hide (T3.out.below g2)
    clear hw4 g1 g2
    have heq := fun w => ru_neq r w
    go_wp2_with (first | (refine wpList_store_rowW rfl 33 _ _ rfl w3.heap.size (ruC r).toArray rfl rfl 33 zRu (alloc_new _ _) infoRu rfl (ruC_all r) w4 HW4.out ?_) | (refine wpList_load_rowG (by rfl) 33 _ rfl w.heap.size rfl 33 _ (0, 0) _ r4.out Tryd.underlying33 rfl infoRu ?_) | (refine wpList_load_rowG (by rfl) 33 _ rfl w3.heap.size rfl 33 _ (0, 0) _ x4.out Tryd.underlying33 rfl infoRu ?_))
    clear heq
    refine (PT.out _ T4.out).mono ?_
    rintro e w5 ⟨rfl, hb⟩
    have B5 := hide (B4.out.trans (hb.mono B4.out.size))
    have T5 := hide (T4.out.below hb)
    clear hb
    cases hp : prs (byt t) with
    | none =>
      rw [show prsR (byt t) = noRu by rw [prsR, hp]; rfl, show prsE (byt t) = 120 by rw [prsE, hp]; rfl]
      obtain ⟨w6, hw6, g1, g2⟩ := box_new w5 noRu
      have HW6 := hide hw6
      have x6 := hide g1
      have B6 := hide (B5.out.trans (g2.mono B5.out.size))
      have hz := fun w => ru_zero w
      clear hw6 g1 g2 hp
      go_wp2_with (first | (refine wpList_store_rowW rfl 33 _ _ rfl w5.heap.size (ruC noRu).toArray rfl rfl 33 zRu (alloc_new _ _) infoRu rfl (ruC_all noRu) w6 HW6.out ?_) | (refine wpList_load_rowG (by rfl) 33 _ rfl w5.heap.size rfl 33 _ (0, 0) _ x6.out Tryd.underlying33 rfl infoRu ?_))
      go_ret
      exact ⟨rfl, B6.out⟩
    | some q =>
      obtain ⟨hq0, hq1, hq2, hq3⟩ := prs_some hp
      have hqo := prsR_ok (byt t)
      have hqr : prsR (byt t) = q := by rw [prsR, hp]; rfl
      rw [hqr] at hqo
      rw [hqr, show prsE (byt t) = 0 by rw [prsE, hp]; rfl]
      have PQ : Hid (∀ W, Tabs W → Calls Tryd.prog 10 #[.agg (ruC q).toArray] W fun e w' => e = .returned (.tuple #[.string t, .int .i64 0]) ∧ Below W.heap.size W w') := fun W h => by
        have := pPrint_at q W hqo h.v h.p
        rw [show prtT q = byt t by unfold prtT; rw [if_pos hq1, hq2], show prtE q = 0 by unfold prtE; rw [if_pos hq1], strN_byt] at this
        exact this
      obtain ⟨w6, hw6, g1, g2⟩ := box_new w5 q
      have HW6 := hide hw6
      have x6 := hide g1
      have B6 := hide (B5.out.trans (g2.mono B5.out.size))
      have T6 := hide (T5.out.below g2)
      clear hw6 g1 g2 hp hq0 hq1 hq2 hq3 hqo hqr
      go_wp2_with (first | (refine wpList_store_rowW rfl 33 _ _ rfl w5.heap.size (ruC q).toArray rfl rfl 33 zRu (alloc_new _ _) infoRu rfl (ruC_all q) w6 HW6.out ?_) | (refine wpList_load_row rfl 33 _ rfl w5.heap.size rfl 33 _ (0, 0) _ x6.out Tryd.underlying33 rfl infoRu ?_))
      refine (PQ.out _ T6.out).mono ?_
      rintro e w7 ⟨rfl, hb⟩
      have B7 := hide (B6.out.trans (hb.mono B6.out.size))
      clear hb
      go_wp2_with fail
      go_ret
      exact ⟨by first | rfl | simp, B7.out⟩
  · have HTE : Hid (prtE r = 120) := by show _ = _; unfold prtE; rw [if_neg hg]
    rw [HTE.out]
    generalize strN (prtT r) = TX
    clear hg
    go_wp2_with fail
    refine (PT.out _ T2.out).mono ?_
    rintro e w5 ⟨rfl, hb⟩
    have B5 := hide (B2.out.trans (hb.mono B2.out.size))
    have T5 := hide (T2.out.below hb)
    clear hb
    cases hp : prs (byt t) with
    | none =>
      rw [show prsR (byt t) = noRu by rw [prsR, hp]; rfl, show prsE (byt t) = 120 by rw [prsE, hp]; rfl]
      obtain ⟨w6, hw6, g1, g2⟩ := box_new w5 noRu
      have HW6 := hide hw6
      have x6 := hide g1
      have B6 := hide (B5.out.trans (g2.mono B5.out.size))
      have hz := fun w => ru_zero w
      clear hw6 g1 g2 hp
      go_wp2_with (first | (refine wpList_store_rowW rfl 33 _ _ rfl w5.heap.size (ruC noRu).toArray rfl rfl 33 zRu (alloc_new _ _) infoRu rfl (ruC_all noRu) w6 HW6.out ?_) | (refine wpList_load_rowG (by rfl) 33 _ rfl w5.heap.size rfl 33 _ (0, 0) _ x6.out Tryd.underlying33 rfl infoRu ?_))
      go_ret
      exact ⟨rfl, B6.out⟩
    | some q =>
      obtain ⟨hq0, hq1, hq2, hq3⟩ := prs_some hp
      have hqo := prsR_ok (byt t)
      have hqr : prsR (byt t) = q := by rw [prsR, hp]; rfl
      rw [hqr] at hqo
      rw [hqr, show prsE (byt t) = 0 by rw [prsE, hp]; rfl]
      have PQ : Hid (∀ W, Tabs W → Calls Tryd.prog 10 #[.agg (ruC q).toArray] W fun e w' => e = .returned (.tuple #[.string t, .int .i64 0]) ∧ Below W.heap.size W w') := fun W h => by
        have := pPrint_at q W hqo h.v h.p
        rw [show prtT q = byt t by unfold prtT; rw [if_pos hq1, hq2], show prtE q = 0 by unfold prtE; rw [if_pos hq1], strN_byt] at this
        exact this
      obtain ⟨w6, hw6, g1, g2⟩ := box_new w5 q
      have HW6 := hide hw6
      have x6 := hide g1
      have B6 := hide (B5.out.trans (g2.mono B5.out.size))
      have T6 := hide (T5.out.below g2)
      clear hw6 g1 g2 hp hq0 hq1 hq2 hq3 hqo hqr
      go_wp2_with (first | (refine wpList_store_rowW rfl 33 _ _ rfl w5.heap.size (ruC q).toArray rfl rfl 33 zRu (alloc_new _ _) infoRu rfl (ruC_all q) w6 HW6.out ?_) | (refine wpList_load_row rfl 33 _ rfl w5.heap.size rfl 33 _ (0, 0) _ x6.out Tryd.underlying33 rfl infoRu ?_))
      refine (PQ.out _ T6.out).mono ?_
      rintro e w7 ⟨rfl, hb⟩
      have B7 := hide (B6.out.trans (hb.mono B6.out.size))
      clear hb
      go_wp2_with fail
      go_ret
      exact ⟨by first | rfl | simp, B7.out⟩

end Go.Proofs.YtiejandeoopiiaaDoor
