/-
  The chapter's example works; conditions as each theorem has them.
-/
import Derived.Test.YtiejandeoopiiaaGreatDoorRI
set_option linter.unusedSimpArgs false
set_option linter.unusedVariables false
namespace Go.Proofs.YtiejandeoopiiaaGreatDoor
open Go.RowKit
def tx1 : ByteArray := ⟨#[100, 101, 110, 121, 32, 49, 48, 46, 48, 46, 48, 46, 48, 47, 56, 32, 49, 45, 54, 53, 53, 51, 53]⟩
def tx2 : ByteArray := ⟨#[97, 108, 108, 111, 119, 32, 101, 120, 97, 109, 112, 108, 101, 46, 99, 111, 109, 32, 52, 52, 51]⟩
def tx3 : ByteArray := ⟨#[97, 108, 108, 111, 119, 32, 49, 48, 46, 48, 46, 48, 46, 49, 47, 56, 32, 56, 48]⟩
def ru1 : Ru := ⟨false, (10, 0, 0, 0), 8, ⟨#[]⟩, 1, 65535⟩
def ru2 : Ru := ⟨true, (0, 0, 0, 0), 0, ⟨#[101, 120, 97, 109, 112, 108, 101, 46, 99, 111, 109]⟩, 443, 443⟩
theorem rt1 : ru1.right = true := by decide +kernel
theorem rt2 : ru2.right = true := by decide +kernel
theorem dec5 : dec 65535 = [54, 53, 53, 51, 53] := by
  rw [dec_big (by omega), dec_big (by omega), dec_big (by omega), dec_big (by omega), dec_small (by omega)]
  rfl
theorem dec3 : dec 443 = [52, 52, 51] := by
  rw [dec_big (by omega), dec_big (by omega), dec_small (by omega)]
  rfl
theorem pt1 : prt ru1 = byt tx1 := by
  unfold prt verT tarT porT
  rw [if_neg (by decide), if_pos (by decide +kernel), if_neg (by decide)]
  rw [show ru1.hg.toNat = 65535 from rfl, dec5, show ru1.lw.toNat = 1 from rfl, dec_small (n := 1) (by omega), show ru1.bits.toNat = 8 from rfl, dec_small (n := 8) (by omega)]
  rw [adt_jn]
  show denyT ++ 32 :: (jn [dec 10, dec 0, dec 0, dec 0] ++ 47 :: [48 + 8] ++ 32 :: ([48 + 1] ++ 45 :: [54, 53, 53, 51, 53])) = _
  rw [dec_two (n := 10) (by omega) (by omega), dec_small (n := 0) (by omega)]
  decide +kernel
theorem pt2 : prt ru2 = byt tx2 := by
  unfold prt verT tarT porT
  rw [if_pos (by decide), if_neg (by decide +kernel), if_pos (by decide)]
  rw [show ru2.lw.toNat = 443 from rfl, dec3]
  decide +kernel
theorem ps1 : prs (byt tx1) = some ru1 := by rw [← pt1]; exact prs_prt rt1 ⟨by decide, by decide, by decide, by decide⟩
theorem ps2 : prs (byt tx2) = some ru2 := by rw [← pt2]; exact prs_prt rt2 ⟨by decide, by decide, by decide, by decide⟩
theorem ps3 : prs (byt tx3) = none := by
  have : (meant (byt tx3)).right = false := by decide +kernel
  unfold prs
  rw [this]
  simp
theorem my1 : may [ru1, ru2] (0, 0, 0, 0) (byt ⟨#[97, 46, 101, 120, 97, 109, 112, 108, 101, 46, 99, 111, 109]⟩) 443 = true := by decide +kernel
theorem my2 : may [ru1, ru2] (0, 0, 0, 0) (byt ⟨#[101, 120, 97, 109, 112, 108, 101, 46, 99, 111, 109]⟩) 80 = false := by decide +kernel
theorem my3 : may [ru1, ru2] (10, 0, 0, 0) (byt ⟨#[]⟩) 443 = false := by decide +kernel

theorem infoDe : (Tryz.prog.info? 28).map (·.size) = some 6 := by kernel_rfl
theorem named_at (t : ByteArray) (p : Int) (w : World) : Calls Tryz.prog 28 #[.string t, .int .i64 p] w fun e w' => e = .returned (deV (0, 0, 0, 0) t p) ∧ Below w.heap.size w w' := by
  go_enter Tryz.func28, Tryz.ntmps28
  go_wp2
  refine bodyPost_ret (results_cell_row rfl _ _ w.heap.size 28 #[.int .u8 0, .int .u8 0, .int .u8 0, .int .u8 0, .string t, .int .i64 p] (0, 0) _ rfl (alloc_new _ _) Tryz.underlying28 rfl infoDe) rfl ⟨rfl, (Below.refl _ _).alloc (Nat.le_refl _) _⟩
structure Tabs (w : World) : Prop where
  v : Vars w
  p : Pow w
  e : Errs w
theorem Tabs.below {w w' : World} (h : Tabs w) (k : Below w.heap.size w w') : Tabs w' := ⟨h.v.below k, h.p.below k, h.e.below k⟩
set_option maxRecDepth 100000 in
set_option maxHeartbeats 2000000 in
theorem works_at (w : World) (hT : Tabs w) : Calls Tryz.prog 14 #[] w fun e w' => e = .returned (.bool true) ∧ Below w.heap.size w w' := by
  have P1 : Hid (∀ W, Tabs W → Calls Tryz.prog 17 #[.string ⟨#[100, 101, 110, 121, 32, 49, 48, 46, 48, 46, 48, 46, 48, 47, 56, 32, 49, 45, 54, 53, 53, 51, 53]⟩] W fun e w' => e = .returned (.tuple #[.agg (ruC ru1).toArray, .int .i64 0]) ∧ Below W.heap.size W w') := fun W h => by
    have := parse_at tx1 W (by unfold maxLen; decide) h.v h.p h.e
    rw [show prsR (byt tx1) = ru1 by rw [prsR, ps1]; rfl, show prsE (byt tx1) = 0 by rw [prsE, ps1]; rfl] at this
    exact this
  have P2 : Hid (∀ W, Tabs W → Calls Tryz.prog 17 #[.string ⟨#[97, 108, 108, 111, 119, 32, 101, 120, 97, 109, 112, 108, 101, 46, 99, 111, 109, 32, 52, 52, 51]⟩] W fun e w' => e = .returned (.tuple #[.agg (ruC ru2).toArray, .int .i64 0]) ∧ Below W.heap.size W w') := fun W h => by
    have := parse_at tx2 W (by unfold maxLen; decide) h.v h.p h.e
    rw [show prsR (byt tx2) = ru2 by rw [prsR, ps2]; rfl, show prsE (byt tx2) = 0 by rw [prsE, ps2]; rfl] at this
    exact this
  have P3 : Hid (∀ W, Tabs W → Calls Tryz.prog 17 #[.string ⟨#[97, 108, 108, 111, 119, 32, 49, 48, 46, 48, 46, 48, 46, 49, 47, 56, 32, 56, 48]⟩] W fun e w' => e = .returned (.tuple #[.agg (ruC noRu).toArray, .int .i64 120]) ∧ Below W.heap.size W w') := fun W h => by
    have := parse_at tx3 W (by unfold maxLen; decide) h.v h.p h.e
    rw [show prsR (byt tx3) = noRu by rw [prsR, ps3]; rfl, show prsE (byt tx3) = 120 by rw [prsE, ps3]; rfl] at this
    exact this
  have HT := hide hT
  clear hT
  go_enter Tryz.func14, Tryz.ntmps14
  go_wp2_with fail
  refine (P1.out _ HT.out).mono ?_
  rintro e w1 ⟨rfl, hb⟩
  have T1 := hide (HT.out.below hb)
  have B1 := hide hb
  clear hb
  obtain ⟨w2, hw2, g1, g2⟩ := box_new w1 ru1
  have HW2 := hide hw2
  have x2 := hide g1
  have B2 := hide (B1.out.trans (g2.mono B1.out.size))
  have T2 := hide (T1.out.below g2)
  clear hw2 g1 g2
  go_wp2_with (first | (refine wpList_store_rowW rfl 37 _ _ rfl w1.heap.size (ruC ru1).toArray rfl rfl 37 zRu (alloc_new _ _) infoRu rfl (ruC_all ru1) w2 HW2.out ?_))
  refine (P2.out _ T2.out).mono ?_
  rintro e w3 ⟨rfl, hb⟩
  have B3 := hide (B2.out.trans (hb.mono B2.out.size))
  have x3 := hide (keepB hb x2.out)
  have T3 := hide (T2.out.below hb)
  clear hb
  obtain ⟨w4, hw4, g1, g2⟩ := box_new w3 ru2
  have HW4 := hide hw4
  have y4 := hide g1
  have B4 := hide (B3.out.trans (g2.mono B3.out.size))
  have x4 := hide (keepB g2 x3.out)
  have T4 := hide (T3.out.below g2)
  clear hw4 g1 g2
  go_wp2_with (first | (refine wpList_store_rowW rfl 37 _ _ rfl w3.heap.size (ruC ru2).toArray rfl rfl 37 zRu (alloc_new _ _) infoRu rfl (ruC_all ru2) w4 HW4.out ?_))
  refine (P3.out _ T4.out).mono ?_
  rintro e w5 ⟨rfl, hb⟩
  have B5 := hide (B4.out.trans (hb.mono B4.out.size))
  have x5 := hide (keepB hb x4.out)
  have y5 := hide (keepB hb y4.out)
  have T5 := hide (T4.out.below hb)
  clear hb
  obtain ⟨w6, hw6, g1, g2⟩ := box_new w5 noRu
  have HW6 := hide hw6
  have B6 := hide (B5.out.trans (g2.mono B5.out.size))
  have x6 := hide (keepB g2 x5.out)
  have y6 := hide (keepB g2 y5.out)
  have T6 := hide (T5.out.below g2)
  clear hw6 g1 g2
  go_wp2_with (first | (refine wpList_store_rowW rfl 37 _ _ rfl w5.heap.size (ruC noRu).toArray rfl rfl 37 zRu (alloc_new _ _) infoRu rfl (ruC_all noRu) w6 HW6.out ?_) | (refine wpList_load_row rfl 37 _ rfl w1.heap.size rfl 37 _ (0, 0) _ x6.out Tryz.underlying37 rfl infoRu ?_) | (refine wpList_load_row rfl 37 _ rfl w3.heap.size rfl 37 _ (0, 0) _ y6.out Tryz.underlying37 rfl infoRu ?_))
  obtain ⟨w7, hw7⟩ : ∃ w7, w7 = w6.alloc (.cells (ruCs [ru1, ru2]).toArray 37) := ⟨_, rfl⟩
  have hf : (List.foldl (fun (cs : Array Value) (x : Value × Nat) => cs.setIfInBounds (9 + x.snd) x.fst)
          (List.foldl (fun (cs : Array Value) (x : Value × Nat) => cs.setIfInBounds x.snd x.fst)
            #[Value.bool false, Value.int IntKind.u8 0, Value.int IntKind.u8 0, Value.int IntKind.u8 0,
              Value.int IntKind.u8 0, Value.int IntKind.i64 0, Value.string ⟨#[]⟩, Value.int IntKind.i64 0,
              Value.int IntKind.i64 0, Value.bool false, Value.int IntKind.u8 0, Value.int IntKind.u8 0,
              Value.int IntKind.u8 0, Value.int IntKind.u8 0, Value.int IntKind.i64 0, Value.string ⟨#[]⟩,
              Value.int IntKind.i64 0, Value.int IntKind.i64 0]
            (ruC ru1).zipIdx)
          (ruC ru2).zipIdx) = (ruCs [ru1, ru2]).toArray := by kernel_rfl
  rw [hf, ← hw7]
  have hb7 : Below w6.heap.size w6 w7 := by rw [hw7]; exact (Below.refl _ _).alloc (Nat.le_refl _) _
  have B7 := hide (B6.out.trans (hb7.mono B6.out.size))
  have T7 := hide (T6.out.below hb7)
  have S7 : Hid (SrcR w7 (some ⟨w6.heap.size, 0, none⟩) 2 2 [ru1, ru2]) := by
    refine ⟨rfl, Nat.le_refl _, by unfold maxLen; decide, (fun e => by cases e), fun _ => ⟨_, _, rfl, by rw [hw7]; simp, fun j u hu => ?_⟩, ?_⟩
    · have e : w7.heap[w6.heap.size]? = some (.cells (ruCs [ru1, ru2]).toArray 37) := by rw [hw7]; exact alloc_new _ _
      rw [Nat.zero_add]
      simp only [World.cell?, e]
      simpa using hu
    · intro r hr
      simp only [List.mem_cons, List.not_mem_nil, or_false] at hr
      rcases hr with rfl | rfl
      · exact ⟨⟨by decide, by decide, by decide, by decide⟩, by unfold maxLen; decide, by unfold in64; decide, by unfold in64; decide, by unfold in64; decide⟩
      · exact ⟨⟨by decide, by decide, by decide, by decide⟩, by unfold maxLen; decide, by unfold in64; decide, by unfold in64; decide, by unfold in64; decide⟩
  have N1 := hide (fun W => named_at ⟨#[97, 46, 101, 120, 97, 109, 112, 108, 101, 46, 99, 111, 109]⟩ 443 W)
  have N2 := hide (fun W => named_at ⟨#[101, 120, 97, 109, 112, 108, 101, 46, 99, 111, 109]⟩ 80 W)
  have M1 : Hid (∀ W, Vars W → SrcR W (some ⟨w6.heap.size, 0, none⟩) 2 2 [ru1, ru2] → Calls Tryz.prog 11 #[.slice (some ⟨w6.heap.size, 0, none⟩) 2 2, deV (0, 0, 0, 0) ⟨#[97, 46, 101, 120, 97, 109, 112, 108, 101, 46, 99, 111, 109]⟩ 443] W fun e w' => e = .returned (.bool true) ∧ Below W.heap.size W w') := fun W hv hs => by
    have := may_at _ 2 2 _ (0, 0, 0, 0) ⟨#[97, 46, 101, 120, 97, 109, 112, 108, 101, 46, 99, 111, 109]⟩ 443 W hs ⟨by decide, by decide, by decide, by decide⟩ (by unfold maxLen; decide) hv
    rw [my1] at this
    exact this
  have M2 : Hid (∀ W, Vars W → SrcR W (some ⟨w6.heap.size, 0, none⟩) 2 2 [ru1, ru2] → Calls Tryz.prog 11 #[.slice (some ⟨w6.heap.size, 0, none⟩) 2 2, deV (0, 0, 0, 0) ⟨#[101, 120, 97, 109, 112, 108, 101, 46, 99, 111, 109]⟩ 80] W fun e w' => e = .returned (.bool false) ∧ Below W.heap.size W w') := fun W hv hs => by
    have := may_at _ 2 2 _ (0, 0, 0, 0) ⟨#[101, 120, 97, 109, 112, 108, 101, 46, 99, 111, 109]⟩ 80 W hs ⟨by decide, by decide, by decide, by decide⟩ (by unfold maxLen; decide) hv
    rw [my2] at this
    exact this
  have M3 : Hid (∀ W, Vars W → SrcR W (some ⟨w6.heap.size, 0, none⟩) 2 2 [ru1, ru2] → Calls Tryz.prog 11 #[.slice (some ⟨w6.heap.size, 0, none⟩) 2 2, deV (10, 0, 0, 0) ⟨#[]⟩ 443] W fun e w' => e = .returned (.bool false) ∧ Below W.heap.size W w') := fun W hv hs => by
    have := may_at _ 2 2 _ (10, 0, 0, 0) ⟨#[]⟩ 443 W hs ⟨by decide, by decide, by decide, by decide⟩ (by unfold maxLen; decide) hv
    rw [my3] at this
    exact this
  simp only [deV] at N1 N2 M1 M2 M3
  clear hw7 hf hb7
  refine (N1.out _).mono ?_
  rintro e w8 ⟨rfl, hb⟩
  have B8 := hide (B7.out.trans (hb.mono B7.out.size))
  have T8 := hide (T7.out.below hb)
  have S8 := hide (S7.out.below hb)
  clear hb
  go_wp2_with fail
  refine (M1.out _ T8.out.v S8.out).mono ?_
  rintro e w9 ⟨rfl, hb⟩
  have B9 := hide (B8.out.trans (hb.mono B8.out.size))
  have T9 := hide (T8.out.below hb)
  have S9 := hide (S8.out.below hb)
  clear hb
  go_wp2_with fail
  refine (N2.out _).mono ?_
  rintro e wa ⟨rfl, hb⟩
  have BA := hide (B9.out.trans (hb.mono B9.out.size))
  have TA := hide (T9.out.below hb)
  have SA := hide (S9.out.below hb)
  clear hb
  go_wp2_with fail
  refine (M2.out _ TA.out.v SA.out).mono ?_
  rintro e wb ⟨rfl, hb⟩
  have BB := hide (BA.out.trans (hb.mono BA.out.size))
  have TB := hide (TA.out.below hb)
  have SB := hide (SA.out.below hb)
  clear hb
  go_wp2_with fail
  refine (M3.out _ TB.out.v SB.out).mono ?_
  rintro e wc ⟨rfl, hb⟩
  have BC := hide (BB.out.trans (hb.mono BB.out.size))
  clear hb
  go_wp2_with fail
  go_ret
  exact ⟨rfl, BC.out⟩

end Go.Proofs.YtiejandeoopiiaaGreatDoor
