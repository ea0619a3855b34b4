/-
  The walk of SlabClean: whatever the arguments hold, the call answers true and turns nothing that was there.
-/
import Derived.Test.YtnikjcinleghbaaDoorU
set_option linter.unusedSimpArgs false
set_option linter.unusedVariables false
namespace Go.Proofs.YtnikjcinleghbaaDoor
open Go.RowKit

/-- The first j of bl are held. -/
def heldTo (j bl : Nat) : List Bool := List.replicate j true ++ List.replicate (bl - j) false
theorem heldTo_length (j bl : Nat) (h : j ≤ bl) : (heldTo j bl).length = bl := by simp [heldTo]; omega
theorem heldTo_zero (bl : Nat) : heldTo 0 bl = allFree bl := by simp [heldTo, allFree]
theorem heldTo_getD (j bl k : Nat) (h : j ≤ bl) : (heldTo j bl).getD k true = !(decide (j ≤ k) && decide (k < bl)) := by
  simp only [heldTo, List.getD, List.getElem?_append, List.length_replicate, List.getElem?_replicate]
  by_cases h1 : k < j
  · have h2 : ¬ j ≤ k := by omega
    simp [h1, h2]
  · have h2 : j ≤ k := by omega
    by_cases h3 : k < bl
    · have h4 : k - j < bl - j := by omega
      simp [h1, h2, h3, h4]
    · have h4 : ¬ k - j < bl - j := by omega
      simp [h1, h2, h3, h4]
theorem heldTo_lst (j bl : Nat) (h : j ≤ bl) : lst (heldTo j bl) = j := by
  rcases Nat.lt_or_ge j bl with h1 | h1
  · refine lst_eq _ j (by rw [heldTo_length j bl h]; exact h1) (by rw [heldTo_getD j bl j h]; simp [h1]) (fun i hi => by
      rw [heldTo_getD j bl i h]
      have : ¬ j ≤ i := by omega
      simp [this])
  · obtain rfl : j = bl := by omega
    have := lst_all (heldTo j j) (fun i hi => by
      rw [heldTo_getD j j i (Nat.le_refl _)]
      rw [heldTo_length j j (Nat.le_refl _)] at hi
      have : ¬ j ≤ i := by omega
      simp [this])
    rw [this, heldTo_length j j (Nat.le_refl _)]
theorem heldTo_set (j bl : Nat) (h : j < bl) : (heldTo j bl).set j true = heldTo (j + 1) bl := by
  apply List.ext_getElem
  · simp [heldTo]; omega
  · intro i h1 h2
    have e1 := getDb_set (heldTo j bl) j true i (by rw [heldTo_length j bl (by omega)]; exact h)
    rw [heldTo_getD j bl i (by omega)] at e1
    have e2 := heldTo_getD (j + 1) bl i (by omega)
    simp only [List.getD, List.getElem?_eq_getElem h1, Option.getD_some] at e1
    simp only [List.getD, List.getElem?_eq_getElem h2, Option.getD_some] at e2
    rw [e1, e2]
    by_cases hij : j = i
    · subst hij; simp
    · have : (j ≤ i) = (j + 1 ≤ i) := by apply propext; omega
      simp [hij, this]
theorem heldTo_count (j bl : Nat) (h : j ≤ bl) : (heldTo j bl).count true = j ∧ (heldTo j bl).count false = bl - j := by
  constructor <;> simp [heldTo, List.count_append, List.count_replicate]

theorem splice_mid (L cs : List Int) (o : Nat) (h : o + cs.length ≤ L.length) : ((splice L o cs).drop o).take cs.length = cs := by
  unfold splice
  have e : (L.take o).length = o := by rw [List.length_take]; omega
  rw [List.drop_append_of_le_length (by omega), List.drop_of_length_le (by omega), List.nil_append, List.take_append_of_le_length (Nat.le_refl _), List.take_length]

set_option maxRecDepth 100000 in
set_option maxHeartbeats 4000000 in
theorem clean_walk (a0 a1 : Int) (a2 : Option Addr) (len2 cap2 : Nat) (a3 : Int) (w : World) (hT : Tab w) (hA : IsActs w a2 len2 cap2) :
    Calls Tryd.prog 5 #[.int .i64 a0, .int .i64 a1, .slice a2 len2 cap2, .int .i64 a3] w fun e w' => e = .returned (.bool true) ∧ Below w.heap.size w w' := by
  have HT := hide hT
  have HA := hide hA.2.2
  have hlc := hA.1
  have hcm : cap2 ≤ maxLen := hA.2.1
  have HCM := hide hcm
  have hpos := hT.pos
  clear hT hA hcm
  go_enter Tryd.func5, Tryd.ntmps5
  go_wp2_with fail
  refine (works_true _ HT.out).mono ?_
  rintro e w1 ⟨rfl, hb1⟩
  have HB1 := hide hb1
  have HT1 := hide (HT.out.keep (hb1.block 0 hpos))
  have hs1 := hb1.size
  clear hb1
  go_wp2_with fail
  refine (among a1 64 (by omega) (by omega) _).mono ?_
  rintro e w2 ⟨sz, hsz, rfl, rfl⟩
  go_wp2_with fail
  refine (among a0 12 (by omega) (by omega) _).mono ?_
  rintro e w2 ⟨bl, hbl, rfl, rfl⟩
  go_wp2_with fail
  have hpr : bl * sz ≤ 12 * 64 := Nat.mul_le_mul (by omega) (by omega)
  refine (new_good bl sz w1 (by omega) (by omega) (by omega) HT1.out).mono ?_
  rintro e w2 ⟨rfl, hr2, hb2⟩
  obtain ⟨g, hg⟩ : ∃ g, g = w1.heap.size := ⟨_, rfl⟩
  rw [← hg] at hr2
  rw [← hg]
  have hg0 : w.heap.size ≤ g := by omega
  have HS2 : Hid (IsSlab w2 (g + 1) g bl sz (heldTo 0 bl) (zeros (bl * sz))) := by rw [heldTo_zero]; exact hr2
  have HB2 : Hid (Below w.heap.size w w2) := HB1.out.trans (hb2.mono hs1)
  clear hr2 hb2 hg hpr HB1 HT1 hs1
  go_wp2_with fail
  go_loopw [12] (fun _ wr => ∃ j : Nat, j ≤ bl ∧ Hid (IsSlab wr (g + 1) g bl sz (heldTo j bl) (zeros (bl * sz))) ∧ Hid (Below w.heap.size w wr)) (fun _ wr => freeIn wr (g + 1))
  case atStart => exact ⟨0, Nat.zero_le _, HS2, HB2⟩
  case round =>
    obtain ⟨j, hj, HS, HB⟩ := hrel
    clear HS2 HB2
    by_cases h1 : j < bl
    · go_wp2_with fail
      refine (get_ok (g + 1) g bl sz _ _ j wr HS.out (heldTo_lst j bl hj) h1).mono ?_
      rintro e w3 ⟨rfl, hs3, hk3⟩
      rw [heldTo_set j bl h1] at hs3
      have HS3 := hide hs3
      have HB3 : Hid (Below w.heap.size w w3) := HB.out.trans (hk3.below (by omega) (by omega) HB.out.size)
      clear hs3 hk3
      go_wp2_with fail
      refine (used_at (g + 1) g bl sz _ _ w3 HS3.out).mono ?_
      rintro e w4 ⟨rfl, n4, rfl⟩
      rw [(heldTo_count (j + 1) bl h1).1]
      go_wp2_with fail
      go_roundw
      case rel => exact ⟨j + 1, by omega, HS3.out.drewN n4, below_drewN HB3.out n4⟩
      case measure =>
        rw [(HS3.out.drewN n4).freeIn, HS.out.freeIn, (heldTo_count (j + 1) bl h1).2, (heldTo_count j bl hj).2]
        omega
    · obtain rfl : j = bl := by omega
      go_wp2_with fail
      refine (get_full (g + 1) g j sz _ _ wr HS.out (heldTo_lst j j hj)).mono ?_
      rintro e w3 ⟨rfl, n3, rfl⟩
      have HS3 := hide (HS.out.drewN n3)
      have HB3 := hide (below_drewN HB.out n3)
      clear HS HB
      go_wp2_with fail
      go_loopw [13] (fun i wr => ∃ (k : Nat) (zs : List Int), k ≤ len2 ∧ i = .int .i64 k ∧ Hid (IsSlab wr (g + 1) g j sz (heldTo j j) zs) ∧ Hid (Below w.heap.size w wr)) (fun i _ => len2 - (intOf i).toNat)
      case atStart => exact ⟨0, _, Nat.zero_le _, rfl, HS3, HB3⟩
      case round =>
        obtain ⟨k, zs, hk, rfl, HS, HB⟩ := hrel
        clear HS3 HB3
        by_cases h2 : k < len2
        · obtain ⟨A, o, e2, hAl, hacts⟩ := HA.out (by omega)
          subst e2
          obtain ⟨x, hx⟩ := hacts k h2
          obtain ⟨kind, b, at_, n, ad, l, c, bs⟩ := x
          have q1 : wr.cell? ⟨A, o + k * 5 + 1, none⟩ = some (.int .i64 b) := (HB.out.cell (p := ⟨A, o + k * 5 + 1, none⟩) hAl).trans hx.c1
          have q2 : wr.cell? ⟨A, o + k * 5 + 2, none⟩ = some (.int .i64 at_) := (HB.out.cell (p := ⟨A, o + k * 5 + 2, none⟩) hAl).trans hx.c2
          have q4 : wr.cell? ⟨A, o + k * 5 + 4, none⟩ = some (.slice ad l c) := (HB.out.cell (p := ⟨A, o + k * 5 + 4, none⟩) hAl).trans hx.c4
          have HRow : Hid (IsRow .u8 w ad l c bs) := hx.row
          have HSrc : Hid (Src wr ad l c (bs.take l)) := (row_src HRow.out).keep (fun b o e h0 => HB.out.block b (row_old HRow.out h0 b o e))
          have HCM2 : Hid (cap2 ≤ maxLen) := HCM
          have hcm2 : cap2 ≤ 9223372036854775807 := by have := HCM.out; unfold maxLen at this; omega
          have hAg : A ≠ g := by omega
          have hAr : A < wr.heap.size := Nat.lt_of_lt_of_le hAl HB.out.size
          clear hacts hx
          go_wp2_with fail
          go_region_held3 (fun w' => w'.cell? ⟨A, o + k * 5 + 1, none⟩ = some (.int .i64 b) ∧ w'.cell? ⟨A, o + k * 5 + 2, none⟩ = some (.int .i64 at_) ∧ w'.cell? ⟨A, o + k * 5 + 4, none⟩ = some (.slice ad l c)) (go_keep) (first
            | (go_at_call 16; refine (write_any (g + 1) g j sz (heldTo j j) zs b at_ ad l c (bs.take l) _ ?_ ?_).mono ?_; exact HS.out.keep rfl rfl rfl; exact HSrc.out.keep (fun _ _ _ _ => rfl); rintro e w5 ⟨rfl, hs5, hk5⟩; have HS5 := hide hs5; have HK5 : Hid (Kept g g wr w5) := ⟨hk5.os, hk5.tape, hk5.output, hk5.size, hk5.block⟩; have q1a : w5.cell? ⟨A, o + k * 5 + 1, none⟩ = some (.int .i64 b) := (World.cell?_of_block (w := wr) (HK5.out.block A hAr hAg hAg)).trans q1; have q2a : w5.cell? ⟨A, o + k * 5 + 2, none⟩ = some (.int .i64 at_) := (World.cell?_of_block (w := wr) (HK5.out.block A hAr hAg hAg)).trans q2; have q4a : w5.cell? ⟨A, o + k * 5 + 4, none⟩ = some (.slice ad l c) := (World.cell?_of_block (w := wr) (HK5.out.block A hAr hAg hAg)).trans q4; clear hs5 hk5))
          all_goals
            go_wp2_with fail
            go_roundw
            case rel => exact ⟨k + 1, _, by omega, by go_num, HS5, HB.out.trans (HK5.out.below (by omega) (by omega) HB.out.size)⟩
            case measure => simp [intOf]; omega
        · go_wp2_with fail
          have hl : (heldTo j j).length = j := heldTo_length j j hj
          cases hh : heldAt (heldTo j j) a3 with
          | false =>
            refine (put_none (g + 1) g j sz _ _ a3 wr HS.out hh).mono ?_
            rintro e w5 ⟨rfl, n5, rfl⟩
            go_wp2_with fail
            go_ret
            exact ⟨rfl, below_drewN HB.out n5⟩
          | true =>
            obtain ⟨m, rfl, hm, hm2⟩ := heldAt_true hh
            rw [hl] at hm
            refine (put_ok (g + 1) g j sz _ _ m wr HS.out hm hm2).mono ?_
            rintro e w5 ⟨rfl, hs5, hk5⟩
            have HS5 := hide hs5
            have HB5 : Hid (Below w.heap.size w w5) := HB.out.trans (hk5.below (by omega) (by omega) HB.out.size)
            have hlst : lst ((heldTo j j).set m false) = m := lst_eq _ m (by rw [List.length_set, hl]; exact hm) (by rw [getDb_set _ _ _ _ (by rw [hl]; exact hm), if_pos rfl]) (fun i hi => by
              rw [getDb_set _ _ _ _ (by rw [hl]; exact hm), if_neg (by omega), heldTo_getD j j i hj]
              simp
              omega)
            have HLst := hide hlst
            have hfz : m * sz + (zeros sz).length ≤ zs.length := by rw [zeros_length, HS.out.zlen]; exact piece_fits m j sz hm
            have HMid : Hid (((splice zs (m * sz) (zeros sz)).drop (m * sz + 0)).take sz = zeros sz) := by
              have := splice_mid zs (zeros sz) (m * sz) hfz
              rw [zeros_length] at this
              exact this
            clear hs5 hk5 hlst hfz hh hm2
            go_wp2_with fail
            refine (get_ok (g + 1) g j sz _ _ m w5 HS5.out HLst.out hm).mono ?_
            rintro e w6 ⟨rfl, hs6, hk6⟩
            have HS6 := hide hs6
            have HB6 : Hid (Below w.heap.size w w6) := HB5.out.trans (hk6.below (by omega) (by omega) HB5.out.size)
            clear hs6 hk6 HS5 HB5
            go_wp2_with fail
            refine (read_ok (g + 1) g j sz _ _ m 0 sz w6 HS6.out hm (by rw [List.set_set, getDb_set _ _ _ _ (by rw [hl]; exact hm), if_pos rfl]) (by omega)).mono ?_
            rintro e w7 ⟨rfl, hg7, hb7⟩
            rw [HMid.out] at hg7
            have HG7 := hide hg7
            have HB7 : Hid (Below w.heap.size w w7) := HB6.out.trans (hb7.mono HB6.out.size)
            have hmk := run_make0 sz (by omega)
            clear hg7 hb7
            go_wp2_with fail
            refine (same_bytes (w7.alloc (.cells (vals (zeros sz)).toArray 5)) (some ⟨w6.heap.size, 0, none⟩) (some ⟨w7.heap.size, 0, none⟩) sz sz sz sz (zeros sz) (src_block (alloc_old _ HG7.out) (zeros_length sz) (by omega) (zeros_byte sz)) (src_block (alloc_new _ _) (zeros_length sz) (by omega) (zeros_byte sz))).mono ?_
            rintro e w8 ⟨rfl, rfl⟩
            go_wp2_with fail
            go_ret
            exact ⟨rfl, HB7.out.alloc HB7.out.size _⟩

end Go.Proofs.YtnikjcinleghbaaDoor
