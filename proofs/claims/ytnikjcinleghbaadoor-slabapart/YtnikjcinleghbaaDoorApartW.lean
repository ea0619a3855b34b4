/-
  The walk of SlabApart: whatever the arguments hold, the call answers true and turns nothing that was there.
-/
import Derived.Test.YtnikjcinleghbaaDoorCleanW
set_option linter.unusedSimpArgs false
set_option linter.unusedVariables false
namespace Go.Proofs.YtnikjcinleghbaaDoor
open Go.RowKit

/-- The first m blocks hold what was written into them. -/
def Filled (zs : List Int) (sz m : Nat) : Prop := ∀ k, k < m → ∀ j, j < sz → zs.getD (k * sz + j) 0 = k + j

theorem filled_more {zs : List Int} {sz i : Nat} (h : Filled zs sz i) {cs : List Int} {o : Nat} (ho : o + cs.length ≤ sz) (hf : i * sz + o + cs.length ≤ zs.length) : Filled (splice zs (i * sz + o) cs) sz i := fun k hk j hj => by
  rw [other_block (by omega) ho hf hj]
  exact h k hk j hj

set_option maxRecDepth 100000 in
set_option maxHeartbeats 4000000 in
theorem apart_walk (a0 a1 a2 a3 a4 : Int) (ad : Option Addr) (len cap : Nat) (z : List Int) (w : World) (hT : Tab w) (hR : IsRow .u8 w ad len cap z) :
    Calls Tryd.prog 4 #[.int .i64 a0, .int .i64 a1, .int .i64 a2, .int .i64 a3, .int .i64 a4, .slice ad len cap] w fun e w' => e = .returned (.bool true) ∧ Below w.heap.size w w' := by
  have HT := hide hT
  have HR := hide hR
  have hlc := (row_len hR).2.1
  have hcm : cap ≤ 9223372036854775807 := by have := (row_len hR).2.2.1; unfold maxLen at this; omega
  have hpos := hT.pos
  clear hT hR
  go_enter Tryd.func4, Tryd.ntmps4
  go_wp2_with fail
  refine (works_true _ HT.out).mono ?_
  rintro e w1 ⟨rfl, hb1⟩
  have HB1 := hide hb1
  have HT1 := hide (HT.out.keep (hb1.block 0 hpos))
  have hs1 := hb1.size
  clear hb1
  go_wp2_with fail
  refine (among a0 20 (by omega) (by omega) _).mono ?_
  rintro e w2 ⟨bl, hbl, rfl, rfl⟩
  go_wp2_with fail
  refine (among a1 64 (by omega) (by omega) _).mono ?_
  rintro e w2 ⟨sz, hsz, rfl, rfl⟩
  go_wp2_with fail
  have hpr : bl * sz ≤ 20 * 64 := Nat.mul_le_mul (by omega) (by omega)
  refine (new_good bl sz w1 (by omega) (by omega) (by omega) HT1.out).mono ?_
  rintro e w2 ⟨rfl, hr2, hb2⟩
  obtain ⟨g, hg⟩ : ∃ g, g = w1.heap.size := ⟨_, rfl⟩
  rw [← hg] at hr2
  rw [← hg]
  have hg0 : w.heap.size ≤ g := by omega
  have HS2 : Hid (IsSlab w2 (g + 1) g bl sz (heldTo 0 bl) (zeros (bl * sz))) := by rw [heldTo_zero]; exact hr2
  have HB2 : Hid (Below w.heap.size w w2) := HB1.out.trans (hb2.mono hs1)
  clear hr2 hb2 hg hpr HB1 HT1 hs1
  go_wp2_with fail
  refine (among a2 20 (by omega) (by omega) _).mono ?_
  rintro e w3 ⟨n, hn, rfl, rfl⟩
  go_wp2_with fail
  go_loopw [15] (fun i wr => ∃ (k m : Nat) (zs : List Int), k ≤ n ∧ m ≤ bl ∧ m ≤ k ∧ (m = k ∨ m = bl) ∧ i = .int .i64 k ∧ Hid (IsSlab wr (g + 1) g bl sz (heldTo m bl) zs) ∧ Hid (Filled zs sz m) ∧ Hid (Below w.heap.size w wr)) (fun i _ => n - (intOf i).toNat)
  case atStart => exact ⟨0, 0, _, Nat.zero_le _, Nat.zero_le _, Nat.le_refl _, Or.inl rfl, rfl, HS2, fun k hk => by omega, HB2⟩
  case round =>
    obtain ⟨k, m, zs, hk, hmb, hmk, hm, rfl, HS, HF, HB⟩ := hrel
    have HM := hide hm
    clear HS2 HB2 hm
    by_cases h1 : k < n
    · by_cases h2 : m < bl
      · obtain rfl : m = k := by rcases HM.out with h | h <;> omega
        have hmk0 := run_make0 sz (by omega)
        go_wp2_with fail
        refine (get_ok (g + 1) g bl sz _ _ m wr HS.out (heldTo_lst m bl hmb) h2).mono ?_
        rintro e w3 ⟨rfl, hs3, hk3⟩
        rw [heldTo_set m bl h2] at hs3
        have HS3 := hide hs3
        have HB3 : Hid (Below w.heap.size w w3) := HB.out.trans (hk3.below (by omega) (by omega) HB.out.size)
        clear hs3 hk3
        go_wp2_with fail
        have hl3 := HS3.out.lt
        have HS4 : Hid (IsSlab (w3.alloc (.cells (vals (zeros sz)).toArray 5)) (g + 1) g bl sz (heldTo (m + 1) bl) zs) := HS3.out.keep (Below.heap_alloc _ _ _ hl3.2.2) (Below.heap_alloc _ _ _ hl3.1) (Below.heap_alloc _ _ _ hl3.2.1)
        have hheld : (heldTo (m + 1) bl).getD m true = true := by rw [heldTo_getD (m + 1) bl m (by omega)]; simp
        have HHeld := hide hheld
        clear hheld
        refine (write_ok (g + 1) g bl sz _ zs m 0 (some ⟨w3.heap.size, 0, none⟩) sz sz (zeros sz) (w3.alloc (.cells (vals (zeros sz)).toArray 5)) HS4.out h2 HHeld.out (src_block (alloc_new w3 _) (zeros_length sz) (by omega) (zeros_byte sz)) (by omega)).mono ?_
        rintro e w4 ⟨rfl, hs4, hk4⟩
        have hfz : m * sz + 0 + (zeros sz).length ≤ zs.length := by have := piece_fits m bl sz h2; rw [zeros_length, HS.out.zlen]; omega
        have HF4 : Hid (Filled (splice zs (m * sz + 0) (zeros sz)) sz m) := filled_more HF.out (by rw [zeros_length]; omega) hfz
        have HS5 := hide hs4
        have HB5 : Hid (Below w.heap.size w w4) := (HB3.out.alloc HB3.out.size _).trans (hk4.below (by omega) (by omega) (by have := HB3.out.size; simp; omega))
        generalize splice zs (m * sz + 0) (zeros sz) = zs1 at HF4 HS5
        clear hs4 hk4 hfz HS3 HS4 HB3 hmk0 hl3 HF HS HB
        go_wp2_with fail
        go_loopw [18] (fun i wx => ∃ (j : Nat) (zs2 : List Int), j ≤ sz ∧ i = .int .i64 j ∧ Hid (IsSlab wx (g + 1) g bl sz (heldTo (m + 1) bl) zs2) ∧ Hid (Filled zs2 sz m) ∧ Hid (∀ i, i < j → zs2.getD (m * sz + i) 0 = m + i) ∧ Hid (Below w.heap.size w wx)) (fun i _ => sz - (intOf i).toNat)
        case atStart => exact ⟨0, _, Nat.zero_le _, rfl, HS5, HF4, (fun i hi => by omega), HB5⟩
        case round =>
          obtain ⟨j, zs2, hj, rfl, HS, HF, HJ, HB⟩ := hrel
          clear HS5 HF4 HB5
          by_cases h3 : j < sz
          · have hl3 := HS.out.lt
            have HS4 : Hid (IsSlab (wr.alloc (.cells (vals [(m : Int) + j]).toArray 5)) (g + 1) g bl sz (heldTo (m + 1) bl) zs2) := HS.out.keep (Below.heap_alloc _ _ _ hl3.2.2) (Below.heap_alloc _ _ _ hl3.1) (Below.heap_alloc _ _ _ hl3.2.1)
            go_wp2_with fail
            refine (write_ok (g + 1) g bl sz _ zs2 m j (some ⟨wr.heap.size, 0, none⟩) 1 1 [(m : Int) + j] (wr.alloc (.cells (vals [(m : Int) + j]).toArray 5)) HS4.out h2 HHeld.out (src_block (alloc_new wr _) rfl (by omega) (by intro x hx; simp at hx; omega)) (by omega)).mono ?_
            rintro e w4 ⟨rfl, hs4, hk4⟩
            have hfz : m * sz + j + [(m : Int) + j].length ≤ zs2.length := by have := piece_fits m bl sz h2; rw [HS.out.zlen]; simp; omega
            have HF4 : Hid (Filled (splice zs2 (m * sz + j) [(m : Int) + j]) sz m) := filled_more HF.out (by simp; omega) hfz
            have HJ4 : Hid (∀ i, i < j + 1 → (splice zs2 (m * sz + j) [(m : Int) + j]).getD (m * sz + i) 0 = m + i) := fun i hi => by
              rw [own_block hfz]
              by_cases hij : i < j
              · rw [if_pos hij]; exact HJ.out i hij
              · obtain rfl : i = j := by omega
                rw [if_neg hij, if_pos (by simp)]
                simp
            have HS5 := hide hs4
            have HB5 : Hid (Below w.heap.size w w4) := (HB.out.alloc HB.out.size _).trans (hk4.below (by omega) (by omega) (by have := HB.out.size; simp; omega))
            clear hs4 hk4 hfz HS4 hl3
            go_wp2_with fail
            go_roundw
            case rel => exact ⟨j + 1, _, by omega, by go_num, HS5, HF4, HJ4, HB5⟩
            case measure => simp [intOf]; omega
          · obtain rfl : j = sz := by omega
            go_wp2_with fail
            go_roundw
            case rel =>
              refine ⟨m + 1, m + 1, zs2, by omega, by omega, Nat.le_refl _, Or.inl rfl, by go_num, HS, ?_, HB⟩
              show Filled zs2 j (m + 1)
              intro k hk i hi
              rcases Nat.lt_or_ge k m with h | h
              · exact HF.out k h i hi
              · obtain rfl : k = m := by omega
                exact HJ.out i hi
            case measure => simp [intOf]; omega
      · obtain rfl : m = bl := by omega
        go_wp2_with fail
        refine (get_full (g + 1) g m sz _ _ wr HS.out (heldTo_lst m m hmb)).mono ?_
        rintro e w3 ⟨rfl, n3, rfl⟩
        go_wp2_with fail
        go_loopw [18] (fun _ wx => Hid (wx = wr.drewN n3)) (fun _ _ => 0)
        case atStart => exact rfl
        case round =>
          have hwx := hrel.out
          subst hwx
          go_wp2_with fail
          go_roundw
          case rel => exact ⟨k + 1, m, zs, by omega, by omega, by omega, Or.inr rfl, by go_num, HS.out.drewN n3, HF, below_drewN HB.out n3⟩
          case measure => simp [intOf]; omega
    · have HSrc : Hid (Src wr ad len cap (z.take len)) := (row_src HR.out).keep (fun b o e h0 => HB.out.block b (row_old HR.out h0 b o e))
      obtain rfl : k = n := by omega
      have hms : (bl < k ∧ bl ≤ m) ∨ (k < bl ∧ k ≤ m) ∨ (k ≤ bl ∧ bl ≤ k ∧ k ≤ m) := by rcases HM.out with h | h <;> omega
      have HMS := hide hms
      clear hms
      go_wp2_with fail
      refine (write_any (g + 1) g bl sz _ zs a3 a4 ad len cap (z.take len) wr HS.out HSrc.out).mono ?_
      rintro e w3 ⟨rfl, hs3, hk3⟩
      have HB3 : Hid (Below w.heap.size w w3) := HB.out.trans (hk3.below (by omega) (by omega) HB.out.size)
      have HS3 := hide hs3
      have hzl : (z.take len).length = len := HSrc.out.hlen
      have HZL := hide hzl
      by_cases hcd : (heldAt (heldTo m bl) a3 && inAt sz a4 len) = true
      · have HBr := HB
        obtain ⟨hcd1, hcd2⟩ : heldAt (heldTo m bl) a3 = true ∧ inAt sz a4 len = true := by simpa using hcd
        obtain ⟨kb, rfl, hkb, hkb2⟩ := heldAt_true hcd1
        obtain ⟨o, len', rfl, hl', hom⟩ := inAt_true hcd2
        obtain rfl : len = len' := by omega
        rw [heldTo_length m bl hmb] at hkb
        have HS4 : Hid (IsSlab w3 (g + 1) g bl sz (heldTo m bl) (splice zs (kb * sz + o) (z.take len))) := by
          have := HS3.out
          unfold wzs at this
          rw [HZL.out, if_pos hcd] at this
          exact this
        have HFit : Hid (kb * sz + o + (z.take len).length ≤ zs.length) := by
          have h1 := piece_fits kb bl sz hkb
          have h2 := HS.out.zlen
          show _ ≤ _
          rw [HZL.out]
          omega
        have hw0 : wcode (heldTo m bl) sz kb o len = 0 := by unfold wcode; rw [if_pos hcd1, if_pos hcd2]
        rw [hw0]
        clear hs3 hk3 hcd HS3 hzl HS HB hw0 hcd1 hcd2 hl' hkb2
        go_wp2_with fail
        rcases HMS.out with ⟨hx1, hx2⟩ | ⟨hx1, hx2⟩ | ⟨hx1, hx2, hx3⟩
        all_goals
          go_loopw [19] (fun i wx => ∃ q : Nat, q ≤ m ∧ i = .int .i64 q ∧ Hid (IsSlab wx (g + 1) g bl sz (heldTo m bl) (splice zs (kb * sz + o) (z.take len))) ∧ Hid (Below w.heap.size w wx)) (fun i _ => m - (intOf i).toNat)
          case atStart => exact ⟨0, Nat.zero_le _, rfl, HS4, HB3⟩
          case round =>
            obtain ⟨q, hq, rfl, HS, HB⟩ := hrel
            clear HS4 HB3
            by_cases h3 : q < m
            · go_wp2_with fail
              refine (read_ok (g + 1) g bl sz _ _ q 0 sz wr HS.out (by omega) (by rw [heldTo_getD m bl q hmb]; simp; omega) (by omega)).mono ?_
              rintro e w4 ⟨rfl, hg4, hb4⟩
              have HS5 := hide (HS.out.below hb4 HS.out.lt.1 HS.out.lt.2.1)
              have HB5 : Hid (Below w.heap.size w w4) := HB.out.trans (hb4.mono HB.out.size)
              obtain ⟨h, hh⟩ : ∃ h, h = wr.heap.size := ⟨_, rfl⟩
              rw [← hh] at hg4
              rw [← hh]
              have HCell : Hid (∀ j, j < sz → w4.cell? ⟨h, j, none⟩ = some (.int .u8 ((splice zs (kb * sz + o) (z.take len)).getD (q * sz + j) 0))) := fun j hj => by
                have hzl := HS.out.zlen
                have hpf := piece_fits q bl sz (by omega)
                have hle : j < (((splice zs (kb * sz + o) (z.take len)).drop (q * sz + 0)).take sz).length := by rw [List.length_take, List.length_drop]; omega
                rw [row_cell hg4 j hle]
                congr 2
                simp [List.getD, List.getElem?_take, hj]
              clear hg4 hb4 hh
              go_wp2_with fail
              go_loopw [22] (fun i wx => ∃ j : Nat, j ≤ sz ∧ i = .int .i64 j ∧ Hid (∃ nn, wx = w4.drewN nn)) (fun i _ => sz - (intOf i).toNat)
              case atStart => exact ⟨0, Nat.zero_le _, rfl, 0, rfl⟩
              case round =>
                obtain ⟨j, hj, rfl, HN⟩ := hrel
                obtain ⟨nn, hnn⟩ := HN.out
                subst hnn
                clear HN
                by_cases h4 : j < sz
                · by_cases hqk : q = kb
                  · subst hqk
                    by_cases ho1 : o ≤ j
                    · by_cases ho2 : j < o + len
                      · obtain ⟨d, rfl⟩ : ∃ d, j = o + d := ⟨j - o, by omega⟩
                        obtain ⟨bb, bo, e5, hsrc⟩ := HSrc.out.lies (by omega)
                        have hbb := row_old HR.out (by omega) bb bo e5
                        subst e5
                        have hc : w4.cell? ⟨h, o + d, none⟩ = some (.int .u8 ((z.take len).getD d 0)) := by
                          rw [HCell.out (o + d) h4, own_block HFit.out, if_neg (by omega), if_pos (by rw [HZL.out]; omega), show o + d - o = d by omega]
                        have hcb : w4.cell? ⟨bb, bo + d, none⟩ = some (.int .u8 ((z.take len).getD d 0)) := by
                          have h0 : ∀ wx : World, Below w.heap.size w wx → wx.cell? ⟨bb, bo + d, none⟩ = w.cell? ⟨bb, bo + d, none⟩ := fun wx hx => hx.cell (p := ⟨bb, bo + d, none⟩) hbb
                          rw [h0 w4 HB5.out, ← h0 _ HBr.out]
                          exact hsrc d (by omega)
                        generalize (z.take len).getD d 0 = v at hc hcb
                        clear hsrc
                        have hdl : d < len := by omega
                        have hod : (o : Int) + d - o = d := by omega
                        have hdt : decide ((d : Int) < len) = true := by simp; omega
                        go_wp2_with fail
                        go_quiet (fail)
                        go_wp2_with fail
                        go_roundw
                        case rel => exact ⟨o + d + 1, by omega, by go_num, _, rfl⟩
                        case measure => simp [intOf]; omega
                      · have hc : w4.cell? ⟨h, j, none⟩ = some (.int .u8 ((q : Int) + j)) := by
                          rw [HCell.out j h4, own_block HFit.out, if_neg (by omega), if_neg (by rw [HZL.out]; omega), HF.out q h3 j h4]
                        have hdf : decide ((j : Int) - o < len) = false := by simp; omega
                        go_wp2_with fail
                        go_quiet (fail)
                        go_wp2_with fail
                        go_roundw
                        case rel => exact ⟨j + 1, by omega, by go_num, _, rfl⟩
                        case measure => simp [intOf]; omega
                    · have hc : w4.cell? ⟨h, j, none⟩ = some (.int .u8 ((q : Int) + j)) := by
                        rw [HCell.out j h4, own_block HFit.out, if_pos (by omega), HF.out q h3 j h4]
                      go_wp2_with fail
                      go_quiet (fail)
                      go_wp2_with fail
                      go_roundw
                      case rel => exact ⟨j + 1, by omega, by go_num, _, rfl⟩
                      case measure => simp [intOf]; omega
                  · have hc : w4.cell? ⟨h, j, none⟩ = some (.int .u8 ((q : Int) + j)) := by
                      rw [HCell.out j h4, other_block hqk (by rw [HZL.out]; exact hom) HFit.out h4, HF.out q h3 j h4]
                    go_wp2_with fail
                    go_quiet (fail)
                    go_wp2_with fail
                    go_roundw
                    case rel => exact ⟨j + 1, by omega, by go_num, _, rfl⟩
                    case measure => simp [intOf]; omega
                · obtain rfl : j = sz := by omega
                  go_wp2_with fail
                  go_roundw
                  case rel => exact ⟨q + 1, by omega, by go_num, HS5.out.drewN nn, below_drewN HB5.out nn⟩
                  case measure => simp [intOf]; omega
            · go_wp2_with fail
              go_ret
              exact ⟨rfl, HB.out⟩
      · obtain ⟨cd, hcd0⟩ : ∃ cd, cd = wcode (heldTo m bl) sz a3 a4 len := ⟨_, rfl⟩
        have hcdn : ¬ cd = 0 := by
          rw [hcd0]
          unfold wcode
          simp at hcd
          split
          · rename_i hh
            rw [if_neg (by rw [hcd hh]; simp)]
            omega
          · omega
        have HS4 : Hid (IsSlab w3 (g + 1) g bl sz (heldTo m bl) zs) := by
          have := HS3.out
          unfold wzs at this
          rw [HZL.out, if_neg hcd] at this
          exact this
        rw [← hcd0]
        clear hs3 hk3 hcd hcd0 HS3 hzl HS HB
        go_wp2_with fail
        rcases HMS.out with ⟨hx1, hx2⟩ | ⟨hx1, hx2⟩ | ⟨hx1, hx2, hx3⟩
        all_goals
          go_loopw [19] (fun i wx => ∃ q : Nat, q ≤ m ∧ i = .int .i64 q ∧ Hid (IsSlab wx (g + 1) g bl sz (heldTo m bl) zs) ∧ Hid (Below w.heap.size w wx)) (fun i _ => m - (intOf i).toNat)
          case atStart => exact ⟨0, Nat.zero_le _, rfl, HS4, HB3⟩
          case round =>
            obtain ⟨q, hq, rfl, HS, HB⟩ := hrel
            clear HS4 HB3
            by_cases h3 : q < m
            · go_wp2_with fail
              refine (read_ok (g + 1) g bl sz _ _ q 0 sz wr HS.out (by omega) (by rw [heldTo_getD m bl q hmb]; simp; omega) (by omega)).mono ?_
              rintro e w4 ⟨rfl, hg4, hb4⟩
              have HS5 := hide (HS.out.below hb4 HS.out.lt.1 HS.out.lt.2.1)
              have HB5 : Hid (Below w.heap.size w w4) := HB.out.trans (hb4.mono HB.out.size)
              obtain ⟨h, hh⟩ : ∃ h, h = wr.heap.size := ⟨_, rfl⟩
              rw [← hh] at hg4
              rw [← hh]
              have HCell : Hid (∀ j, j < sz → w4.cell? ⟨h, j, none⟩ = some (.int .u8 ((zs).getD (q * sz + j) 0))) := fun j hj => by
                have hzl := HS.out.zlen
                have hpf := piece_fits q bl sz (by omega)
                have hle : j < (((zs).drop (q * sz + 0)).take sz).length := by rw [List.length_take, List.length_drop]; omega
                rw [row_cell hg4 j hle]
                congr 2
                simp [List.getD, List.getElem?_take, hj]
              clear hg4 hb4 hh
              go_wp2_with fail
              go_loopw [22] (fun i wx => ∃ j : Nat, j ≤ sz ∧ i = .int .i64 j ∧ Hid (∃ nn, wx = w4.drewN nn)) (fun i _ => sz - (intOf i).toNat)
              case atStart => exact ⟨0, Nat.zero_le _, rfl, 0, rfl⟩
              case round =>
                obtain ⟨j, hj, rfl, HN⟩ := hrel
                obtain ⟨nn, hnn⟩ := HN.out
                subst hnn
                clear HN
                by_cases h4 : j < sz
                · have hc : w4.cell? ⟨h, j, none⟩ = some (.int .u8 ((q : Int) + j)) := by rw [HCell.out j h4, HF.out q h3 j h4]
                  go_wp2_with fail
                  go_quiet (fail)
                  go_wp2_with fail
                  go_roundw
                  case rel => exact ⟨j + 1, by omega, by go_num, _, rfl⟩
                  case measure => simp [intOf]; omega
                · obtain rfl : j = sz := by omega
                  go_wp2_with fail
                  go_roundw
                  case rel => exact ⟨q + 1, by omega, by go_num, HS5.out.drewN nn, below_drewN HB5.out nn⟩
                  case measure => simp [intOf]; omega
            · go_wp2_with fail
              go_ret
              exact ⟨rfl, HB.out⟩

end Go.Proofs.YtnikjcinleghbaaDoor
