/-
  The walk of SlabPlays: whatever the arguments hold, the call answers true and turns nothing that was there.
-/
import Derived.Test.YtnikjcinleghbaaDoorQ
set_option linter.unusedSimpArgs false
set_option linter.unusedVariables false
namespace Go.Proofs.YtnikjcinleghbaaDoor
open Go.RowKit

set_option maxRecDepth 100000 in
set_option maxHeartbeats 4000000 in
theorem plays_good (bl sz : Nat) (hb : bl ≤ 4096) (hsz : sz ≤ 65536) (hz : bl * sz ≤ 4194304) (a2 : Option Addr) (len2 cap2 : Nat) (w : World) (hT : Tab w) (hA : IsActs w a2 len2 cap2) :
    Calls Tryd.prog 3 #[.int .i64 bl, .int .i64 sz, .slice a2 len2 cap2] w fun e w' => e = .returned (.bool true) ∧ Below w.heap.size w w' := by
  have HT := hide hT
  have HA := hide hA.2.2
  have hlc := hA.1
  have hcm : cap2 ≤ 9223372036854775807 := by have := hA.2.1; unfold maxLen at this; omega
  have hpos := hT.pos
  have HZ := hide hz
  clear hT hA hz
  go_enter Tryd.func3, Tryd.ntmps3
  go_wp2_with fail
  refine (new_good bl sz w hb hsz HZ.out HT.out).mono ?_
  rintro e w1 ⟨rfl, hs1, hb1⟩
  have HS1 := hide hs1
  have HB1 := hide hb1
  clear hs1 hb1
  go_wp2_with fail
  refine (refnew_good bl sz w1 hb hsz HZ.out (zeros (bl * sz)) (zeros_length _) (zeros_byte _)).mono ?_
  rintro e w2 ⟨rfl, hM2, hb2⟩
  obtain ⟨M2, hr2, hm2⟩ := hM2
  have HBO : Hid (Both w w2 w1.heap.size bl sz (w.heap.size + 1) w.heap.size (allFree bl) (zeros (bl * sz)) M2) := by
    have hl := HS1.out.lt
    refine ⟨HS1.out.below hb2 hl.1 hl.2.1, hr2, HB1.out.trans (hb2.mono HB1.out.size), hpos, by omega, Nat.le_refl _, fun k hk => ?_, fun h => ?_, fun h => ?_⟩
    · have := hm2 k hk; have := HB1.out.size; omega
    · have := hm2 _ h; omega
    · have := hm2 _ h; omega
  obtain ⟨y, hy⟩ : ∃ y, y = w1.heap.size := ⟨_, rfl⟩
  rw [← hy] at HBO
  rw [← hy]
  clear hr2 hm2 hb2 hy HS1 HB1
  go_wp2_with fail
  go_loopw [7, 11] (fun s i wr => ∃ (k r g : Nat) (hs : List Bool) (zs : List Int) (M : Nat → Prop), k ≤ len2 ∧ s = .pointer (some ⟨r, 0, none⟩) ∧ i = .int .i64 k ∧ Hid (Both w wr y bl sz r g hs zs M)) (fun _ i _ => len2 - (intOf i).toNat)
  case atStart => exact ⟨0, _, _, _, _, _, Nat.zero_le _, rfl, rfl, HBO⟩
  case round =>
    obtain ⟨k, r, g, hs, zs, M, hk, rfl, rfl, HBR⟩ := hrel
    clear HBO
    by_cases h1 : k < len2
    · obtain ⟨A, o, e2, hAl, hacts⟩ := HA.out (by omega)
      subst e2
      obtain ⟨x, hx⟩ := hacts k h1
      obtain ⟨kind, b, at_, n, ad, l, c, bs⟩ := x
      have HB := hide HBR.out.below
      have q0 : wr.cell? ⟨A, o + k * 5, none⟩ = some (.int .i64 kind) := (HB.out.cell (p := ⟨A, o + k * 5, none⟩) hAl).trans hx.c0
      have q1 : wr.cell? ⟨A, o + k * 5 + 1, none⟩ = some (.int .i64 b) := (HB.out.cell (p := ⟨A, o + k * 5 + 1, none⟩) hAl).trans hx.c1
      have q2 : wr.cell? ⟨A, o + k * 5 + 2, none⟩ = some (.int .i64 at_) := (HB.out.cell (p := ⟨A, o + k * 5 + 2, none⟩) hAl).trans hx.c2
      have q3 : wr.cell? ⟨A, o + k * 5 + 3, none⟩ = some (.int .i64 n) := (HB.out.cell (p := ⟨A, o + k * 5 + 3, none⟩) hAl).trans hx.c3
      have q4 : wr.cell? ⟨A, o + k * 5 + 4, none⟩ = some (.slice ad l c) := (HB.out.cell (p := ⟨A, o + k * 5 + 4, none⟩) hAl).trans hx.c4
      have HRow : Hid (IsRow .u8 w ad l c bs) := hx.row
      have hshort : l ≤ 140737488355328 := hx.short
      have hnwf : n < 9223372036854775808 := hx.nwf
      clear hacts hx
      go_wp2_with fail
      obtain ⟨WA, hWA⟩ : ∃ WA, WA = wr.alloc (.cells #[.int .i64 kind, .int .i64 b, .int .i64 at_, .int .i64 n, .slice ad l c] 32) := ⟨_, rfl⟩
      rw [← hWA]
      have HBA : Hid (Both w WA y bl sz r g hs zs M) := by rw [hWA]; exact HBR.out.alloc _
      have hblk : WA.heap[wr.heap.size]? = some (.cells #[.int .i64 kind, .int .i64 b, .int .i64 at_, .int .i64 n, .slice ad l c] 32) := by rw [hWA]; exact alloc_new _ _
      have hAA : wr.heap.size < WA.heap.size := by rw [hWA]; simp
      have HBlk := hide hblk
      have HNM : Hid (∀ k, M k → k < wr.heap.size) := HBR.out.ref.lt
      have hrg := HBR.out.slab.lt
      obtain ⟨AA, hAAe⟩ : ∃ AA, AA = wr.heap.size := ⟨_, rfl⟩
      rw [← hAAe] at HBlk hAA HNM hrg
      rw [← hAAe]
      have f0 : WA.cell? ⟨AA, 0, none⟩ = some (.int .i64 kind) := by simp [World.cell?, HBlk.out]
      have f1 : WA.cell? ⟨AA, 1, none⟩ = some (.int .i64 b) := by simp [World.cell?, HBlk.out]
      have f2 : WA.cell? ⟨AA, 2, none⟩ = some (.int .i64 at_) := by simp [World.cell?, HBlk.out]
      have f3 : WA.cell? ⟨AA, 3, none⟩ = some (.int .i64 n) := by simp [World.cell?, HBlk.out]
      have f4 : WA.cell? ⟨AA, 4, none⟩ = some (.slice ad l c) := by simp [World.cell?, HBlk.out]
      clear hWA hblk hAAe q0 q1 q2 q3 q4 HB HBR
      go_wp2_with fail
      refine (among kind 5 (by omega) (by omega) _).mono ?_
      rintro e w3 ⟨kd, hkd, rfl, rfl⟩
      have hkd' : kd = 0 ∨ kd = 1 ∨ kd = 2 ∨ kd = 3 ∨ kd = 4 := by omega
      rcases hkd' with rfl | rfl | rfl | rfl | rfl
      · as_aux_lemma =>
        go_wp2_with fail
        refine (get_any r g bl sz hs zs WA HBA.out.slab).mono ?_
        rintro e W2 ⟨rfl, hs2, hk2⟩
        have hk2' : Kept r g WA W2 := hk2.wide (Or.inl rfl)
        have HS2 := hide hs2
        have HK2 := hide hk2'
        have HR2 := hide (HBA.out.slab_step hk2').1
        clear hs2 hk2 hk2'
        go_wp2_with fail
        refine (refget_any y bl sz hs zs M W2 HR2.out HBA.out.slab.len HBA.out.slab.clean).mono ?_
        rintro e W3 ⟨rfl, hm3, hk3⟩
        obtain ⟨M3, hr3, hm3⟩ := hm3
        have HBO : Hid (Both w W3 y bl sz r g (ghs hs) zs M3) := both_after (zs1 := zs) HBA.out HK2.out HS2.out hk3 hr3 hm3
        clear hr3 hm3 hk3
        go_wp2_with fail
        refine (held_at r g bl sz (ghs hs) _ W3 HBO.out.slab).mono ?_
        rintro e W9 ⟨hv, rfl, hho, hb9⟩
        have HB9 := hide (HBO.out.below_step hb9)
        have HCnt : Hid ((heldL (ghs hs) bl).length = ((ghs hs)).count true) := by have := heldL_count (ghs hs); rw [HBO.out.slab.len] at this; exact this
        have hgt : W3.heap.size ≤ W9.heap.size := hb9.size
        have HNew : Hid (∀ k, M3 k → k < W3.heap.size) := HBO.out.ref.lt
        have hrg := HBO.out.slab.lt
        clear hb9
        obtain ⟨cc, hcc⟩ : ∃ cc, cc = ((ghs hs)).count true := ⟨_, rfl⟩
        have hccb : cc ≤ bl := by have := count_both (ghs hs); rw [HBO.out.slab.len] at this; omega
        have HCC := hide hcc
        have hbm := HBO.out.slab.mb
        obtain ⟨hvA, hvC, hvE, hvR⟩ : ∃ a c, hv = .slice a cc c ∧ (cc = 0 ∨ ∃ hh, a = some ⟨hh, 0, none⟩ ∧ Told W9 hh c (heldL (ghs hs) bl) 0 ∧ W3.heap.size ≤ hh) := by
          rcases hho with ⟨e1, e2⟩ | ⟨hh, cap, cur, o, hle⟩
          · have : cc = 0 := by rw [hcc, ← HCnt.out, e2]; rfl
            exact ⟨none, 0, by rw [e1, this], Or.inl this⟩
          · refine ⟨some ⟨hh, 0, none⟩, cap, ?_, Or.inr ⟨hh, rfl, Told.start o, hle⟩⟩
            have := o.val
            rw [this]
            congr 1
            simp [nums, HCnt.out, hcc]
        subst hvE
        have HVR := hide hvR
        clear hho hvR hcc
        go_wp2_with fail
        refine (used_at r g bl sz _ _ W9 HB9.out.slab).mono ?_
        rintro e W10 ⟨rfl, n10, rfl⟩
        rw [← HCC.out]
        go_wp2_with fail
        refine (refused_at y bl sz (ghs hs) _ M3 _ (HB9.out.drewN n10).ref).mono ?_
        rintro e W11 ⟨rfl, rfl⟩
        rw [← HCC.out]
        go_wp2_with fail
        refine (refused_at y bl sz (ghs hs) _ M3 _ (HB9.out.drewN n10).ref).mono ?_
        rintro e W11 ⟨rfl, rfl⟩
        rw [← HCC.out]
        go_wp2_with fail
        go_loopw [27] (fun i wx => ∃ (j : Nat), j ≤ cc ∧ i = .int .i64 j ∧ Hid (Both w wx y bl sz r g (ghs hs) zs M3) ∧ Hid (cc = 0 ∨ ∃ hh, hvA = some ⟨hh, 0, none⟩ ∧ Told wx hh hvC (heldL (ghs hs) bl) j ∧ W3.heap.size ≤ hh)) (fun i _ => cc - (intOf i).toNat)
        case atStart =>
          refine ⟨0, Nat.zero_le _, rfl, HB9.out.drewN n10, ?_⟩
          rcases HVR.out with h | ⟨hh, e1, t, hle⟩
          · exact Or.inl h
          · exact Or.inr ⟨hh, e1, ⟨t.row⟩, hle⟩
        case round =>
          obtain ⟨j, hj, rfl, HBJ, HTJ⟩ := hrel
          by_cases hjc : j < cc
          · obtain ⟨hh, e1, ht, hle⟩ : ∃ hh, hvA = some ⟨hh, 0, none⟩ ∧ Told wr hh hvC (heldL (ghs hs) bl) j ∧ W3.heap.size ≤ hh := by
              rcases HTJ.out with h | h
              · omega
              · exact h
            subst e1
            have hlen : (heldL (ghs hs) bl).length = cc := by rw [HCnt.out, HCC.out]
            obtain ⟨t1, t2⟩ := ht.cell (by rw [hlen]; exact hjc)
            obtain ⟨kk, hkk⟩ : ∃ kk, kk = (heldL (ghs hs) bl).getD j 0 := ⟨_, rfl⟩
            have hmem : kk ∈ heldL (ghs hs) bl := by rw [hkk]; simp [List.getD, show j < (heldL (ghs hs) bl).length by omega]
            obtain ⟨hkb, hkh⟩ := heldL_lt (ghs hs) bl kk hmem
            rw [← hkk] at t1
            obtain ⟨vb, vh, bsR, hd, yb, yh, hr⟩ := HBJ.out.ref
            obtain ⟨c0, c1, c2⟩ := yhd_cells hr.head
            obtain ⟨ah, cah, e2, hcah, hch⟩ := hr.heldForm
            subst e2
            obtain ⟨e3, dk, _⟩ := hch kk hkb
            subst e3
            rw [hkh] at dk
            have HT := hide ht
            have HLen := hide hlen
            have g1 : decide ((kk : Int) < 0) = false := by simp
            have g2 : decide ((bl : Int) ≤ kk) = false := by simp; omega
            have g2' : decide (bl ≤ kk) = false := by simp; omega
            have hhm : ¬ M3 hh := fun hm => by have := HNew.out hh hm; omega
            have HNext : Hid (Both w (wr.setCell ⟨hh, j, none⟩ (.int .i64 (-7))) y bl sz r g (ghs hs) zs M3) := HBJ.out.own_step ((Kept.refl hh hh wr).set _ _) (by omega) (by omega) hhm (by have := HBJ.out.r0; have := HBO.out.below.size; omega)
            have HTN : Hid (Told (wr.setCell ⟨hh, j, none⟩ (.int .i64 (-7))) hh hvC (heldL (ghs hs) bl) (j + 1)) := ht.next (by omega)
            clear hr hch ht hlen hmem hkk hkh c0 c1 hhm
            by_cases hj0 : j = 0
            · subst hj0
              go_wp2_with fail
              go_quiet (fail)
              go_wp2_with fail
              go_roundw
              case rel => exact ⟨1, by omega, by go_num, HNext.out.drewN _, Or.inr ⟨hh, rfl, ⟨HTN.out.row⟩, hle⟩⟩
              case measure => simp [intOf]; omega
            · obtain ⟨i, rfl⟩ : ∃ i, j = i + 1 := ⟨j - 1, by omega⟩
              have tp := HT.out.cell_past (i := i) (by omega) (by rw [HLen.out]; omega)
              have g3 : decide ((kk : Int) ≤ -7) = false := by simp; omega
              have g4 : ((i : Int) + 1 - 1) = i := by omega
              go_wp2_with fail
              go_quiet (fail)
              go_wp2_with fail
              go_roundw
              case rel => exact ⟨i + 1 + 1, by omega, by go_num, HNext.out.drewN _, Or.inr ⟨hh, rfl, ⟨HTN.out.row⟩, hle⟩⟩
              case measure => simp [intOf]; omega
          · go_wp2_with fail
            go_roundw
            case rel => exact ⟨k + 1, r, g, (ghs hs), zs, M3, by omega, rfl, by go_num, HBJ⟩
            case measure => simp [intOf]; omega
      · as_aux_lemma =>
        have hAr : AA ≠ r := by omega
        have hAg : AA ≠ g := by omega
        have hAm : ¬ M AA := fun hm => by have := HNM.out AA hm; omega
        go_wp2_with fail
        go_region_held3 (fun w' => w'.cell? ⟨AA, 1, none⟩ = some (.int .i64 b)) (go_keep) (first
          | (go_at_call 13; refine (put_any r g bl sz hs zs b _ ?_).mono ?_; exact HBA.out.slab.keep rfl rfl rfl; rintro e W2 ⟨rfl, hs2, hk2⟩; have hk2' : Kept r g WA W2 := ⟨hk2.os, hk2.tape, hk2.output, hk2.size, hk2.block⟩; have f1b : W2.cell? ⟨AA, 1, none⟩ = some (.int .i64 b) := (World.cell?_of_block (w := WA) (hk2'.block AA hAA hAr hAg)).trans f1; have hA2 : AA < W2.heap.size := Nat.lt_of_lt_of_le hAA hk2'.size; have HS2 := hide hs2; have HK2 := hide hk2'; have HR2 := hide (HBA.out.slab_step hk2').1; clear hs2 hk2 hk2')
          | (go_at_call 14; refine (refput_any y bl sz hs zs M b W2 HR2.out).mono ?_; rintro e W3 ⟨rfl, hr3, hk3⟩; have f1c : W3.cell? ⟨AA, 1, none⟩ = some (.int .i64 b) := (World.cell?_of_block (w := W2) (hk3.block AA hA2 hAm)).trans f1b; have HR3 := hide hr3; have HK3 := hide hk3; clear hr3 hk3))
        all_goals
          have HBO : Hid (Both w W3 y bl sz r g (phs hs b) (pzs hs sz zs b) M) := both_after (zs1 := zs) HBA.out HK2.out HS2.out HK3.out (HR3.out.rows HS2.out.zlen (rows_put HBA.out.slab.len HBA.out.slab.zlen) HS2.out.byte) (fun j hj => Or.inl hj)
          go_wp2_with fail
          refine (held_at r g bl sz (phs hs b) _ W3 HBO.out.slab).mono ?_
          rintro e W9 ⟨hv, rfl, hho, hb9⟩
          have HB9 := hide (HBO.out.below_step hb9)
          have HCnt : Hid ((heldL (phs hs b) bl).length = ((phs hs b)).count true) := by have := heldL_count (phs hs b); rw [HBO.out.slab.len] at this; exact this
          have hgt : W3.heap.size ≤ W9.heap.size := hb9.size
          have HNew : Hid (∀ k, M k → k < W3.heap.size) := HBO.out.ref.lt
          have hrg := HBO.out.slab.lt
          clear hb9
          obtain ⟨cc, hcc⟩ : ∃ cc, cc = ((phs hs b)).count true := ⟨_, rfl⟩
          have hccb : cc ≤ bl := by have := count_both (phs hs b); rw [HBO.out.slab.len] at this; omega
          have HCC := hide hcc
          have hbm := HBO.out.slab.mb
          obtain ⟨hvA, hvC, hvE, hvR⟩ : ∃ a c, hv = .slice a cc c ∧ (cc = 0 ∨ ∃ hh, a = some ⟨hh, 0, none⟩ ∧ Told W9 hh c (heldL (phs hs b) bl) 0 ∧ W3.heap.size ≤ hh) := by
            rcases hho with ⟨e1, e2⟩ | ⟨hh, cap, cur, o, hle⟩
            · have : cc = 0 := by rw [hcc, ← HCnt.out, e2]; rfl
              exact ⟨none, 0, by rw [e1, this], Or.inl this⟩
            · refine ⟨some ⟨hh, 0, none⟩, cap, ?_, Or.inr ⟨hh, rfl, Told.start o, hle⟩⟩
              have := o.val
              rw [this]
              congr 1
              simp [nums, HCnt.out, hcc]
          subst hvE
          have HVR := hide hvR
          clear hho hvR hcc
          go_wp2_with fail
          refine (used_at r g bl sz _ _ W9 HB9.out.slab).mono ?_
          rintro e W10 ⟨rfl, n10, rfl⟩
          rw [← HCC.out]
          go_wp2_with fail
          refine (refused_at y bl sz (phs hs b) _ M _ (HB9.out.drewN n10).ref).mono ?_
          rintro e W11 ⟨rfl, rfl⟩
          rw [← HCC.out]
          go_wp2_with fail
          refine (refused_at y bl sz (phs hs b) _ M _ (HB9.out.drewN n10).ref).mono ?_
          rintro e W11 ⟨rfl, rfl⟩
          rw [← HCC.out]
          go_wp2_with fail
          go_loopw [27] (fun i wx => ∃ (j : Nat), j ≤ cc ∧ i = .int .i64 j ∧ Hid (Both w wx y bl sz r g (phs hs b) (pzs hs sz zs b) M) ∧ Hid (cc = 0 ∨ ∃ hh, hvA = some ⟨hh, 0, none⟩ ∧ Told wx hh hvC (heldL (phs hs b) bl) j ∧ W3.heap.size ≤ hh)) (fun i _ => cc - (intOf i).toNat)
          case atStart =>
            refine ⟨0, Nat.zero_le _, rfl, HB9.out.drewN n10, ?_⟩
            rcases HVR.out with h | ⟨hh, e1, t, hle⟩
            · exact Or.inl h
            · exact Or.inr ⟨hh, e1, ⟨t.row⟩, hle⟩
          case round =>
            obtain ⟨j, hj, rfl, HBJ, HTJ⟩ := hrel
            by_cases hjc : j < cc
            · obtain ⟨hh, e1, ht, hle⟩ : ∃ hh, hvA = some ⟨hh, 0, none⟩ ∧ Told wr hh hvC (heldL (phs hs b) bl) j ∧ W3.heap.size ≤ hh := by
                rcases HTJ.out with h | h
                · omega
                · exact h
              subst e1
              have hlen : (heldL (phs hs b) bl).length = cc := by rw [HCnt.out, HCC.out]
              obtain ⟨t1, t2⟩ := ht.cell (by rw [hlen]; exact hjc)
              obtain ⟨kk, hkk⟩ : ∃ kk, kk = (heldL (phs hs b) bl).getD j 0 := ⟨_, rfl⟩
              have hmem : kk ∈ heldL (phs hs b) bl := by rw [hkk]; simp [List.getD, show j < (heldL (phs hs b) bl).length by omega]
              obtain ⟨hkb, hkh⟩ := heldL_lt (phs hs b) bl kk hmem
              rw [← hkk] at t1
              obtain ⟨vb, vh, bsR, hd, yb, yh, hr⟩ := HBJ.out.ref
              obtain ⟨c0, c1, c2⟩ := yhd_cells hr.head
              obtain ⟨ah, cah, e2, hcah, hch⟩ := hr.heldForm
              subst e2
              obtain ⟨e3, dk, _⟩ := hch kk hkb
              subst e3
              rw [hkh] at dk
              have HT := hide ht
              have HLen := hide hlen
              have g1 : decide ((kk : Int) < 0) = false := by simp
              have g2 : decide ((bl : Int) ≤ kk) = false := by simp; omega
              have g2' : decide (bl ≤ kk) = false := by simp; omega
              have hhm : ¬ M hh := fun hm => by have := HNew.out hh hm; omega
              have HNext : Hid (Both w (wr.setCell ⟨hh, j, none⟩ (.int .i64 (-7))) y bl sz r g (phs hs b) (pzs hs sz zs b) M) := HBJ.out.own_step ((Kept.refl hh hh wr).set _ _) (by omega) (by omega) hhm (by have := HBJ.out.r0; have := HBO.out.below.size; omega)
              have HTN : Hid (Told (wr.setCell ⟨hh, j, none⟩ (.int .i64 (-7))) hh hvC (heldL (phs hs b) bl) (j + 1)) := ht.next (by omega)
              clear hr hch ht hlen hmem hkk hkh c0 c1 hhm
              by_cases hj0 : j = 0
              · subst hj0
                go_wp2_with fail
                go_quiet (fail)
                go_wp2_with fail
                go_roundw
                case rel => exact ⟨1, by omega, by go_num, HNext.out.drewN _, Or.inr ⟨hh, rfl, ⟨HTN.out.row⟩, hle⟩⟩
                case measure => simp [intOf]; omega
              · obtain ⟨i, rfl⟩ : ∃ i, j = i + 1 := ⟨j - 1, by omega⟩
                have tp := HT.out.cell_past (i := i) (by omega) (by rw [HLen.out]; omega)
                have g3 : decide ((kk : Int) ≤ -7) = false := by simp; omega
                have g4 : ((i : Int) + 1 - 1) = i := by omega
                go_wp2_with fail
                go_quiet (fail)
                go_wp2_with fail
                go_roundw
                case rel => exact ⟨i + 1 + 1, by omega, by go_num, HNext.out.drewN _, Or.inr ⟨hh, rfl, ⟨HTN.out.row⟩, hle⟩⟩
                case measure => simp [intOf]; omega
            · go_wp2_with fail
              go_roundw
              case rel => exact ⟨k + 1, r, g, (phs hs b), (pzs hs sz zs b), M, by omega, rfl, by go_num, HBJ⟩
              case measure => simp [intOf]; omega
      · as_aux_lemma =>
        have HSA : Hid (Src WA ad l c (bs.take l)) := (row_src HRow.out).keep (fun b' o' e' h0 => HBA.out.below.block b' (row_old HRow.out h0 b' o' e'))
        have HOA : Hid (∀ b' o', ad = some ⟨b', o', none⟩ → 0 < l → b' < w.heap.size) := fun b' o' e' h0 => row_old HRow.out h0 b' o' e'
        have HBY : Hid (∀ x ∈ bs.take l, 0 ≤ x ∧ x < 256) := HSA.out.byte
        have HLL : Hid ((bs.take l).length = l) := HSA.out.hlen
        have hAr : AA ≠ r := by omega
        have hAg : AA ≠ g := by omega
        have hAm : ¬ M AA := fun hm => by have := HNM.out AA hm; omega
        have hws := HBA.out.below.size
        go_wp2_with fail
        refine (bytes_copy WA ad l c (bs.take l) HSA.out hshort).mono ?_
        rintro e W2 ⟨hO, vO, rfl, hoO, hleO, hb2⟩
        have HB2 := hide (HBA.out.below_step hb2)
        obtain ⟨cO, evO, hsO⟩ := hoO.src HBY.out
        obtain ⟨cO', curO, evO', hblkO, hlO, hmO, hszO, _⟩ := hoO
        rw [HLL.out] at evO hsO hlO evO'
        obtain rfl : cO' = cO := by rw [evO] at evO'; simp at evO'; exact evO'.symm
        subst evO
        have HSO := hide hsO
        have HBO0 := hide hblkO
        have hOlt := lt_of_some hblkO
        have f1b : W2.cell? ⟨AA, 1, none⟩ = some (.int .i64 b) := (hb2.cell (p := ⟨AA, 1, none⟩) hAA).trans f1
        have f2b : W2.cell? ⟨AA, 2, none⟩ = some (.int .i64 at_) := (hb2.cell (p := ⟨AA, 2, none⟩) hAA).trans f2
        have f4b : W2.cell? ⟨AA, 4, none⟩ = some (.slice ad l c) := (hb2.cell (p := ⟨AA, 4, none⟩) hAA).trans f4
        have hA2 : AA < W2.heap.size := Nat.lt_of_lt_of_le hAA hb2.size
        have hOr : hO ≠ r := by omega
        have hOg : hO ≠ g := by omega
        have hOm : ¬ M hO := fun hm => by have := HNM.out hO hm; omega
        have HAB : Hid (∀ b' o', ad = some ⟨b', o', none⟩ → 0 < l → ¬ M b' ∧ b' ≠ r ∧ b' ≠ g ∧ b' < W2.heap.size) := fun b' o' e' h0 => by
          have h1 := HOA.out b' o' e' h0
          have h2 := HBA.out.r0
          have h3 := HBA.out.g0
          have h4 := hb2.size
          exact ⟨fun hm => by have := HBA.out.m0 b' hm; omega, by omega, by omega, by omega⟩
        have HSA2 : Hid (Src W2 ad l c (bs.take l)) := HSA.out.keep (fun b' o' e' h0 => hb2.block b' (by have := HOA.out b' o' e' h0; omega))
        have HSZ := hide hszO
        clear hsO hblkO hb2 hmO hszO evO'
        go_wp2_with fail
        go_region_held3 (fun w' => w'.cell? ⟨AA, 1, none⟩ = some (.int .i64 b) ∧ w'.cell? ⟨AA, 2, none⟩ = some (.int .i64 at_) ∧ w'.cell? ⟨AA, 4, none⟩ = some (.slice ad l c)) (go_keep) (first
          | (go_at_call 16; refine (write_any r g bl sz hs zs b at_ (some ⟨hO, 0, none⟩) l cO' (bs.take l) _ ?_ ?_).mono ?_; exact HB2.out.slab.keep rfl rfl rfl; exact HSO.out.keep (fun _ _ _ _ => rfl); rintro e W3 ⟨rfl, hs3, hk3⟩; have hk3' : Kept r g W2 W3 := (⟨hk3.os, hk3.tape, hk3.output, hk3.size, hk3.block⟩ : Kept g g W2 W3).wide (Or.inr rfl); have f1c : W3.cell? ⟨AA, 1, none⟩ = some (.int .i64 b) := (World.cell?_of_block (w := W2) (hk3'.block AA hA2 hAr hAg)).trans f1b; have f2c : W3.cell? ⟨AA, 2, none⟩ = some (.int .i64 at_) := (World.cell?_of_block (w := W2) (hk3'.block AA hA2 hAr hAg)).trans f2b; have f4c : W3.cell? ⟨AA, 4, none⟩ = some (.slice ad l c) := (World.cell?_of_block (w := W2) (hk3'.block AA hA2 hAr hAg)).trans f4b; have hz3 := hk3'.size; have HS3 := hide hs3; have HK3 := hide hk3'; have HR3 := hide (HB2.out.slab_step hk3').1; have HSA3 : Hid (Src W3 ad l c (bs.take l)) := HSA2.out.keep (fun b' o' e' h0 => hk3'.block b' (HAB.out b' o' e' h0).2.2.2 (HAB.out b' o' e' h0).2.1 (HAB.out b' o' e' h0).2.2.1); clear hs3 hk3 hk3')
          | (go_at_call 17; refine (refwrite_any y bl sz hs zs M b at_ ad l c (bs.take l) W3 HR3.out HB2.out.slab.len HSA3.out ?_).mono ?_; exact (fun b' o' e' h0 => (HAB.out b' o' e' h0).1); rintro e W4 ⟨rfl, hr4, hk4⟩; have f1d : W4.cell? ⟨AA, 1, none⟩ = some (.int .i64 b) := (World.cell?_of_block (w := W3) (hk4.block AA (Nat.lt_of_lt_of_le hA2 hz3) hAm)).trans f1c; have f2d : W4.cell? ⟨AA, 2, none⟩ = some (.int .i64 at_) := (World.cell?_of_block (w := W3) (hk4.block AA (Nat.lt_of_lt_of_le hA2 hz3) hAm)).trans f2c; have f4d : W4.cell? ⟨AA, 4, none⟩ = some (.slice ad l c) := (World.cell?_of_block (w := W3) (hk4.block AA (Nat.lt_of_lt_of_le hA2 hz3) hAm)).trans f4c; have HR4 := hide hr4; have HK4 := hide hk4; clear hr4 hk4)
          | (go_at_call 18; refine (same_bytes W4 _ _ _ _ _ _ (bs.take l) ?_ ?_).mono ?_; exact (HSO.out.keep (fun b' o' e' h0 => by simp at e'; rw [← e'.1, HK4.out.block hO (Nat.lt_of_lt_of_le hOlt hz3) hOm, HK3.out.block hO hOlt hOr hOg])); exact HSA3.out.keep (fun b' o' e' h0 => HK4.out.block b' (Nat.lt_of_lt_of_le (HAB.out b' o' e' h0).2.2.2 hz3) (HAB.out b' o' e' h0).1); rintro e W5 ⟨rfl, rfl⟩))
        all_goals
          obtain ⟨adO, hadO⟩ : ∃ a, a = (some ⟨hO, 0, none⟩ : Option Addr) := ⟨_, rfl⟩
          have HBL : Hid (Both w W4 y bl sz r g hs (wzs hs sz zs b at_ (bs.take l)) M) := both_after (zs1 := zs) HB2.out HK3.out HS3.out HK4.out HR4.out (fun j hj => Or.inl hj)
          have HOWN : Hid (l = 0 ∨ ∃ h cur, adO = some ⟨h, 0, none⟩ ∧ WA.heap.size ≤ h ∧ W4.heap[h]? = some (.cells cur 5 (0, 0)) ∧ l ≤ cur.size) := Or.inr ⟨hO, curO, hadO, hleO, by rw [HK4.out.block hO (Nat.lt_of_lt_of_le hOlt hz3) hOm, HK3.out.block hO hOlt hOr hOg]; exact HBO0.out, by rw [HSZ.out]; exact hlO⟩
          rw [← hadO]
          clear hadO
          go_wp2_with fail
          go_loopw [19] (fun i wx => ∃ (j : Nat), j ≤ l ∧ i = .int .i64 j ∧ Hid (Both w wx y bl sz r g hs (wzs hs sz zs b at_ (bs.take l)) M) ∧ Hid (l = 0 ∨ ∃ h cur, adO = some ⟨h, 0, none⟩ ∧ WA.heap.size ≤ h ∧ wx.heap[h]? = some (.cells cur 5 (0, 0)) ∧ l ≤ cur.size)) (fun i _ => l - (intOf i).toNat)
          case atStart => exact ⟨0, Nat.zero_le _, rfl, HBL, HOWN⟩
          case round =>
            obtain ⟨j, hj, rfl, HBJ, HOJ⟩ := hrel
            by_cases hjl : j < l
            · obtain ⟨h, cur, e1, hle, hcur, hcs⟩ : ∃ h cur, adO = some ⟨h, 0, none⟩ ∧ WA.heap.size ≤ h ∧ wr.heap[h]? = some (.cells cur 5 (0, 0)) ∧ l ≤ cur.size := by
                rcases HOJ.out with h | h
                · omega
                · exact h
              subst e1
              have hu : wr.cell? ⟨h, j, none⟩ = some cur[j] := by simp [World.cell?, hcur, show j < cur.size by omega]
              have hfz : wr.frozen? ⟨h, j, none⟩ = false := by simp [World.frozen?, hcur]
              have HCU := hide hcur
              have HCS := hide hcs
              have hhm : ¬ M h := fun hm => by have := HNM.out h hm; omega
              have hh0 : w.heap.size ≤ h := by have := HBA.out.below.size; omega
              generalize cur[j] = u at hu
              have HNX : Hid (∀ x, Both w (wr.setCell ⟨h, j, none⟩ x) y bl sz r g hs (wzs hs sz zs b at_ (bs.take l)) M) := fun x => HBJ.out.own_step ((Kept.refl h h wr).set _ _) (by omega) (by omega) hhm hh0
              clear hcur hcs
              go_wp2_with fail
              go_roundw
              case rel => exact ⟨j + 1, by omega, by go_num, HNX.out _, Or.inr ⟨h, _, rfl, hle, heap_setCell_same HCU.out _ _, by rw [Array.size_setIfInBounds]; exact HCS.out⟩⟩
              case measure => simp [intOf]; omega
            · obtain ⟨WT, hWT⟩ : ∃ WT, WT = wr := ⟨_, rfl⟩
              rw [← hWT] at HBJ
              rw [← hWT]
              have HBO := HBJ
              clear hWT
              go_wp2_with fail
              refine (held_at r g bl sz hs _ WT HBO.out.slab).mono ?_
              rintro e W9 ⟨hv, rfl, hho, hb9⟩
              have HB9 := hide (HBO.out.below_step hb9)
              have HCnt : Hid ((heldL hs bl).length = (hs).count true) := by have := heldL_count hs; rw [HBO.out.slab.len] at this; exact this
              have hgt : WT.heap.size ≤ W9.heap.size := hb9.size
              have HNew : Hid (∀ k, M k → k < WT.heap.size) := HBO.out.ref.lt
              have hrg := HBO.out.slab.lt
              clear hb9
              obtain ⟨cc, hcc⟩ : ∃ cc, cc = (hs).count true := ⟨_, rfl⟩
              have hccb : cc ≤ bl := by have := count_both hs; rw [HBO.out.slab.len] at this; omega
              have HCC := hide hcc
              have hbm := HBO.out.slab.mb
              obtain ⟨hvA, hvC, hvE, hvR⟩ : ∃ a c, hv = .slice a cc c ∧ (cc = 0 ∨ ∃ hh, a = some ⟨hh, 0, none⟩ ∧ Told W9 hh c (heldL hs bl) 0 ∧ WT.heap.size ≤ hh) := by
                rcases hho with ⟨e1, e2⟩ | ⟨hh, cap, cur, o, hle⟩
                · have : cc = 0 := by rw [hcc, ← HCnt.out, e2]; rfl
                  exact ⟨none, 0, by rw [e1, this], Or.inl this⟩
                · refine ⟨some ⟨hh, 0, none⟩, cap, ?_, Or.inr ⟨hh, rfl, Told.start o, hle⟩⟩
                  have := o.val
                  rw [this]
                  congr 1
                  simp [nums, HCnt.out, hcc]
              subst hvE
              have HVR := hide hvR
              clear hho hvR hcc
              go_wp2_with fail
              refine (used_at r g bl sz _ _ W9 HB9.out.slab).mono ?_
              rintro e W10 ⟨rfl, n10, rfl⟩
              rw [← HCC.out]
              go_wp2_with fail
              refine (refused_at y bl sz hs _ M _ (HB9.out.drewN n10).ref).mono ?_
              rintro e W11 ⟨rfl, rfl⟩
              rw [← HCC.out]
              go_wp2_with fail
              refine (refused_at y bl sz hs _ M _ (HB9.out.drewN n10).ref).mono ?_
              rintro e W11 ⟨rfl, rfl⟩
              rw [← HCC.out]
              go_wp2_with fail
              go_loopw [27] (fun i wx => ∃ (j : Nat), j ≤ cc ∧ i = .int .i64 j ∧ Hid (Both w wx y bl sz r g hs (wzs hs sz zs b at_ (bs.take l)) M) ∧ Hid (cc = 0 ∨ ∃ hh, hvA = some ⟨hh, 0, none⟩ ∧ Told wx hh hvC (heldL hs bl) j ∧ WT.heap.size ≤ hh)) (fun i _ => cc - (intOf i).toNat)
              case atStart =>
                refine ⟨0, Nat.zero_le _, rfl, HB9.out.drewN n10, ?_⟩
                rcases HVR.out with h | ⟨hh, e1, t, hle⟩
                · exact Or.inl h
                · exact Or.inr ⟨hh, e1, ⟨t.row⟩, hle⟩
              case round =>
                obtain ⟨j, hj, rfl, HBJ, HTJ⟩ := hrel
                by_cases hjc : j < cc
                · obtain ⟨hh, e1, ht, hle⟩ : ∃ hh, hvA = some ⟨hh, 0, none⟩ ∧ Told wr hh hvC (heldL hs bl) j ∧ WT.heap.size ≤ hh := by
                    rcases HTJ.out with h | h
                    · omega
                    · exact h
                  subst e1
                  have hlen : (heldL hs bl).length = cc := by rw [HCnt.out, HCC.out]
                  obtain ⟨t1, t2⟩ := ht.cell (by rw [hlen]; exact hjc)
                  obtain ⟨kk, hkk⟩ : ∃ kk, kk = (heldL hs bl).getD j 0 := ⟨_, rfl⟩
                  have hmem : kk ∈ heldL hs bl := by rw [hkk]; simp [List.getD, show j < (heldL hs bl).length by omega]
                  obtain ⟨hkb, hkh⟩ := heldL_lt hs bl kk hmem
                  rw [← hkk] at t1
                  obtain ⟨vb, vh, bsR, hd, yb, yh, hr⟩ := HBJ.out.ref
                  obtain ⟨c0, c1, c2⟩ := yhd_cells hr.head
                  obtain ⟨ah, cah, e2, hcah, hch⟩ := hr.heldForm
                  subst e2
                  obtain ⟨e3, dk, _⟩ := hch kk hkb
                  subst e3
                  rw [hkh] at dk
                  have HT := hide ht
                  have HLen := hide hlen
                  have g1 : decide ((kk : Int) < 0) = false := by simp
                  have g2 : decide ((bl : Int) ≤ kk) = false := by simp; omega
                  have g2' : decide (bl ≤ kk) = false := by simp; omega
                  have hhm : ¬ M hh := fun hm => by have := HNew.out hh hm; omega
                  have HNext : Hid (Both w (wr.setCell ⟨hh, j, none⟩ (.int .i64 (-7))) y bl sz r g hs (wzs hs sz zs b at_ (bs.take l)) M) := HBJ.out.own_step ((Kept.refl hh hh wr).set _ _) (by omega) (by omega) hhm (by have := HBJ.out.r0; have := HBO.out.below.size; omega)
                  have HTN : Hid (Told (wr.setCell ⟨hh, j, none⟩ (.int .i64 (-7))) hh hvC (heldL hs bl) (j + 1)) := ht.next (by omega)
                  clear hr hch ht hlen hmem hkk hkh c0 c1 hhm
                  by_cases hj0 : j = 0
                  · subst hj0
                    go_wp2_with fail
                    go_quiet (fail)
                    go_wp2_with fail
                    go_roundw
                    case rel => exact ⟨1, by omega, by go_num, HNext.out.drewN _, Or.inr ⟨hh, rfl, ⟨HTN.out.row⟩, hle⟩⟩
                    case measure => simp [intOf]; omega
                  · obtain ⟨i, rfl⟩ : ∃ i, j = i + 1 := ⟨j - 1, by omega⟩
                    have tp := HT.out.cell_past (i := i) (by omega) (by rw [HLen.out]; omega)
                    have g3 : decide ((kk : Int) ≤ -7) = false := by simp; omega
                    have g4 : ((i : Int) + 1 - 1) = i := by omega
                    go_wp2_with fail
                    go_quiet (fail)
                    go_wp2_with fail
                    go_roundw
                    case rel => exact ⟨i + 1 + 1, by omega, by go_num, HNext.out.drewN _, Or.inr ⟨hh, rfl, ⟨HTN.out.row⟩, hle⟩⟩
                    case measure => simp [intOf]; omega
                · go_wp2_with fail
                  go_roundw
                  case rel => exact ⟨k + 1, r, g, hs, (wzs hs sz zs b at_ (bs.take l)), M, by omega, rfl, by go_num, HBJ⟩
                  case measure => simp [intOf]; omega
      · as_aux_lemma =>
        go_wp2_with fail
        refine (read_any r g bl sz hs zs b at_ n WA HBA.out.slab hnwf).mono ?_
        rintro e W2 ⟨v2, rfl, ho2, hb2⟩
        have HB2 := hide (HBA.out.below_step hb2)
        have HBY : Hid (∀ x ∈ rbs hs sz zs b at_ n, 0 ≤ x ∧ x < 256) := rbs_byte HBA.out.slab.byte
        obtain ⟨ad2, c2, ev2, hsrc2, hlies2, hown2⟩ := ho2.form HBY.out
        subst ev2
        have f1b : W2.cell? ⟨AA, 1, none⟩ = some (.int .i64 b) := (hb2.cell (p := ⟨AA, 1, none⟩) hAA).trans f1
        have f2b : W2.cell? ⟨AA, 2, none⟩ = some (.int .i64 at_) := (hb2.cell (p := ⟨AA, 2, none⟩) hAA).trans f2
        have f3b : W2.cell? ⟨AA, 3, none⟩ = some (.int .i64 n) := (hb2.cell (p := ⟨AA, 3, none⟩) hAA).trans f3
        obtain ⟨L, hL⟩ : ∃ L, L = (rbs hs sz zs b at_ n).length := ⟨_, rfl⟩
        rw [← hL] at hsrc2 hown2
        rw [← hL]
        have HSrc2 := hide hsrc2
        have HLies2 := hide hlies2
        have HOwn2 := hide hown2
        have HL := hide hL
        have hL5 : L ≤ 65536 := by
          rw [hL]; unfold rbs
          split
          · rename_i hc
            have hi : inAt sz at_ n = true := by simp at hc; exact hc.2
            obtain ⟨o', m', e1, e2, h3⟩ := inAt_true hi
            rw [List.length_take]
            omega
          · simp
        clear ho2 hb2 hsrc2 hlies2 hown2 hL
        go_wp2_with fail
        refine (refread_any y bl sz hs zs M b at_ n W2 HB2.out.ref HB2.out.slab.len hnwf).mono ?_
        rintro e W3 ⟨v3, rfl, ho3, hb3⟩
        have HB3 := hide (HB2.out.below_step hb3)
        obtain ⟨ad3, c3, ev3, hsrc3, _, _⟩ := ho3.form HBY.out
        subst ev3
        rw [← HL.out] at hsrc3
        rw [← HL.out]
        have HSrc3 := hide hsrc3
        have HSrc2' : Hid (Src W3 ad2 L c2 (rbs hs sz zs b at_ n)) := HSrc2.out.keep (fun b' o' e' _ => hb3.block b' (HLies2.out b' o' e').2)
        have HBL : Hid (Both w W3 y bl sz r g hs zs M) := HB3
        have HOWN : Hid (L = 0 ∨ ∃ h cur, ad2 = some ⟨h, 0, none⟩ ∧ WA.heap.size ≤ h ∧ W3.heap[h]? = some (.cells cur 5 (0, 0)) ∧ L ≤ cur.size) := by
          rcases HOwn2.out with h | ⟨h, cur, e1, h2, h3, h4⟩
          · exact Or.inl h
          · exact Or.inr ⟨h, cur, e1, h2, (hb3.block h (lt_of_some h3)).trans h3, h4⟩
        clear ho3 hb3 hsrc3
        go_wp2_with fail
        refine (same_bytes W3 ad2 ad3 L c2 L c3 (rbs hs sz zs b at_ n) HSrc2'.out HSrc3.out).mono ?_
        rintro e W4 ⟨rfl, rfl⟩
        go_wp2_with fail
        go_loopw [24] (fun i wx => ∃ (j : Nat), j ≤ L ∧ i = .int .i64 j ∧ Hid (Both w wx y bl sz r g hs zs M) ∧ Hid (L = 0 ∨ ∃ h cur, ad2 = some ⟨h, 0, none⟩ ∧ WA.heap.size ≤ h ∧ wx.heap[h]? = some (.cells cur 5 (0, 0)) ∧ L ≤ cur.size)) (fun i _ => L - (intOf i).toNat)
        case atStart => exact ⟨0, Nat.zero_le _, rfl, HBL, HOWN⟩
        case round =>
          obtain ⟨j, hj, rfl, HBJ, HOJ⟩ := hrel
          by_cases hjl : j < L
          · obtain ⟨h, cur, e1, hle, hcur, hcs⟩ : ∃ h cur, ad2 = some ⟨h, 0, none⟩ ∧ WA.heap.size ≤ h ∧ wr.heap[h]? = some (.cells cur 5 (0, 0)) ∧ L ≤ cur.size := by
              rcases HOJ.out with h | h
              · omega
              · exact h
            subst e1
            have hu : wr.cell? ⟨h, j, none⟩ = some cur[j] := by simp [World.cell?, hcur, show j < cur.size by omega]
            have hfz : wr.frozen? ⟨h, j, none⟩ = false := by simp [World.frozen?, hcur]
            have HCU := hide hcur
            have HCS := hide hcs
            have hhm : ¬ M h := fun hm => by have := HNM.out h hm; omega
            have hh0 : w.heap.size ≤ h := by have := HBA.out.below.size; omega
            generalize cur[j] = u at hu
            have HNX : Hid (∀ x, Both w (wr.setCell ⟨h, j, none⟩ x) y bl sz r g hs zs M) := fun x => HBJ.out.own_step ((Kept.refl h h wr).set _ _) (by omega) (by omega) hhm hh0
            clear hcur hcs
            go_wp2_with fail
            go_roundw
            case rel => exact ⟨j + 1, by omega, by go_num, HNX.out _, Or.inr ⟨h, _, rfl, hle, heap_setCell_same HCU.out _ _, by rw [Array.size_setIfInBounds]; exact HCS.out⟩⟩
            case measure => simp [intOf]; omega
          · obtain ⟨WT, hWT⟩ : ∃ WT, WT = wr := ⟨_, rfl⟩
            rw [← hWT] at HBJ
            rw [← hWT]
            have HBO := HBJ
            clear hWT
            go_wp2_with fail
            refine (held_at r g bl sz hs _ WT HBO.out.slab).mono ?_
            rintro e W9 ⟨hv, rfl, hho, hb9⟩
            have HB9 := hide (HBO.out.below_step hb9)
            have HCnt : Hid ((heldL hs bl).length = (hs).count true) := by have := heldL_count hs; rw [HBO.out.slab.len] at this; exact this
            have hgt : WT.heap.size ≤ W9.heap.size := hb9.size
            have HNew : Hid (∀ k, M k → k < WT.heap.size) := HBO.out.ref.lt
            have hrg := HBO.out.slab.lt
            clear hb9
            obtain ⟨cc, hcc⟩ : ∃ cc, cc = (hs).count true := ⟨_, rfl⟩
            have hccb : cc ≤ bl := by have := count_both hs; rw [HBO.out.slab.len] at this; omega
            have HCC := hide hcc
            have hbm := HBO.out.slab.mb
            obtain ⟨hvA, hvC, hvE, hvR⟩ : ∃ a c, hv = .slice a cc c ∧ (cc = 0 ∨ ∃ hh, a = some ⟨hh, 0, none⟩ ∧ Told W9 hh c (heldL hs bl) 0 ∧ WT.heap.size ≤ hh) := by
              rcases hho with ⟨e1, e2⟩ | ⟨hh, cap, cur, o, hle⟩
              · have : cc = 0 := by rw [hcc, ← HCnt.out, e2]; rfl
                exact ⟨none, 0, by rw [e1, this], Or.inl this⟩
              · refine ⟨some ⟨hh, 0, none⟩, cap, ?_, Or.inr ⟨hh, rfl, Told.start o, hle⟩⟩
                have := o.val
                rw [this]
                congr 1
                simp [nums, HCnt.out, hcc]
            subst hvE
            have HVR := hide hvR
            clear hho hvR hcc
            go_wp2_with fail
            refine (used_at r g bl sz _ _ W9 HB9.out.slab).mono ?_
            rintro e W10 ⟨rfl, n10, rfl⟩
            rw [← HCC.out]
            go_wp2_with fail
            refine (refused_at y bl sz hs _ M _ (HB9.out.drewN n10).ref).mono ?_
            rintro e W11 ⟨rfl, rfl⟩
            rw [← HCC.out]
            go_wp2_with fail
            refine (refused_at y bl sz hs _ M _ (HB9.out.drewN n10).ref).mono ?_
            rintro e W11 ⟨rfl, rfl⟩
            rw [← HCC.out]
            go_wp2_with fail
            go_loopw [27] (fun i wx => ∃ (j : Nat), j ≤ cc ∧ i = .int .i64 j ∧ Hid (Both w wx y bl sz r g hs zs M) ∧ Hid (cc = 0 ∨ ∃ hh, hvA = some ⟨hh, 0, none⟩ ∧ Told wx hh hvC (heldL hs bl) j ∧ WT.heap.size ≤ hh)) (fun i _ => cc - (intOf i).toNat)
            case atStart =>
              refine ⟨0, Nat.zero_le _, rfl, HB9.out.drewN n10, ?_⟩
              rcases HVR.out with h | ⟨hh, e1, t, hle⟩
              · exact Or.inl h
              · exact Or.inr ⟨hh, e1, ⟨t.row⟩, hle⟩
            case round =>
              obtain ⟨j, hj, rfl, HBJ, HTJ⟩ := hrel
              by_cases hjc : j < cc
              · obtain ⟨hh, e1, ht, hle⟩ : ∃ hh, hvA = some ⟨hh, 0, none⟩ ∧ Told wr hh hvC (heldL hs bl) j ∧ WT.heap.size ≤ hh := by
                  rcases HTJ.out with h | h
                  · omega
                  · exact h
                subst e1
                have hlen : (heldL hs bl).length = cc := by rw [HCnt.out, HCC.out]
                obtain ⟨t1, t2⟩ := ht.cell (by rw [hlen]; exact hjc)
                obtain ⟨kk, hkk⟩ : ∃ kk, kk = (heldL hs bl).getD j 0 := ⟨_, rfl⟩
                have hmem : kk ∈ heldL hs bl := by rw [hkk]; simp [List.getD, show j < (heldL hs bl).length by omega]
                obtain ⟨hkb, hkh⟩ := heldL_lt hs bl kk hmem
                rw [← hkk] at t1
                obtain ⟨vb, vh, bsR, hd, yb, yh, hr⟩ := HBJ.out.ref
                obtain ⟨c0, c1, c2⟩ := yhd_cells hr.head
                obtain ⟨ah, cah, e2, hcah, hch⟩ := hr.heldForm
                subst e2
                obtain ⟨e3, dk, _⟩ := hch kk hkb
                subst e3
                rw [hkh] at dk
                have HT := hide ht
                have HLen := hide hlen
                have g1 : decide ((kk : Int) < 0) = false := by simp
                have g2 : decide ((bl : Int) ≤ kk) = false := by simp; omega
                have g2' : decide (bl ≤ kk) = false := by simp; omega
                have hhm : ¬ M hh := fun hm => by have := HNew.out hh hm; omega
                have HNext : Hid (Both w (wr.setCell ⟨hh, j, none⟩ (.int .i64 (-7))) y bl sz r g hs zs M) := HBJ.out.own_step ((Kept.refl hh hh wr).set _ _) (by omega) (by omega) hhm (by have := HBJ.out.r0; have := HBO.out.below.size; omega)
                have HTN : Hid (Told (wr.setCell ⟨hh, j, none⟩ (.int .i64 (-7))) hh hvC (heldL hs bl) (j + 1)) := ht.next (by omega)
                clear hr hch ht hlen hmem hkk hkh c0 c1 hhm
                by_cases hj0 : j = 0
                · subst hj0
                  go_wp2_with fail
                  go_quiet (fail)
                  go_wp2_with fail
                  go_roundw
                  case rel => exact ⟨1, by omega, by go_num, HNext.out.drewN _, Or.inr ⟨hh, rfl, ⟨HTN.out.row⟩, hle⟩⟩
                  case measure => simp [intOf]; omega
                · obtain ⟨i, rfl⟩ : ∃ i, j = i + 1 := ⟨j - 1, by omega⟩
                  have tp := HT.out.cell_past (i := i) (by omega) (by rw [HLen.out]; omega)
                  have g3 : decide ((kk : Int) ≤ -7) = false := by simp; omega
                  have g4 : ((i : Int) + 1 - 1) = i := by omega
                  go_wp2_with fail
                  go_quiet (fail)
                  go_wp2_with fail
                  go_roundw
                  case rel => exact ⟨i + 1 + 1, by omega, by go_num, HNext.out.drewN _, Or.inr ⟨hh, rfl, ⟨HTN.out.row⟩, hle⟩⟩
                  case measure => simp [intOf]; omega
              · go_wp2_with fail
                go_roundw
                case rel => exact ⟨k + 1, r, g, hs, zs, M, by omega, rfl, by go_num, HBJ⟩
                case measure => simp [intOf]; omega
      · as_aux_lemma =>
        go_wp2_with fail
        refine (clone_at r g bl sz hs zs WA HBA.out.slab).mono ?_
        rintro e W2 ⟨rfl, hs2, hb2⟩
        have HB2 := hide (HBA.out.below_step hb2)
        have HC2 := hide hs2
        have f1b : W2.cell? ⟨AA, 1, none⟩ = some (.int .i64 b) := (hb2.cell (p := ⟨AA, 1, none⟩) hAA).trans f1
        have hA2 : AA < W2.heap.size := Nat.lt_of_lt_of_le hAA hb2.size
        have hz2 : WA.heap.size ≤ W2.heap.size := hb2.size
        have hAr : AA ≠ r := by omega
        have hAg : AA ≠ g := by omega
        obtain ⟨R, hR⟩ : ∃ R, R = WA.heap.size := ⟨_, rfl⟩
        rw [← hR] at HC2
        rw [← hR]
        have hRr : r < R ∧ g < R := by omega
        have hR2 := HC2.out.lt
        have HRM : Hid (∀ k, M k → k < R) := fun k hk => by have := HBA.out.ref.lt k hk; omega
        have hR0 : w.heap.size ≤ R := by have := HBA.out.below.size; omega
        clear hs2 hb2 hR
        go_wp2_with fail
        refine (get_any r g bl sz hs zs W2 HB2.out.slab).mono ?_
        rintro e W3 ⟨rfl, hs3, hk3⟩
        have HS3 := hide hs3
        have HK3 : Hid (Kept r g W2 W3) := hk3.wide (Or.inl rfl)
        have f1c : W3.cell? ⟨AA, 1, none⟩ = some (.int .i64 b) := (World.cell?_of_block (w := W2) (hk3.block AA hA2 hAr hAr)).trans f1b
        have hz3 := hk3.size
        have hl3 := hs3.lt
        clear hs3 hk3
        go_wp2_with fail
        have HS4 : Hid (IsSlab (W3.alloc (.cells (vals [9]).toArray 5)) r g bl sz (ghs hs) zs) := HS3.out.keep (Below.heap_alloc _ _ _ hl3.2.2) (Below.heap_alloc _ _ _ hl3.1) (Below.heap_alloc _ _ _ hl3.2.1)
        refine (write_any r g bl sz (ghs hs) zs b 0 (some ⟨W3.heap.size, 0, none⟩) 1 1 [9] (W3.alloc (.cells (vals [9]).toArray 5)) HS4.out (src_block (alloc_new W3 _) rfl (by omega) (by decide))).mono ?_
        rintro e W4 ⟨rfl, hs5, hk5⟩
        have HS5 := hide hs5
        have HK5 : Hid (Kept r g W2 W4) := (HK3.out.alloc _).trans (hk5.wide (Or.inr rfl))
        have f1d : W4.cell? ⟨AA, 1, none⟩ = some (.int .i64 b) := (World.cell?_of_block (w := W2) (HK5.out.block AA hA2 hAr hAg)).trans f1b
        clear hs5 hk5
        go_wp2_with fail
        refine (put_any r g bl sz (ghs hs) _ b W4 HS5.out).mono ?_
        rintro e W5 ⟨rfl, _, hk6⟩
        have HK6 : Hid (Kept r g W2 W5) := HK5.out.trans hk6
        have HBO : Hid (Both w W5 y bl sz R (R + 1) hs zs M) := by
          have h1 := HB2.out.slab_step HK6.out
          have hp := HB2.out.pos
          have hr0 := HB2.out.r0
          have hg0 := HB2.out.g0
          exact ⟨HC2.out.keep (HK6.out.block 0 hR2.2.2 (by omega) (by omega)) (HK6.out.block R hR2.1 (by omega) (by omega)) (HK6.out.block (R + 1) hR2.2.1 (by omega) (by omega)), h1.1, h1.2, hp, hR0, by omega, HB2.out.m0, fun hm => by have := HRM.out R hm; omega, fun hm => by have := HRM.out (R + 1) hm; omega⟩
        clear hk6
        go_wp2_with fail
        refine (held_at R (R + 1) bl sz hs _ W5 HBO.out.slab).mono ?_
        rintro e W9 ⟨hv, rfl, hho, hb9⟩
        have HB9 := hide (HBO.out.below_step hb9)
        have HCnt : Hid ((heldL hs bl).length = (hs).count true) := by have := heldL_count hs; rw [HBO.out.slab.len] at this; exact this
        have hgt : W5.heap.size ≤ W9.heap.size := hb9.size
        have HNew : Hid (∀ k, M k → k < W5.heap.size) := HBO.out.ref.lt
        have hrg := HBO.out.slab.lt
        clear hb9
        obtain ⟨cc, hcc⟩ : ∃ cc, cc = (hs).count true := ⟨_, rfl⟩
        have hccb : cc ≤ bl := by have := count_both hs; rw [HBO.out.slab.len] at this; omega
        have HCC := hide hcc
        have hbm := HBO.out.slab.mb
        obtain ⟨hvA, hvC, hvE, hvR⟩ : ∃ a c, hv = .slice a cc c ∧ (cc = 0 ∨ ∃ hh, a = some ⟨hh, 0, none⟩ ∧ Told W9 hh c (heldL hs bl) 0 ∧ W5.heap.size ≤ hh) := by
          rcases hho with ⟨e1, e2⟩ | ⟨hh, cap, cur, o, hle⟩
          · have : cc = 0 := by rw [hcc, ← HCnt.out, e2]; rfl
            exact ⟨none, 0, by rw [e1, this], Or.inl this⟩
          · refine ⟨some ⟨hh, 0, none⟩, cap, ?_, Or.inr ⟨hh, rfl, Told.start o, hle⟩⟩
            have := o.val
            rw [this]
            congr 1
            simp [nums, HCnt.out, hcc]
        subst hvE
        have HVR := hide hvR
        clear hho hvR hcc
        go_wp2_with fail
        refine (used_at R (R + 1) bl sz _ _ W9 HB9.out.slab).mono ?_
        rintro e W10 ⟨rfl, n10, rfl⟩
        rw [← HCC.out]
        go_wp2_with fail
        refine (refused_at y bl sz hs _ M _ (HB9.out.drewN n10).ref).mono ?_
        rintro e W11 ⟨rfl, rfl⟩
        rw [← HCC.out]
        go_wp2_with fail
        refine (refused_at y bl sz hs _ M _ (HB9.out.drewN n10).ref).mono ?_
        rintro e W11 ⟨rfl, rfl⟩
        rw [← HCC.out]
        go_wp2_with fail
        go_loopw [27] (fun i wx => ∃ (j : Nat), j ≤ cc ∧ i = .int .i64 j ∧ Hid (Both w wx y bl sz R (R + 1) hs zs M) ∧ Hid (cc = 0 ∨ ∃ hh, hvA = some ⟨hh, 0, none⟩ ∧ Told wx hh hvC (heldL hs bl) j ∧ W5.heap.size ≤ hh)) (fun i _ => cc - (intOf i).toNat)
        case atStart =>
          refine ⟨0, Nat.zero_le _, rfl, HB9.out.drewN n10, ?_⟩
          rcases HVR.out with h | ⟨hh, e1, t, hle⟩
          · exact Or.inl h
          · exact Or.inr ⟨hh, e1, ⟨t.row⟩, hle⟩
        case round =>
          obtain ⟨j, hj, rfl, HBJ, HTJ⟩ := hrel
          by_cases hjc : j < cc
          · obtain ⟨hh, e1, ht, hle⟩ : ∃ hh, hvA = some ⟨hh, 0, none⟩ ∧ Told wr hh hvC (heldL hs bl) j ∧ W5.heap.size ≤ hh := by
              rcases HTJ.out with h | h
              · omega
              · exact h
            subst e1
            have hlen : (heldL hs bl).length = cc := by rw [HCnt.out, HCC.out]
            obtain ⟨t1, t2⟩ := ht.cell (by rw [hlen]; exact hjc)
            obtain ⟨kk, hkk⟩ : ∃ kk, kk = (heldL hs bl).getD j 0 := ⟨_, rfl⟩
            have hmem : kk ∈ heldL hs bl := by rw [hkk]; simp [List.getD, show j < (heldL hs bl).length by omega]
            obtain ⟨hkb, hkh⟩ := heldL_lt hs bl kk hmem
            rw [← hkk] at t1
            obtain ⟨vb, vh, bsR, hd, yb, yh, hr⟩ := HBJ.out.ref
            obtain ⟨c0, c1, c2⟩ := yhd_cells hr.head
            obtain ⟨ah, cah, e2, hcah, hch⟩ := hr.heldForm
            subst e2
            obtain ⟨e3, dk, _⟩ := hch kk hkb
            subst e3
            rw [hkh] at dk
            have HT := hide ht
            have HLen := hide hlen
            have g1 : decide ((kk : Int) < 0) = false := by simp
            have g2 : decide ((bl : Int) ≤ kk) = false := by simp; omega
            have g2' : decide (bl ≤ kk) = false := by simp; omega
            have hhm : ¬ M hh := fun hm => by have := HNew.out hh hm; omega
            have HNext : Hid (Both w (wr.setCell ⟨hh, j, none⟩ (.int .i64 (-7))) y bl sz R (R + 1) hs zs M) := HBJ.out.own_step ((Kept.refl hh hh wr).set _ _) (by omega) (by omega) hhm (by have := HBJ.out.r0; have := HBO.out.below.size; omega)
            have HTN : Hid (Told (wr.setCell ⟨hh, j, none⟩ (.int .i64 (-7))) hh hvC (heldL hs bl) (j + 1)) := ht.next (by omega)
            clear hr hch ht hlen hmem hkk hkh c0 c1 hhm
            by_cases hj0 : j = 0
            · subst hj0
              go_wp2_with fail
              go_quiet (fail)
              go_wp2_with fail
              go_roundw
              case rel => exact ⟨1, by omega, by go_num, HNext.out.drewN _, Or.inr ⟨hh, rfl, ⟨HTN.out.row⟩, hle⟩⟩
              case measure => simp [intOf]; omega
            · obtain ⟨i, rfl⟩ : ∃ i, j = i + 1 := ⟨j - 1, by omega⟩
              have tp := HT.out.cell_past (i := i) (by omega) (by rw [HLen.out]; omega)
              have g3 : decide ((kk : Int) ≤ -7) = false := by simp; omega
              have g4 : ((i : Int) + 1 - 1) = i := by omega
              go_wp2_with fail
              go_quiet (fail)
              go_wp2_with fail
              go_roundw
              case rel => exact ⟨i + 1 + 1, by omega, by go_num, HNext.out.drewN _, Or.inr ⟨hh, rfl, ⟨HTN.out.row⟩, hle⟩⟩
              case measure => simp [intOf]; omega
          · go_wp2_with fail
            go_roundw
            case rel => exact ⟨k + 1, R, (R + 1), hs, zs, M, by omega, rfl, by go_num, HBJ⟩
            case measure => simp [intOf]; omega
    · go_wp2_with fail
      refine (works_true wr HBR.out.slab.tab).mono ?_
      rintro e w9 ⟨rfl, hb9⟩
      have HB9 := hide (HBR.out.below.trans (hb9.mono HBR.out.below.size))
      clear hb9
      go_wp2_with fail
      go_ret
      exact ⟨rfl, HB9.out⟩

end Go.Proofs.YtnikjcinleghbaaDoor
