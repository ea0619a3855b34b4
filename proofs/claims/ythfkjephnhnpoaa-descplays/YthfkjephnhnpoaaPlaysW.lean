/-
  The walk of DescPlays: for all arguments the call answers true and leaves what was there; no conditions.
-/
import Derived.Test.YthfkjephnhnpoaaQ
set_option linter.unusedSimpArgs false
set_option linter.unusedVariables false
namespace Go.Proofs.Ythfkjephnhnpoaa
open Go.RowKit

set_option maxHeartbeats 1000000 in
theorem plays_bad (a0 : Int) (v : Value) (w : World) (h : a0 < 0 ∨ 4096 < a0) : Calls Try.prog 3 #[.int .i64 a0, v] w fun e w' => e = .returned (.bool true) ∧ Below w.heap.size w w' := by
  go_enter Try.func3, Try.ntmps3
  go_wp2_with fail
  refine (new_bad a0 w h).mono ?_
  rintro e w1 ⟨rfl, rfl⟩
  go_wp2_with fail
  refine (rnew_bad a0 w h).mono ?_
  rintro e w1 ⟨rfl, rfl⟩
  go_wp2_with fail
  go_ret
  exact ⟨rfl, Below.refl _ _⟩

/-- The table and the reference, all of them made by the call itself. -/
structure PlS (w wr : World) (r g y b : Nat) (es : List En) : Prop where
  both : Both wr r g y b es
  below : Below w.heap.size w wr
  hr : w.heap.size ≤ r
  hg : w.heap.size ≤ g
  hy : w.heap.size ≤ y
  hb : w.heap.size ≤ b

theorem PlS.step {w wr wx : World} {r g y b : Nat} {es : List En} (s : PlS w wr r g y b es) (h : Below wr.heap.size wr wx) : PlS w wx r g y b es :=
  { s with both := s.both.below h, below := s.below.trans (h.mono s.below.size) }
theorem PlS.draw {w wr : World} {r g y b : Nat} {es : List En} (s : PlS w wr r g y b es) (n : Nat) : PlS w (wr.drewN n) r g y b es := s.step ⟨rfl, rfl, rfl, Nat.le_refl _, fun _ _ => rfl⟩

set_option maxRecDepth 100000 in
set_option maxHeartbeats 2000000 in
theorem plays_good (n : Nat) (hn : n ≤ 4096) (a1 : Option Addr) (len1 cap1 : Nat) (w : World) (hA : IsActs w a1 len1 cap1) : Calls Try.prog 3 #[.int .i64 n, .slice a1 len1 cap1] w fun e w' => e = .returned (.bool true) ∧ Below w.heap.size w w' := by
  have hlen : len1 ≤ 3518437208883 := Nat.le_trans hA.1 hA.2.1
  have HA := hide hA.2.2
  clear hA
  go_enter Try.func3, Try.ntmps3
  go_wp2_with fail
  refine (new_good n w hn).mono ?_
  rintro e w1 ⟨rfl, ht1, hb1⟩
  have HT1 := hide ht1
  have HB1 := hide hb1
  clear ht1 hb1
  go_wp2_with fail
  refine (rnew_good n w1 hn).mono ?_
  rintro e w2 ⟨rfl, ⟨b, hr2, hbl⟩, hb2⟩
  have hl1 := HT1.out.lt
  have HS2 : Hid (PlS w w2 (w.heap.size + 1) w.heap.size w1.heap.size b (List.replicate n freshE)) :=
    ⟨⟨HT1.out.below hb2 hl1.1 hl1.2, hr2, by omega, by omega, by omega, by omega⟩, HB1.out.trans (hb2.mono HB1.out.size), by omega, Nat.le_refl _, HB1.out.size, by have := HB1.out.size; omega⟩
  obtain ⟨y, hy⟩ : ∃ y, y = w1.heap.size := ⟨_, rfl⟩
  rw [← hy] at HS2 ⊢
  clear hr2 hb2 hy hbl
  go_wp2_with fail
  go_loopw [5, 9] (fun t i wr => ∃ (k r g : Nat) (es : List En), k ≤ len1 ∧ i = .int .i64 k ∧ t = .pointer (some ⟨r, 0, none⟩) ∧ Hid (PlS w wr r g y b es)) (fun _ i _ => len1 - (intOf i).toNat)
  case atStart => exact ⟨0, _, _, _, Nat.zero_le _, rfl, rfl, HS2⟩
  case round =>
    obtain ⟨k, r, g, es, hk, rfl, rfl, HS⟩ := hrel
    clear HS2
    by_cases hlt : k < len1
    · obtain ⟨A, o, e2, hAl, hacts⟩ := HA.out (by omega)
      subst e2
      obtain ⟨x, hx⟩ := hacts k hlt
      obtain ⟨d, px, pz, kk, nn⟩ := x
      have HX := hide hx
      clear hacts hx
      have q := HX.out.below HS.out.below hAl
      obtain ⟨q0, q1, q2, q3, q4⟩ := q
      simp only at q0 q1 q2 q3 q4
      go_wp2_with fail
      refine (among d 6 (by omega) (by omega) wr).mono ?_
      rintro e v0 ⟨kd, hkd, rfl, rfl⟩
      by_cases h5 : kd = 5
      · subst h5
        have hlr := HS.out.both.tab.lt
        have hly := HS.out.both.ref.lt
        go_wp2_with fail
        refine (clone_at r g es wr HS.out.both.tab).mono ?_
        rintro e w3 ⟨rfl, ht3, hb3⟩
        have hz3 := ht3.lt.1
        have HT3 := hide ht3
        have HS3 : Hid (PlS w w3 r g y b es) := HS.out.step hb3
        obtain ⟨g2, hg2⟩ : ∃ g2, g2 = wr.heap.size := ⟨_, rfl⟩
        rw [← hg2] at HT3 hz3 ⊢
        have hg2l : w.heap.size ≤ g2 := by rw [hg2]; exact HS.out.below.size
        have n1 : r < g2 := by omega
        have n2 : g < g2 := by omega
        have n3 : y < g2 := by omega
        have n4 : b < g2 := by omega
        clear ht3 hb3 hg2 hlr hly
        obtain ⟨q0, q1, q2, q3, q4⟩ := HX.out.below HS3.out.below hAl
        simp only at q0 q1 q2 q3 q4
        go_wp2_with fail
        refine (close_any r g es px pz w3 HS3.out.both.tab).mono ?_
        rintro e w4 ⟨rfl, ht4, hk4⟩
        have HT4 := hide ht4
        have HK4 := hide hk4
        clear ht4 hk4
        go_wp2_with fail
        refine (open_any r g _ 1 2 w4 HT4.out).mono ?_
        rintro e w5 ⟨rfl, ht5, hk5⟩
        have hk45 : Kept g g w3 w5 := HK4.out.trans hk5
        have hs3 := HS3.out.both.ref.lt
        have HS5 : Hid (PlS w w5 (g2 + 1) g2 y b es) := by
          refine ⟨⟨HT3.out.keep (hk45.block _ hz3 (by omega) (by omega)) (hk45.block _ (by omega) (by omega) (by omega)), HS3.out.both.ref.keep (hk45.block _ hs3.1 (Ne.symm HS3.out.both.gy) (Ne.symm HS3.out.both.gy)) (hk45.block _ hs3.2 (Ne.symm HS3.out.both.gb) (Ne.symm HS3.out.both.gb)), by omega, by omega, by omega, by omega⟩, HS3.out.below.trans (hk45.below HS3.out.hg HS3.out.hg HS3.out.below.size), by omega, hg2l, HS3.out.hy, HS3.out.hb⟩
        clear ht5 hk5 hk45 HT4 HK4 HT3 HS3 hs3 hz3
        have HW5 : Hid (w.heap.size ≤ w5.heap.size) := HS5.out.below.size
        have HL5 : Hid ((g2 + 1) < w5.heap.size ∧ g2 < w5.heap.size ∧ y < w5.heap.size ∧ b < w5.heap.size) := ⟨HS5.out.both.tab.lt.1, HS5.out.both.tab.lt.2, HS5.out.both.ref.lt.1, HS5.out.both.ref.lt.2⟩
        go_wp2_with fail
        refine (live_at (g2 + 1) g2 es w5 HS5.out.both.tab).mono ?_
        rintro e w6 ⟨vl, rfl, hh6, hb6⟩
        have HS6 : Hid (PlS w w6 (g2 + 1) g2 y b es) := HS5.out.step hb6
        have HH6 := hide hh6
        clear hh6 hb6 HS5
        go_wp2_with fail
        refine (rlive_at y b es w6 HS6.out.both.ref).mono ?_
        rintro e w7 ⟨vm, rfl, hh7, hb7⟩
        have HS7 : Hid (PlS w w7 (g2 + 1) g2 y b es) := HS6.out.step hb7
        have HH6' : Hid (IsH w7 w5.heap.size vl (live es es.length)) := HH6.out.keep fun i _ hi => hb7.block i hi
        have HH7 := hide hh7
        have hml : (live es es.length).length ≤ 4096 := Nat.le_trans (live_le _ _) HS7.out.both.tab.max
        have h5z : w.heap.size ≤ w5.heap.size := HW5.out
        clear hh7 hb7 HS6 HH6
        go_wp2_with fail
        refine (same_at _ _ vl vm _ w7 HH6'.out HH7.out hml).mono ?_
        rintro e w8 ⟨rfl, c8, hw8⟩
        have HS8 : Hid (PlS w w8 (g2 + 1) g2 y b es) := by rw [hw8]; exact HS7.out.draw c8
        have HH8 : Hid (IsH w8 w5.heap.size vl (live es es.length)) := by rw [hw8]; exact HH6'.out.keep fun _ _ _ => rfl
        clear hw8 HS7 HH7 HH6'
        obtain ⟨al, cl, hvl⟩ := HH8.out.shape
        subst hvl
        obtain ⟨m, hm⟩ : ∃ m, m = (live es es.length).length := ⟨_, rfl⟩
        have HU := hide (used_at (g2 + 1) g2 es w8 HS8.out.both.tab)
        rw [← hm] at HU hml ⊢
        have HM := hide hm
        clear hm
        go_wp2_with fail
        refine HU.out.mono ?_
        rintro e w9 ⟨rfl, hb9⟩
        have HS9 : Hid (PlS w w9 (g2 + 1) g2 y b es) := HS8.out.step hb9
        have HH9 : Hid (IsH w9 w5.heap.size (.slice al m cl) (live es es.length)) := by
          have h := HH8.out.keep (w' := w9) fun i _ hi => hb9.block i hi
          rw [← HM.out] at h
          exact h
        clear hb9 HU HS8 HH8
        go_wp2_with fail
        go_loopw [12] (fun i wx => ∃ j : Nat, j ≤ m ∧ i = .int .i64 j ∧ Hid (PlS w wx (g2 + 1) g2 y b es) ∧ Hid (m = 0 ∨ ∃ hh C, al = some ⟨hh, 0, none⟩ ∧ wx.heap[hh]? = some (.cells C 32 (0, 0)) ∧ m * 2 ≤ C.size ∧ w5.heap.size ≤ hh)) (fun i _ => m - (intOf i).toNat)
        case atStart =>
          refine ⟨0, Nat.zero_le _, rfl, HS9, ?_⟩
          rcases HH9.out with ⟨e1, e2⟩ | ⟨hh, cap, cur, oo, hle⟩
          · left
            rw [HM.out, e2]; rfl
          · right
            have hv := oo.val
            simp only [Value.slice.injEq] at hv
            have hf := oo.fit
            have hs := oo.size
            rw [← HM.out] at hf
            exact ⟨hh, cur, hv.1, oo.row, by omega, hle⟩
        case round =>
          obtain ⟨j, hj, rfl, HSx, HRow⟩ := hrel
          clear HS9 HH9
          by_cases hjm : j < m
          · obtain ⟨hh, C, e1, hrow, hCs, hle⟩ : ∃ hh C, al = some ⟨hh, 0, none⟩ ∧ wr.heap[hh]? = some (.cells C 32 (0, 0)) ∧ m * 2 ≤ C.size ∧ w5.heap.size ≤ hh := by
              rcases HRow.out with h | h
              · omega
              · exact h
            subst e1
            obtain ⟨vv, hvv⟩ : ∃ vv, C[j * 2 + 1]? = some vv := ⟨_, Array.getElem?_eq_getElem (by omega)⟩
            have c1 : wr.cell? ⟨hh, j * 2 + 1, none⟩ = some vv := by simp [World.cell?, hrow, hvv]
            have f1 : wr.frozen? ⟨hh, j * 2 + 1, none⟩ = false := by simp [World.frozen?, hrow]
            have HRw := hide hrow
            have HCs := hide hCs
            have hl5 := HL5.out
            clear hrow hvv hCs
            go_wp2_with fail
            go_roundw
            case rel =>
              refine ⟨j + 1, by omega, by go_num, ?_, ?_⟩
              · have k1 : Kept hh hh wr (wr.setCell ⟨hh, j * 2 + 1, none⟩ (.int .i64 (-7))) := (Kept.refl _ _ _).set _ _
                have hlt1 := HSx.out.both.tab.lt
                have hlt2 := HSx.out.both.ref.lt
                refine { HSx.out with both := { HSx.out.both with tab := HSx.out.both.tab.keep (k1.block _ hlt1.1 (by omega) (by omega)) (k1.block _ hlt1.2 (by omega) (by omega)), ref := HSx.out.both.ref.keep (k1.block _ hlt2.1 (by omega) (by omega)) (k1.block _ hlt2.2 (by omega) (by omega)) }, below := HSx.out.below.trans (k1.below (by omega) (by omega) HSx.out.below.size) }
              · right
                exact ⟨hh, _, rfl, heap_setCell_same HRw.out _ _, by rw [Array.size_setIfInBounds]; exact HCs.out, hle⟩
            case measure => simp [intOf]; omega
          · obtain rfl : j = m := by omega
            go_wp2_with fail
            go_roundw
            case rel => exact ⟨k + 1, g2 + 1, g2, es, by omega, by go_num, rfl, HSx⟩
            case measure => simp [intOf]; omega
      · obtain ⟨kk2, hkk2⟩ : ∃ z, z = kd := ⟨_, rfl⟩
        have h5' : ¬ (kd : Int) = 5 := by omega
        clear hkk2
        go_wp2_with fail
        refine (play_at r g y b es d px pz kk nn wr HS.out.both).mono ?_
        rintro e w5 ⟨rfl, ⟨es5, hbt⟩, hk5⟩
        have HS5 : Hid (PlS w w5 r g y b es5) := ⟨hbt, HS.out.below.trans (hk5.below HS.out.hg HS.out.hb HS.out.below.size), HS.out.hr, HS.out.hg, HS.out.hy, HS.out.hb⟩
        clear hbt hk5
        have HW5 : Hid (w.heap.size ≤ w5.heap.size) := HS5.out.below.size
        have HL5 : Hid (r < w5.heap.size ∧ g < w5.heap.size ∧ y < w5.heap.size ∧ b < w5.heap.size) := ⟨HS5.out.both.tab.lt.1, HS5.out.both.tab.lt.2, HS5.out.both.ref.lt.1, HS5.out.both.ref.lt.2⟩
        go_wp2_with fail
        refine (live_at r g es5 w5 HS5.out.both.tab).mono ?_
        rintro e w6 ⟨vl, rfl, hh6, hb6⟩
        have HS6 : Hid (PlS w w6 r g y b es5) := HS5.out.step hb6
        have HH6 := hide hh6
        clear hh6 hb6 HS5
        go_wp2_with fail
        refine (rlive_at y b es5 w6 HS6.out.both.ref).mono ?_
        rintro e w7 ⟨vm, rfl, hh7, hb7⟩
        have HS7 : Hid (PlS w w7 r g y b es5) := HS6.out.step hb7
        have HH6' : Hid (IsH w7 w5.heap.size vl (live es5 es5.length)) := HH6.out.keep fun i _ hi => hb7.block i hi
        have HH7 := hide hh7
        have hml : (live es5 es5.length).length ≤ 4096 := Nat.le_trans (live_le _ _) HS7.out.both.tab.max
        have h5z : w.heap.size ≤ w5.heap.size := HW5.out
        clear hh7 hb7 HS6 HH6
        go_wp2_with fail
        refine (same_at _ _ vl vm _ w7 HH6'.out HH7.out hml).mono ?_
        rintro e w8 ⟨rfl, c8, hw8⟩
        have HS8 : Hid (PlS w w8 r g y b es5) := by rw [hw8]; exact HS7.out.draw c8
        have HH8 : Hid (IsH w8 w5.heap.size vl (live es5 es5.length)) := by rw [hw8]; exact HH6'.out.keep fun _ _ _ => rfl
        clear hw8 HS7 HH7 HH6'
        obtain ⟨al, cl, hvl⟩ := HH8.out.shape
        subst hvl
        obtain ⟨m, hm⟩ : ∃ m, m = (live es5 es5.length).length := ⟨_, rfl⟩
        have HU := hide (used_at r g es5 w8 HS8.out.both.tab)
        rw [← hm] at HU hml ⊢
        have HM := hide hm
        clear hm
        go_wp2_with fail
        refine HU.out.mono ?_
        rintro e w9 ⟨rfl, hb9⟩
        have HS9 : Hid (PlS w w9 r g y b es5) := HS8.out.step hb9
        have HH9 : Hid (IsH w9 w5.heap.size (.slice al m cl) (live es5 es5.length)) := by
          have h := HH8.out.keep (w' := w9) fun i _ hi => hb9.block i hi
          rw [← HM.out] at h
          exact h
        clear hb9 HU HS8 HH8
        go_wp2_with fail
        go_loopw [12] (fun i wx => ∃ j : Nat, j ≤ m ∧ i = .int .i64 j ∧ Hid (PlS w wx r g y b es5) ∧ Hid (m = 0 ∨ ∃ hh C, al = some ⟨hh, 0, none⟩ ∧ wx.heap[hh]? = some (.cells C 32 (0, 0)) ∧ m * 2 ≤ C.size ∧ w5.heap.size ≤ hh)) (fun i _ => m - (intOf i).toNat)
        case atStart =>
          refine ⟨0, Nat.zero_le _, rfl, HS9, ?_⟩
          rcases HH9.out with ⟨e1, e2⟩ | ⟨hh, cap, cur, oo, hle⟩
          · left
            rw [HM.out, e2]; rfl
          · right
            have hv := oo.val
            simp only [Value.slice.injEq] at hv
            have hf := oo.fit
            have hs := oo.size
            rw [← HM.out] at hf
            exact ⟨hh, cur, hv.1, oo.row, by omega, hle⟩
        case round =>
          obtain ⟨j, hj, rfl, HSx, HRow⟩ := hrel
          clear HS9 HH9
          by_cases hjm : j < m
          · obtain ⟨hh, C, e1, hrow, hCs, hle⟩ : ∃ hh C, al = some ⟨hh, 0, none⟩ ∧ wr.heap[hh]? = some (.cells C 32 (0, 0)) ∧ m * 2 ≤ C.size ∧ w5.heap.size ≤ hh := by
              rcases HRow.out with h | h
              · omega
              · exact h
            subst e1
            obtain ⟨vv, hvv⟩ : ∃ vv, C[j * 2 + 1]? = some vv := ⟨_, Array.getElem?_eq_getElem (by omega)⟩
            have c1 : wr.cell? ⟨hh, j * 2 + 1, none⟩ = some vv := by simp [World.cell?, hrow, hvv]
            have f1 : wr.frozen? ⟨hh, j * 2 + 1, none⟩ = false := by simp [World.frozen?, hrow]
            have HRw := hide hrow
            have HCs := hide hCs
            have hl5 := HL5.out
            clear hrow hvv hCs
            go_wp2_with fail
            go_roundw
            case rel =>
              refine ⟨j + 1, by omega, by go_num, ?_, ?_⟩
              · have k1 : Kept hh hh wr (wr.setCell ⟨hh, j * 2 + 1, none⟩ (.int .i64 (-7))) := (Kept.refl _ _ _).set _ _
                have hlt1 := HSx.out.both.tab.lt
                have hlt2 := HSx.out.both.ref.lt
                refine { HSx.out with both := { HSx.out.both with tab := HSx.out.both.tab.keep (k1.block _ hlt1.1 (by omega) (by omega)) (k1.block _ hlt1.2 (by omega) (by omega)), ref := HSx.out.both.ref.keep (k1.block _ hlt2.1 (by omega) (by omega)) (k1.block _ hlt2.2 (by omega) (by omega)) }, below := HSx.out.below.trans (k1.below (by omega) (by omega) HSx.out.below.size) }
              · right
                exact ⟨hh, _, rfl, heap_setCell_same HRw.out _ _, by rw [Array.size_setIfInBounds]; exact HCs.out, hle⟩
            case measure => simp [intOf]; omega
          · obtain rfl : j = m := by omega
            go_wp2_with fail
            go_roundw
            case rel => exact ⟨k + 1, r, g, es5, by omega, by go_num, rfl, HSx⟩
            case measure => simp [intOf]; omega
    · go_wp2_with fail
      refine (works_at wr).mono ?_
      rintro e w3 ⟨rfl, hb3⟩
      have HB3 : Hid (Below w.heap.size w w3) := HS.out.below.trans (hb3.mono HS.out.below.size)
      clear hb3
      go_wp2_with fail
      go_ret
      exact ⟨rfl, HB3.out⟩

theorem plays_walk (a0 : Int) (a1 : Option Addr) (len1 cap1 : Nat) (w : World) (hA : IsActs w a1 len1 cap1) : Calls Try.prog 3 #[.int .i64 a0, .slice a1 len1 cap1] w fun e w' => e = .returned (.bool true) ∧ Below w.heap.size w w' := by
  by_cases h : a0 < 0 ∨ 4096 < a0
  · exact plays_bad a0 _ w h
  · obtain ⟨n, rfl⟩ := Int.eq_ofNat_of_zero_le (show 0 ≤ a0 by omega)
    exact plays_good n (by omega) a1 len1 cap1 w hA

end Go.Proofs.Ythfkjephnhnpoaa
