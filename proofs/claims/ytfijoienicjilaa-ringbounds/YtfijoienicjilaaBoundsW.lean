/-
  The walk of RingBounds: whatever the arguments hold, the call answers true and turns nothing that was there; no conditions but that the arguments can be read.
-/
import Derived.Test.YtfijoienicjilaaK
set_option linter.unusedSimpArgs false
set_option linter.unusedVariables false
namespace Go.Proofs.Ytfijoienicjilaa
open Go.RowKit

set_option maxHeartbeats 1000000 in
theorem bounds_bad (a0 : Int) (v1 v2 : Value) (w : World) (h : a0 < 0 ∨ 65536 < a0) :
    Calls Try.prog 5 #[.int .i64 a0, v1, v2] w fun e w' => e = .returned (.bool true) ∧ Below w.heap.size w w' := by
  go_enter Try.func5, Try.ntmps5
  go_wp2_with fail
  refine (works_true _).mono ?_
  rintro e u1 ⟨rfl, hb⟩
  have HB1 := hide hb
  clear hb
  go_wp2_with fail
  refine (new_bad a0 _ h).mono ?_
  rintro e u2 ⟨rfl, rfl⟩
  go_wp2_with fail
  go_ret
  exact ⟨rfl, HB1.out⟩

set_option maxRecDepth 100000 in
set_option maxHeartbeats 2000000 in
theorem bounds_good (n : Nat) (hn : n ≤ 65536) (a1 : Option Addr) (len1 cap1 : Nat) (a2 : Option Addr) (len2 cap2 : Nat) (z2 : List Int) (w : World) (w1 : IsRows w a1 len1 cap1) (w2 : IsRow .i64 w a2 len2 cap2 z2) :
    Calls Try.prog 5 #[.int .i64 n, .slice a1 len1 cap1, .slice a2 len2 cap2] w fun e w' => e = .returned (.bool true) ∧ Below w.heap.size w w' := by
  have l1 := rows_len w1
  have l1m : len1 ≤ 9223372036854775807 := by have := l1.2; unfold maxLen at this; omega
  have l2 := row_len w2
  have l2m : len2 ≤ 9223372036854775807 := by have := l2.2.2.1; unfold maxLen at this; omega
  have X1 := hide w1
  have X2 := hide w2
  clear l1 l2 w1 w2
  go_enter Try.func5, Try.ntmps5
  go_wp2_with fail
  refine (works_true _).mono ?_
  rintro e u1 ⟨rfl, hb⟩
  have HB1 := hide hb
  clear hb
  go_wp2_with fail
  refine (new_ring n _ hn).mono ?_
  rintro e u2 ⟨rfl, hr, hb⟩
  have hsz1 := HB1.out.size
  obtain ⟨g, hg⟩ : ∃ g, g = u1.heap.size := ⟨_, rfl⟩
  rw [← hg] at hr ⊢
  have hgw : w.heap.size ≤ g := by omega
  have HB2 : Hid (Below w.heap.size w u2) := HB1.out.trans (hb.mono hsz1)
  have HR2 := hide hr
  clear hr hb hg hsz1 HB1
  go_wp2_with fail
  go_loopw [9] (fun i wr => ∃ (k : Nat) (ic oc : Int) (q : List Int), k ≤ len1 ∧ i = .int .i64 k ∧ Hid (IsRing wr (g + 1) g n ic oc q) ∧ Hid (Below w.heap.size w wr)) (fun i _ => len1 - (intOf i).toNat)
  case atStart => exact ⟨0, 0, 0, [], Nat.zero_le _, rfl, HR2, HB2⟩
  case round =>
    obtain ⟨k, ic, oc, q, hk, rfl, HR, HB⟩ := hrel
    have hlt2 := HR.out.size_lt
    have hft := HR.out.fits
    by_cases hlt : k < len1
    · obtain ⟨b1, o1, e1, hb1, hrow⟩ := rows_lie X1.out (by omega)
      subst e1
      obtain ⟨a, l, c, zs, hcell, hrw⟩ := hrow k hlt
      have hcr : wr.cell? ⟨b1, o1 + k, none⟩ = some (.slice a l c) := (HB.out.cell (p := ⟨b1, o1 + k, none⟩) hb1).trans hcell
      have HW := hide hrw
      clear hrow hcell hrw
      go_wp2_with fail
      refine (len_ring _ _ _ _ _ _ wr HR.out).mono ?_
      rintro e v1 ⟨rfl, k1, rfl⟩
      go_wp2_with fail
      refine (put_ring (g + 1) g n ic oc q a l c (zs.take l) (wr.drewN k1) (HR.out.keep rfl rfl) (((row_src HW.out).keep fun b o e h0 => HB.out.block b (row_old HW.out h0 b o e)).drewN k1) (fun b o e h0 => by have := row_old HW.out h0 b o e; omega)).mono ?_
      rintro e v2 ⟨rfl, hr, hk2⟩
      obtain ⟨m, hm⟩ : ∃ m, m = min l (n - q.length) := ⟨_, rfl⟩
      rw [← hm] at hr ⊢
      have HB3 : Hid (Below w.heap.size w v2) := HB.out.trans (hk2.of_drewN.below (by omega) (by omega) HB.out.size)
      have hql : (q ++ (zs.take l).take m).length = q.length + m := by rw [List.length_append, List.length_take, (row_len HW.out).1]; omega
      generalize q ++ (zs.take l).take m = q2 at hr hql
      generalize (ic + (m : Int)) % 4294967296 = ic2 at hr
      have HR3 := hide hr
      have hcr2 : v2.cell? ⟨b1, o1 + k, none⟩ = some (.slice a l c) := by
        rw [World.cell?_of_block (w := wr) (hk2.of_drewN.block b1 (by omega) (by omega) (by omega))]
        exact hcr
      clear hr hk2
      have hf3 := HR3.out.fits
      have hn3 := HR3.out.nums
      obtain ⟨hi0, hi1, ho0, ho1, hdf⟩ := hn3
      have hq1 : q2.length ≤ q.length + m := by omega
      have hq2 : q.length + m ≤ q2.length := by omega
      have hdf2 : (ic2 - oc + 4294967296) % 4294967296 = q2.length := by omega
      have hml : m ≤ l := by omega
      have hmn : m ≤ n - q.length := by omega
      clear hql hdf
      rcases (show (l ≤ m ∧ l ≤ n - q.length) ∨ (n - q.length ≤ m ∧ n - q.length < l) by omega) with ⟨hmA, hmB⟩ | ⟨hmA, hmB⟩
      all_goals
        clear hm
        go_wp2_with fail
        refine (moved_ring _ _ _ _ _ _ v2 HR3.out).mono ?_
        rintro e v3 ⟨rfl, k3, rfl⟩
        go_wp2_with fail
        refine (len_ringD _ _ _ _ _ _ v2 HR3.out _).mono ?_
        rintro e v3 ⟨rfl, k4, rfl⟩
        go_wp2_with fail
        refine (len_ringD _ _ _ _ _ _ v2 HR3.out _).mono ?_
        rintro e v3 ⟨rfl, k5, rfl⟩
        go_wp2_with fail
        refine (cap_ringD _ _ _ _ _ _ v2 HR3.out _).mono ?_
        rintro e v3 ⟨rfl, k6, rfl⟩
        go_wp2_with fail
        refine (len_ringD _ _ _ _ _ _ v2 HR3.out _).mono ?_
        rintro e v3 ⟨rfl, k7, rfl⟩
        by_cases hl2 : k < len2
        · obtain ⟨b2, o2, e2, hb2, hc2⟩ := row_lies X2.out (by omega)
          subst e2
          obtain ⟨x, hx⟩ : ∃ x, w.cell? ⟨b2, o2 + k, none⟩ = some (.int .i64 x) := ⟨_, hc2 k hl2⟩
          have hxv : v2.cell? ⟨b2, o2 + k, none⟩ = some (.int .i64 x) := (HB3.out.cell (p := ⟨b2, o2 + k, none⟩) hb2).trans hx
          clear hc2
          go_wp2_with fail
          refine (len_ringD _ _ _ _ _ _ v2 HR3.out _).mono ?_
          rintro e v3 ⟨rfl, k8, rfl⟩
          go_wp2_with fail
          refine (drop_ring _ _ _ _ _ x _ (v2.drewN k8) (HR3.out.keep rfl rfl)).mono ?_
          rintro e v4 ⟨rfl, hr4, hk4⟩
          obtain ⟨m2, hm2⟩ : ∃ m2, m2 = min x.toNat q2.length := ⟨_, rfl⟩
          rw [← hm2] at hr4 ⊢
          have HB4 : Hid (Below w.heap.size w v4) := HB3.out.trans (hk4.of_drewN.below (by omega) (by omega) HB3.out.size)
          have hxv4 : v4.cell? ⟨b2, o2 + k, none⟩ = some (.int .i64 x) := (HB4.out.cell (p := ⟨b2, o2 + k, none⟩) hb2).trans hx
          have hq4 : (q2.drop m2).length = q2.length - m2 := List.length_drop
          generalize q2.drop m2 = q4 at hr4 hq4
          generalize (oc + (m2 : Int)) % 4294967296 = oc4 at hr4
          have HR4 := hide hr4
          have hq4a : q4.length ≤ q2.length - m2 := by omega
          have hq4b : q2.length - m2 ≤ q4.length := by omega
          clear hr4 hk4 hq4 hx
          rcases (show (x < 0 ∧ m2 ≤ 0) ∨ (0 ≤ x ∧ x ≤ q2.length ∧ (m2 : Int) ≤ x ∧ x ≤ m2) ∨ ((q2.length : Int) < x ∧ m2 ≤ q2.length ∧ q2.length ≤ m2) by omega) with ⟨hx1, hx2⟩ | ⟨hx1, hx2, hx3, hx4⟩ | ⟨hx1, hx2, hx3⟩
          all_goals
            clear hm2
            go_wp2_with fail
            all_goals
              refine (free_ring _ _ _ _ _ _ v4 HR4.out).mono ?_
              rintro e v5 ⟨rfl, k9, rfl⟩
              go_wp2_with fail
              all_goals
                go_roundw
                case rel => exact ⟨k + 1, _, _, _, by omega, by go_num, HR4.out.keep rfl rfl, below_drewN HB4.out _⟩
                case measure => simp [intOf]; omega
        · go_wp2_with fail
          go_roundw
          case rel => exact ⟨k + 1, _, _, _, by omega, by go_num, HR3.out.keep rfl rfl, below_drewN HB3.out _⟩
          case measure => simp [intOf]; omega
    · go_wp2_with fail
      go_ret
      exact ⟨rfl, HB.out⟩

end Go.Proofs.Ytfijoienicjilaa
