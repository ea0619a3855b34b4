/-
  The walk of RingPieces: whatever the arguments hold, the call answers true and turns nothing that was there; no conditions but that the arguments can be read.
-/
import Derived.Test.YtfijoienicjilaaJ
set_option linter.unusedSimpArgs false
set_option linter.unusedVariables false
namespace Go.Proofs.Ytfijoienicjilaa
open Go.RowKit

set_option maxHeartbeats 2000000 in
theorem pieces_walk (a0 : Int) (a1 : Option Addr) (len1 cap1 : Nat) (z1 : List Int) (a2 : Int) (a3 : Option Addr) (len3 cap3 : Nat) (z3 : List Int) (a4 : Option Addr) (len4 cap4 : Nat) (z4 : List Int) (w : World) (w1 : IsRow .u8 w a1 len1 cap1 z1) (w3 : IsRow .u8 w a3 len3 cap3 z3) (w4 : IsRow .i64 w a4 len4 cap4 z4) :
    Calls Try.prog 6 #[.int .i64 a0, .slice a1 len1 cap1, .int .i64 a2, .slice a3 len3 cap3, .slice a4 len4 cap4] w fun e w' => e = .returned (.bool true) ∧ Below w.heap.size w w' := by
  have s1 := row_src w1
  have s3 := row_src w3
  have o1 := row_old w1
  have o3 := row_old w3
  have l4 := row_len w4
  have l4m : len4 ≤ 9223372036854775807 := by have := l4.2.2.1; unfold maxLen at this; omega
  have X1 := hide s1
  have X3 := hide s3
  have O1 : Hid (∀ b o, a1 = some ⟨b, o, none⟩ → 0 < len1 → b < w.heap.size) := fun b o e h0 => o1 h0 b o e
  have O3 : Hid (∀ b o, a3 = some ⟨b, o, none⟩ → 0 < len3 → b < w.heap.size) := fun b o e h0 => o3 h0 b o e
  have X4 := hide w4
  clear s1 s3 o1 o3 w1 w3 w4 l4
  go_enter Try.func6, Try.ntmps6
  go_wp2_with fail
  refine (works_true _).mono ?_
  rintro e u1 ⟨rfl, hb⟩
  have HB1 := hide hb
  clear hb
  go_wp2_with fail
  refine (among a0 4096 (by omega) (by omega) _).mono ?_
  rintro e u2 ⟨n, hn, rfl, rfl⟩
  go_wp2_with fail
  refine (new_ring n _ (by omega)).mono ?_
  rintro e u2 ⟨rfl, hr, hb⟩
  have hsz1 := HB1.out.size
  obtain ⟨g, hg⟩ : ∃ g, g = u1.heap.size := ⟨_, rfl⟩
  rw [← hg] at hr ⊢
  have hgw : w.heap.size ≤ g := by omega
  have HB2 : Hid (Below w.heap.size w u2) := HB1.out.trans (hb.mono hsz1)
  have HR2 := hide hr
  clear hr hb hg hsz1 HB1
  go_wp2_with fail
  refine (put_ring (g + 1) g n 0 0 [] a1 len1 cap1 (z1.take len1) u2 HR2.out (X1.out.keep fun b o e h0 => HB2.out.block b (O1.out b o e h0)) (fun b o e h0 => by have := O1.out b o e h0; omega)).mono ?_
  rintro e u3 ⟨rfl, hr, hk⟩
  have hlt := HR2.out.size_lt
  have HB3 : Hid (Below w.heap.size w u3) := HB2.out.trans (hk.below (by omega) (by omega) HB2.out.size)
  obtain ⟨ic3, oc3, q3, hr3⟩ : ∃ ic oc q, IsRing u3 (g + 1) g n ic oc q := ⟨_, _, _, hr⟩
  have HR3 := hide hr3
  clear hr hk hr3 HR2 HB2 hlt
  go_wp2_with fail
  refine (drop_ring (g + 1) g n ic3 oc3 a2 q3 u3 HR3.out).mono ?_
  rintro e u4 ⟨rfl, hr, hk⟩
  have hlt := HR3.out.size_lt
  have HB4 : Hid (Below w.heap.size w u4) := HB3.out.trans (hk.below (by omega) (by omega) HB3.out.size)
  obtain ⟨ic4, oc4, q4, hr4⟩ : ∃ ic oc q, IsRing u4 (g + 1) g n ic oc q := ⟨_, _, _, hr⟩
  have HR4 := hide hr4
  clear hr hk hr4 HR3 HB3 hlt
  go_wp2_with fail
  refine (put_ring (g + 1) g n ic4 oc4 q4 a3 len3 cap3 (z3.take len3) u4 HR4.out (X3.out.keep fun b o e h0 => HB4.out.block b (O3.out b o e h0)) (fun b o e h0 => by have := O3.out b o e h0; omega)).mono ?_
  rintro e u5 ⟨rfl, hr, hk⟩
  have hlt := HR4.out.size_lt
  have HB5 : Hid (Below w.heap.size w u5) := HB4.out.trans (hk.below (by omega) (by omega) HB4.out.size)
  obtain ⟨ic5, oc5, q5, hr5⟩ : ∃ ic oc q, IsRing u5 (g + 1) g n ic oc q := ⟨_, _, _, hr⟩
  have HR5 := hide hr5
  clear hr hk hr5 HR4 HB4 hlt
  go_wp2_with fail
  refine (clone_ring (g + 1) g n ic5 oc5 q5 u5 HR5.out).mono ?_
  rintro e u6 ⟨rfl, hs, hb⟩
  have hlt5 := HR5.out.size_lt
  obtain ⟨s, hs6⟩ : ∃ s, s = u5.heap.size := ⟨_, rfl⟩
  rw [← hs6] at hs hb hlt5 ⊢
  have HB6 : Hid (Below w.heap.size w u6) := HB5.out.trans (hb.mono (by omega))
  have HS6 := hide hs
  have HR6 : Hid (IsRing u6 (g + 1) g n ic5 oc5 q5) := HR5.out.keep (hb.block _ hlt5.1) (hb.block _ hlt5.2)
  clear hs hb hs6 HR5 HB5
  go_wp2_with fail
  have hft := HS6.out.fits
  have hlt6 := HS6.out.size_lt
  have htk := take_ring (g + 1) g n ic5 oc5 65536 q5 u6 HR6.out
  rw [show min (65536 : Int).toNat q5.length = q5.length by omega, List.take_length, List.drop_length] at htk
  refine htk.mono ?_
  clear htk
  rintro e u7 ⟨rfl, hall, hr, hk⟩
  obtain ⟨A, hA⟩ : ∃ A, A = u6.heap.size := ⟨_, rfl⟩
  have hksz := hk.size
  have HS7 : Hid (IsRing u7 s (s + 1) n ic5 oc5 q5) := HS6.out.keep (hk.block _ hlt6.1 (by omega) (by omega)) (hk.block _ hlt6.2 (by omega) (by omega))
  have HB7 : Hid (Below w.heap.size w u7) := HB6.out.trans (hk.below (by omega) (by omega) HB6.out.size)
  rw [← hA] at hall hlt6 hksz ⊢
  have HR7 := hide hr
  have HA7 := hide hall
  have hA7 := lt_of_some hall
  clear hr hk hall hA HS6 HR6 HB6
  have hlt7 := HS7.out.size_lt
  go_wp2_with fail
  go_loopw [15, 16] (fun v i wr => ∃ (k : Nat) (l rest : List Int) (oc : Int), k ≤ len4 ∧ i = .int .i64 k ∧ Hid (l ++ rest = q5) ∧ Hid (IsRing wr s (s + 1) n ic5 oc rest) ∧ Hid (wr.ownsRow u7.heap.size 5 1 v l.length (vals l)) ∧ Hid (KeptB u7.heap.size s (s + 1) u7 wr)) (fun _ i _ => len4 - (intOf i).toNat)
  case atStart =>
    exact ⟨0, [], q5, oc5, Nat.zero_le _, rfl, rfl, HS7.out.keep (Below.heap_alloc _ _ _ hlt7.1) (Below.heap_alloc _ _ _ hlt7.2), own_new u7, KeptB.of_kept ((Kept.refl _ _ _).alloc _) (Nat.le_refl _)⟩
  case round =>
    obtain ⟨k, l, rest, oc, hk, rfl, HQ, HS, HO, HK⟩ := hrel
    have HBr : Hid (Below w.heap.size w wr) := HB7.out.trans (HK.out.below (by omega) (by omega) HB7.out.size)
    have hszr := HK.out.size
    have hqr := HS.out.bytes
    have hfr := HS.out.fits
    have hql : l.length + rest.length = q5.length := by rw [← HQ.out, List.length_append]
    have hltr := HS.out.size_lt
    have HQR := hide hqr
    clear hqr
    by_cases hlt : k < len4
    · obtain ⟨b4, o4, e4, hb4, hc4⟩ := row_lies X4.out (by omega)
      subst e4
      obtain ⟨x, hx⟩ : ∃ x, wr.cell? ⟨b4, o4 + k, none⟩ = some (.int .i64 x) := ⟨_, (HBr.out.cell (p := ⟨b4, o4 + k, none⟩) hb4).trans (hc4 k hlt)⟩
      clear hc4
      go_wp2_with fail
      refine (take_ring s (s + 1) n ic5 oc x rest wr HS.out).mono ?_
      rintro e v1 ⟨rfl, hg1, hr1, hk1⟩
      obtain ⟨m, hm⟩ : ∃ m, m = min x.toNat rest.length := ⟨_, rfl⟩
      rw [← hm] at hg1 hr1 ⊢
      have hmr : m ≤ rest.length := by omega
      clear hm
      have HO1 : Hid (v1.ownsRow u7.heap.size 5 1 u15 l.length (vals l)) := own_keep HO.out hk1 (by omega) (by omega)
      have HS1 := hide hr1
      have hk1z := hk1.size
      have HK1 : Hid (KeptB u7.heap.size s (s + 1) u7 v1) := HK.out.trans (KeptB.of_kept hk1 hszr)
      have HG1 : Hid (Src v1 (some ⟨wr.heap.size, 0, none⟩) m m (rest.take m)) := src_block hg1 (by rw [List.length_take]; omega) (by omega) (fun y hy => HQR.out y (List.mem_of_mem_take hy))
      clear hg1 hr1 hk1
      obtain ⟨v', w', hr, ho, hb⟩ := run_app 30 HO1.out HG1.out (by omega) (by omega)
      have HS2 : Hid (IsRing w' s (s + 1) n ic5 ((oc + (m : Nat)) % 4294967296) (rest.drop m)) := HS1.out.keep (hb.block _ (by omega)) (hb.block _ (by omega))
      have HO2 := hide ho
      have HK2 : Hid (KeptB u7.heap.size s (s + 1) u7 w') := HK1.out.trans (KeptB.of_below hb)
      clear ho hb
      have HRUN := hide hr
      clear hr
      go_wp2_with (at_builtin; refine wpList_app_run _ rfl _ _ _ _ rfl _ _ rfl rfl HRUN.out ?_)
      go_roundw
      case rel => exact ⟨k + 1, _, _, _, by omega, by go_num, (show _ = _ by rw [List.append_assoc, List.take_append_drop, HQ.out]), HS2, HO2, HK2⟩
      case measure => simp [intOf]; omega
    · go_wp2_with fail
      have htk := take_ring s (s + 1) n ic5 oc 65536 rest wr HS.out
      rw [show min (65536 : Int).toNat rest.length = rest.length by omega, List.take_length, List.drop_length] at htk
      refine htk.mono ?_
      clear htk
      rintro e v1 ⟨rfl, hg1, hr1, hk1⟩
      have HO1 : Hid (v1.ownsRow u7.heap.size 5 1 u15 l.length (vals l)) := own_keep HO.out hk1 (by omega) (by omega)
      have HS1 := hide hr1
      have hk1z := hk1.size
      have HK1 : Hid (KeptB u7.heap.size s (s + 1) u7 v1) := HK.out.trans (KeptB.of_kept hk1 hszr)
      have HG1 : Hid (Src v1 (some ⟨wr.heap.size, 0, none⟩) rest.length rest.length rest) := src_block hg1 rfl (by omega) HQR.out
      clear hg1 hr1 hk1
      obtain ⟨v', w', hr, ho, hb⟩ := run_app 30 HO1.out HG1.out (by omega) (by omega)
      have HS2 : Hid (IsRing w' s (s + 1) n ic5 ((oc + (rest.length : Nat)) % 4294967296) []) := HS1.out.keep (hb.block _ (by omega)) (hb.block _ (by omega))
      rw [HQ.out] at ho
      have HK2 : Hid (KeptB u7.heap.size s (s + 1) u7 w') := HK1.out.trans (KeptB.of_below hb)
      have hltR := HR7.out.size_lt
      have HR2 := hide (HR7.out.keep (HK2.out.block _ hltR.1 (by omega) (by omega)) (HK2.out.block _ hltR.2 (by omega) (by omega)))
      obtain ⟨ao, co, rfl, hso, _⟩ := own_src ho (HS7.out.bytes)
      have HSO := hide hso
      have HSA : Hid (Src w' (some ⟨A, 0, none⟩) q5.length q5.length q5) := src_block (by rw [HK2.out.block _ hA7 (by omega) (by omega)]; exact HA7.out) rfl (by omega) HS7.out.bytes
      clear ho hb hso hltR
      have HRUN := hide hr
      clear hr
      go_wp2_with (at_builtin; refine wpList_app_run _ rfl _ _ _ _ rfl _ _ rfl rfl HRUN.out ?_)
      refine (same_bytes w' _ _ _ _ _ _ q5 HSA.out HSO.out).mono ?_
      rintro e v2 ⟨rfl, rfl⟩
      go_wp2_with fail
      refine (len_ring _ _ _ _ _ _ w' HR2.out).mono ?_
      rintro e v2 ⟨rfl, k2, rfl⟩
      go_wp2_with fail
      refine (len_ring _ _ _ _ _ _ (w'.drewN k2) (HS2.out.keep rfl rfl)).mono ?_
      rintro e v3 ⟨rfl, k3, rfl⟩
      go_wp2_with fail
      go_ret
      exact ⟨rfl, below_drewN (HB7.out.trans (HK2.out.below (by omega) (by omega) HB7.out.size)) _⟩

end Go.Proofs.Ytfijoienicjilaa
