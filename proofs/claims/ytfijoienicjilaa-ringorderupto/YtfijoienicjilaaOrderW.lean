/-
  The walk of RingOrder: where at most 1048576 slices are put the call answers true and turns nothing that was there; no other conditions but that the arguments can be read.
-/
import Derived.Test.YtfijoienicjilaaL
set_option linter.unusedSimpArgs false
set_option linter.unusedVariables false
namespace Go.Proofs.Ytfijoienicjilaa
open Go.RowKit

theorem peek_all (r g n : Nat) (ic oc : Int) (q : List Int) (w : World) (h : IsRing w r g n ic oc q) :
    Calls Try.prog 17 #[.pointer (some ⟨r, 0, none⟩), .int .i64 65536] w fun e w' => e = .returned (.slice (some ⟨w.heap.size, 0, none⟩) q.length q.length) ∧ Fresh w w' q := by
  have hp := peek_ring r g n ic oc 65536 q w h
  have hf := h.fits
  rw [show min (65536 : Int).toNat q.length = q.length by omega, List.take_length] at hp
  exact hp

set_option maxRecDepth 100000 in
set_option maxHeartbeats 2000000 in
theorem order_walk (a0 : Int) (a1 : Option Addr) (len1 cap1 : Nat) (a2 : Option Addr) (len2 cap2 : Nat) (z2 : List Int) (w : World) (hfew : len1 ≤ 1048576) (w1 : IsRows w a1 len1 cap1) (w2 : IsRow .i64 w a2 len2 cap2 z2) :
    Calls Try.prog 4 #[.int .i64 a0, .slice a1 len1 cap1, .slice a2 len2 cap2] w fun e w' => e = .returned (.bool true) ∧ Below w.heap.size w w' := by
  have l2 := row_len w2
  have l2m : len2 ≤ 9223372036854775807 := by have := l2.2.2.1; unfold maxLen at this; omega
  have X1 := hide w1
  have X2 := hide w2
  clear l2 w1 w2
  go_enter Try.func4, Try.ntmps4
  go_wp2_with fail
  refine (works_true _).mono ?_
  rintro e u1 ⟨rfl, hb⟩
  have HB1 := hide hb
  clear hb
  go_wp2_with fail
  refine (among a0 4096 (by omega) (by omega) _).mono ?_
  rintro e u2 ⟨n, hn, rfl, rfl⟩
  go_wp2_with fail
  refine (new_ring n _ (by omega)).mono ?_
  rintro e u2 ⟨rfl, hr, hb⟩
  have hsz1 := HB1.out.size
  obtain ⟨g, hg⟩ : ∃ g, g = u1.heap.size := ⟨_, rfl⟩
  rw [← hg] at hr ⊢
  have hgw : w.heap.size ≤ g := by omega
  have HB2 : Hid (Below w.heap.size w u2) := HB1.out.trans (hb.mono hsz1)
  have HR2 := hide hr
  have hlt2 := hr.size_lt
  clear hr hb hg hsz1 HB1
  go_wp2_with fail
  go_loopw [9, 10, 11] (fun vi vo i wr => ∃ (k : Nat) (ic oc : Int) (q li lo : List Int) (hi ho : Nat), k ≤ len1 ∧ i = .int .i64 k ∧ Hid (IsRing wr (g + 1) g n ic oc q) ∧ Hid (Below w.heap.size w wr) ∧ Hid (OwnAt wr hi vi li) ∧ Hid (OwnAt wr ho vo lo) ∧ hi ≠ ho ∧ g + 1 < hi ∧ g + 1 < ho ∧ Hid (li = lo ++ q) ∧ li.length ≤ 4096 * k ∧ Hid (∀ x ∈ li, 0 ≤ x ∧ x < 256)) (fun _ _ i _ => len1 - (intOf i).toNat)
  case atStart =>
    refine ⟨0, 0, 0, [], [], [], u2.heap.size, u2.heap.size + 1, Nat.zero_le _, rfl, HR2.out.keep (by rw [Below.heap_alloc _ _ _ (by simp; omega), Below.heap_alloc _ _ _ hlt2.1]) (by rw [Below.heap_alloc _ _ _ (by simp; omega), Below.heap_alloc _ _ _ hlt2.2]), (HB2.out.alloc HB2.out.size _).alloc (by have := HB2.out.size; simp; omega) _, (own_at_new u2).keep (Below.heap_alloc _ _ _ (by simp)), ?_, by omega, hlt2.1, by omega, rfl, by simp, fun x hx => by simp at hx⟩
    have := own_at_new (u2.alloc (.cells #[] 5))
    rw [World.size_alloc] at this
    exact this
  case round =>
    obtain ⟨k, ic, oc, q, li, lo, hi, ho, hk, rfl, HR, HB, HI, HO, hne, hgi, hgo, HQ, hll, HY⟩ := hrel
    have hltr := HR.out.size_lt
    have hft := HR.out.fits
    by_cases hlt : k < len1
    · obtain ⟨b1, o1, e1, hb1, hrow⟩ := rows_lie X1.out (by omega)
      subst e1
      obtain ⟨a, l, c, zs, hcell, hrw⟩ := hrow k hlt
      have hcr : wr.cell? ⟨b1, o1 + k, none⟩ = some (.slice a l c) := (HB.out.cell (p := ⟨b1, o1 + k, none⟩) hb1).trans hcell
      have HW := hide hrw
      have hsrc : Src wr a l c (zs.take l) := (row_src hrw).keep fun b o e h0 => HB.out.block b (row_old hrw h0 b o e)
      have HSR := hide hsrc
      have hlc := hsrc.hcap
      clear hrow hrw hsrc
      go_wp2_with fail
      refine (put_ring (g + 1) g n ic oc q a l c (zs.take l) wr HR.out HSR.out (fun b o e h0 => by have := row_old HW.out h0 b o e; omega)).mono ?_
      rintro e v2 ⟨rfl, hr, hk2⟩
      obtain ⟨m, hm⟩ : ∃ m, m = min l (n - q.length) := ⟨_, rfl⟩
      rw [← hm] at hr ⊢
      have hml : m ≤ l := by omega
      have hmn : m ≤ n := by omega
      clear hm
      have HR3 := hide hr
      have HB3 : Hid (Below w.heap.size w v2) := HB.out.trans (hk2.below (by omega) (by omega) HB.out.size)
      have hcr3 : v2.cell? ⟨b1, o1 + k, none⟩ = some (.slice a l c) := (HB3.out.cell (p := ⟨b1, o1 + k, none⟩) hb1).trans hcell
      have HS3 : Hid (Src v2 a m c ((zs.take l).take m)) := ((row_src HW.out).keep fun b o e h0 => HB3.out.block b (row_old HW.out h0 b o e)).take hml
      have HI3 : Hid (OwnAt v2 hi u9 li) := HI.out.keep (hk2.block _ HI.out.lt (by omega) (by omega))
      have HO3 : Hid (OwnAt v2 ho u10 lo) := HO.out.keep (hk2.block _ HO.out.lt (by omega) (by omega))
      have hkz := hk2.size
      clear hr hk2 HR HI HO HSR
      obtain ⟨vi, v3, hi', hrun, hoi, hwh, hk3⟩ := run_app_at 30 HI3.out HS3.out (by omega)
      have hi3 := HI3.out.lt
      have ho3 := HO3.out.lt
      have hlr3 := HR3.out.size_lt
      have hrun1 := hide hrun
      have HR4 : Hid (IsRing v3 (g + 1) g n ((ic + (m : Nat)) % 4294967296) oc (q ++ (zs.take l).take m)) := HR3.out.keep (hk3.block _ hlr3.1 (by omega) (by omega)) (hk3.block _ hlr3.2 (by omega) (by omega))
      have HB4 : Hid (Below w.heap.size w v3) := HB3.out.trans (hk3.below (by omega) (by omega) HB3.out.size)
      have HI4 := hide hoi
      have HO4 : Hid (OwnAt v3 ho u10 lo) := HO3.out.keep (hk3.block _ ho3 (by omega) (by omega))
      have hne' : hi' ≠ ho := by omega
      have hgi' : g + 1 < hi' := by omega
      have HQ4 : Hid (li ++ (zs.take l).take m = lo ++ (q ++ (zs.take l).take m)) := by
        show _ = _
        rw [HQ.out, List.append_assoc]
      have hll4 : (li ++ (zs.take l).take m).length ≤ 4096 * (k + 1) := by
        rw [List.length_append, HS3.out.hlen]
        omega
      have HY4 : Hid (∀ x ∈ li ++ (zs.take l).take m, 0 ≤ x ∧ x < 256) := by
        intro x hx
        rcases List.mem_append.1 hx with h | h
        · exact HY.out x h
        · exact HS3.out.byte x h
      have hb0 : (0 : Int) ≤ (m : Int) := by omega
      have hbc : (m : Int) ≤ (c : Int) := by omega
      clear hrun hk3 hoi hwh HI3 HO3 HR3 HQ HY HS3
      generalize li ++ (zs.take l).take m = li4 at *
      generalize q ++ (zs.take l).take m = q4 at *
      generalize (ic + (m : Int)) % 4294967296 = ic4 at *
      by_cases hl2 : k < len2
      · obtain ⟨b2, o2, e2, hb2, hc2⟩ := row_lies X2.out (by omega)
        subst e2
        obtain ⟨x, hx⟩ : ∃ x, v3.cell? ⟨b2, o2 + k, none⟩ = some (.int .i64 x) := ⟨_, (HB4.out.cell (p := ⟨b2, o2 + k, none⟩) hb2).trans (hc2 k hl2)⟩
        clear hc2
        go_wp2_with (at_builtin; refine wpList_app_run _ rfl _ _ _ _ rfl _ _ rfl rfl hrun1.out ?_)
        refine (take_ring (g + 1) g n ic4 oc x q4 v3 HR4.out).mono ?_
        rintro e v4 ⟨rfl, hg4, hr4, hk4⟩
        obtain ⟨t, ht⟩ : ∃ t, t = min x.toNat q4.length := ⟨_, rfl⟩
        rw [← ht] at hg4 hr4 ⊢
        have htq : t ≤ q4.length := by omega
        have hf4 := HR4.out.fits
        have HR5 := hide hr4
        have HB5 : Hid (Below w.heap.size w v4) := HB4.out.trans (hk4.below (by omega) (by omega) HB4.out.size)
        have HI5 : Hid (OwnAt v4 hi' vi li4) := HI4.out.keep (hk4.block _ HI4.out.lt (by omega) (by omega))
        have HO5 : Hid (OwnAt v4 ho u10 lo) := HO4.out.keep (hk4.block _ HO4.out.lt (by omega) (by omega))
        have HG5 : Hid (Src v4 (some ⟨v3.heap.size, 0, none⟩) t t (q4.take t)) := src_block hg4 (by rw [List.length_take]; omega) (by omega) (fun y hy => HR4.out.bytes y (List.mem_of_mem_take hy))
        have hlo : lo.length ≤ li4.length := by rw [HQ4.out, List.length_append]; omega
        clear ht hg4 hr4 hk4 HI4 HO4 hrun1
        obtain ⟨vo, v5, ho', hrun, hoo, hwh, hk5⟩ := run_app_at 30 HO5.out HG5.out (by omega)
        have hi5 := HI5.out.lt
        have ho5 := HO5.out.lt
        have hlr5 := HR5.out.size_lt
        have hrun2 := hide hrun
        have HR6 := hide (HR5.out.keep (hk5.block _ hlr5.1 (by omega) (by omega)) (hk5.block _ hlr5.2 (by omega) (by omega)))
        have HB6 : Hid (Below w.heap.size w v5) := HB5.out.trans (hk5.below (by omega) (by omega) HB5.out.size)
        have HI6 : Hid (OwnAt v5 hi' vi li4) := HI5.out.keep (hk5.block _ hi5 (by omega) (by omega))
        have HO6 := hide hoo
        have hne6 : hi' ≠ ho' := by omega
        have hgo6 : g + 1 < ho' := by omega
        have HQ6 : Hid (li4 = (lo ++ q4.take t) ++ q4.drop t) := by
          show _ = _
          rw [List.append_assoc, List.take_append_drop, HQ4.out]
        clear hrun hoo hwh hk5
        go_wp2_with (at_builtin; refine wpList_app_run _ rfl _ _ _ _ rfl _ _ rfl rfl hrun2.out ?_)
        go_roundw
        case rel => exact ⟨k + 1, _, _, _, _, _, hi', ho', by omega, by go_num, HR6, HB6, HI6, HO6, hne6, hgi', hgo6, HQ6, hll4, HY4⟩
        case measure => simp [intOf]; omega
      · go_wp2_with (at_builtin; refine wpList_app_run _ rfl _ _ _ _ rfl _ _ rfl rfl hrun1.out ?_)
        go_roundw
        case rel => exact ⟨k + 1, _, _, _, _, _, hi', ho, by omega, by go_num, HR4, HB4, HI4, HO4, hne', hgi', hgo, HQ4, hll4, HY4⟩
        case measure => simp [intOf]; omega
    · have hlo : lo.length + q.length = li.length := by rw [HQ.out, List.length_append]
      have HYo : Hid (∀ x ∈ lo, 0 ≤ x ∧ x < 256) := fun x hx => HY.out x (by rw [HQ.out]; exact List.mem_append_left _ hx)
      obtain ⟨ci, e1, hsi⟩ := HI.out.src HY.out
      obtain ⟨co, e2, hso⟩ := HO.out.src HYo.out
      subst e1 e2
      have hil := HI.out.lt
      have hol := HO.out.lt
      have c1 : (convert 30 9 (.slice (some ⟨hi, 0, none⟩) li.length ci)).run Try.prog wr.drew = .ok (.string (strOfNums li)) wr.drew := run_str_src (hsi.drewN 1)
      have c2 : (convert 30 9 (.slice (some ⟨ho, 0, none⟩) lo.length co)).run Try.prog wr.drew = .ok (.string (strOfNums lo)) wr.drew := run_str_src (hso.drewN 1)
      have z1 := strOfNums_size lo
      have z2 := strOfNums_size q
      have hcat : strOfNums lo ++ strOfNums q = strOfNums li := by rw [str_append, HQ.out]
      have hll2 : lo.length + q.length ≤ 4294967296 := by omega
      have HSI := hide hsi
      have HSO := hide hso
      clear hsi hso hlo
      go_wp2_with fail
      go_region_with (go_at_call 17; refine (peek_all (g + 1) g n ic oc q _ ?_).mono ?_; exact HR.out.keep rfl rfl; rintro e v2 ⟨rfl, hf2⟩; have d1 := run_str_src (HSI.out.keep (w' := v2) fun b o e h0 => hf2.2.block b (by simp at e; simp; omega)); have d2 := run_str_src (HSO.out.keep (w' := v2) fun b o e h0 => hf2.2.block b (by simp at e; simp; omega)); have d3 : (convert 30 9 (.slice (some ⟨wr.heap.size, 0, none⟩) q.length q.length)).run Try.prog v2 = .ok (.string (strOfNums q)) v2 := run_str_src (src_block hf2.1 rfl (by omega) HR.out.bytes); have HF2 := hide hf2; clear hf2)
      all_goals
        go_wp2
        go_ret
        exact ⟨rfl, HB.out.drew.trans (HF2.out.2.mono HB.out.size)⟩

end Go.Proofs.Ytfijoienicjilaa
