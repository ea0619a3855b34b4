/-
  PolicyPuts' walk; conditions as its theorem has them.
-/
import Derived.Test.YtiejandeoopiiaaGreatDoorSP
import Derived.Test.YtiejandeoopiiaaGreatDoorWK
set_option linter.unusedSimpArgs false
set_option linter.unusedVariables false
namespace Go.Proofs.YtiejandeoopiiaaGreatDoor
open Go.RowKit
theorem putL_okz {l rs : List Ru} (h : okRs l) (h2 : okRs rs) (t : Int) : okRs (putL l t rs) := by
  intro r hr
  unfold putL at hr
  split at hr
  · rcases List.mem_append.1 hr with hr | hr
    · exact h r (List.mem_of_mem_take hr)
    · rcases List.mem_append.1 hr with hr | hr
      · exact h2 r hr
      · exact h r (List.mem_of_mem_drop hr)
  · cases hr
theorem own_room {w : World} {B : Nat} {a : Option Addr} {n c : Nat} {l : List Ru} (h : OwnR w B (.slice a n c) l) (h0 : 0 < n) : ∃ g cur, a = some ⟨g, 0, none⟩ ∧ B ≤ g ∧ w.heap[g]? = some (.cells cur 37) ∧ n * 9 ≤ cur.size := by
  rcases h.2 with ⟨e, _⟩ | ⟨g, cap, cur, e, hx, hh, hc, hm, hs, ht⟩
  · injection e with _ e2 _
    omega
  · injection e with e1 e2 e3
    exact ⟨g, cur, e1, hx, hh, by rw [hs]; omega⟩
set_option maxRecDepth 100000 in
set_option maxHeartbeats 4000000 in
theorem puts_walk (a : Option Addr) (n c : Nat) (l : List Ru) (at_ : Int) (a2 : Option Addr) (n2 c2 : Nat) (l2 : List Ru) (w : World) (hT : Tabs w) (h : SrcR w a n c l) (hz : n * 48 ≤ 140737488351232) (hwf : (Lit.int .i64 at_).wf = true) (h2 : SrcR w a2 n2 c2 l2) (hz2 : n2 * 48 ≤ 140737488351232) : Calls Tryz.prog 5 #[.slice a n c, .int .i64 at_, .slice a2 n2 c2] w fun e w' => e = .returned (.bool true) ∧ Below w.heap.size w w' := by
  have HSRC := hide h
  have HSR2 := hide h2
  have HTAB := hide hT
  have HLEN := hide h.hlen
  have HLEN2 := hide h2.hlen
  have HZ := hide hz
  have HZ2 := hide hz2
  clear hT h h2 hz hz2 hwf
  go_enter Tryz.func5, Tryz.ntmps5
  go_wp2_with fail
  refine (rules_at a n c l w HSRC.out HZ.out).mono ?_
  rintro e w1 ⟨v1, rfl, hown, hb⟩
  have B1 := hide hb
  obtain ⟨ao, co, rfl, so, ho0⟩ := hown.src HSRC.out.ok
  rw [HLEN.out] at so ⊢
  have O1 := hide so
  clear hown hb so ho0
  go_wp2_with fail
  refine (rules_at a2 n2 c2 l2 w1 (HSR2.out.below B1.out) HZ2.out).mono ?_
  rintro e w2 ⟨v2, rfl, hown, hb⟩
  have B2 := hide (B1.out.trans (hb.mono B1.out.size))
  have O2 := hide (O1.out.below hb)
  obtain ⟨am, cm, rfl, sm, hm0⟩ := hown.src HSR2.out.ok
  rw [HLEN2.out] at sm ⊢
  have M2 := hide sm
  clear hown hb sm hm0
  go_wp2_with fail
  refine (put_at ao n co l at_ am n2 cm l2 w2 O2.out M2.out (HTAB.out.below B2.out).v).mono ?_
  rintro e w3 ⟨v3, rfl, hown, hb⟩
  have K3 := hide hb
  have HOWN3 := hide hown
  obtain ⟨aa, ca, rfl, sa, ha0⟩ := hown.src (putL_okz HSRC.out.ok HSR2.out.ok at_)
  have A3 := hide sa
  have B3 := hide (B2.out.trans (hb.mono B2.out.size))
  clear hown hb sa ha0
  obtain ⟨E, hE⟩ : ∃ E, E = putE l at_ l2 := ⟨_, rfl⟩
  obtain ⟨L, hL⟩ : ∃ L, L = putL l at_ l2 := ⟨_, rfl⟩
  obtain ⟨na, hna⟩ : ∃ na, na = L.length := ⟨_, rfl⟩
  have RP := hide (fun W hs hs2 => rput_at a n c l at_ a2 n2 c2 l2 W hs hs2 HZ.out HZ2.out)
  rw [← hE, ← hL] at RP
  rw [← hL, ← hna] at A3 HOWN3
  rw [← hE, ← hL, ← hna]
  have HNA := hide hna
  have HOKL : Hid (okRs L) := by rw [hL]; exact putL_okz HSRC.out.ok HSR2.out.ok at_
  clear hE hL hna
  go_wp2_with fail
  refine (RP.out w3 (HSRC.out.below B3.out) (HSR2.out.below B3.out)).mono ?_
  rintro e w4 ⟨v4, rfl, hown, hb⟩
  have K4 := hide (K3.out.trans (hb.mono K3.out.size))
  have B4 := hide (B3.out.trans (hb.mono B3.out.size))
  have A4 := hide (A3.out.below hb)
  have HRM : Hid (0 < na → ∃ g cur, aa = some ⟨g, 0, none⟩ ∧ w2.heap.size ≤ g ∧ w4.heap[g]? = some (.cells cur 37) ∧ na * 9 ≤ cur.size) := fun h0 => by
    obtain ⟨g, cur, e1, e2, e3, e4⟩ := own_room HOWN3.out h0
    exact ⟨g, cur, e1, e2, keepB hb e3, e4⟩
  obtain ⟨ab, cb, rfl, sb, hb0⟩ := hown.src HOKL.out
  rw [← HNA.out] at sb ⊢
  have S4 := hide sb
  clear hown hb sb hb0
  go_wp2_with fail
  refine (same_rules w4 aa ab na ca na cb L A4.out S4.out).mono ?_
  rintro e w5 ⟨rfl, hb⟩
  have K5 := hide (K4.out.trans (hb.mono K4.out.size))
  have HRM5 : Hid (0 < na → ∃ g cur, aa = some ⟨g, 0, none⟩ ∧ w2.heap.size ≤ g ∧ w5.heap[g]? = some (.cells cur 37) ∧ na * 9 ≤ cur.size) := fun h0 => by
    obtain ⟨g, cur, e1, e2, e3, e4⟩ := HRM.out h0
    exact ⟨g, cur, e1, e2, keepB hb e3, e4⟩
  have hca := A4.out.hcap
  have hma := A4.out.hmax
  unfold maxLen at hma
  clear hb
  go_wp2_with fail
  go_loopw [13] (fun i wr => ∃ k : Nat, k ≤ na ∧ i = .int .i64 k ∧ Hid (Below w2.heap.size w2 wr ∧ (0 < na → ∃ g cur, aa = some ⟨g, 0, none⟩ ∧ w2.heap.size ≤ g ∧ wr.heap[g]? = some (.cells cur 37) ∧ na * 9 ≤ cur.size))) (fun i _ => na - (intOf i).toNat)
  case atStart => exact ⟨0, by omega, rfl, K5.out, HRM5.out⟩
  case round =>
    obtain ⟨k, hk, rfl, HJ⟩ := hrel
    by_cases hkn : k < na
    · have hd : decide ((k : Int) < (na : Int)) = true := decide_eq_true (by omega)
      have hd' : decide (k < na) = true := decide_eq_true hkn
      obtain ⟨g, cur, rfl, hg1, hg2, hg3⟩ := HJ.out.2 (by omega)
      have hj : k * 9 + 7 < cur.size := by omega
      have c0 : wr.cell? ⟨g, k * 9 + 7, none⟩ = some cur[k * 9 + 7] := by simp [World.cell?, hg2, hj]
      have f0 : wr.frozen? ⟨g, k * 9 + 7, none⟩ = false := frozen_row hg2 _
      generalize cur[k * 9 + 7] = old at c0
      have K6 : Hid (Below w2.heap.size w2 (wr.setCell ⟨g, k * 9 + 7, none⟩ (.int .i64 (-7)))) := HJ.out.1.setCell (p := ⟨g, k * 9 + 7, none⟩) hg1 _
      have HG6 : Hid (0 < na → ∃ g' cur', (some ⟨g, 0, none⟩ : Option Addr) = some ⟨g', 0, none⟩ ∧ w2.heap.size ≤ g' ∧ (wr.setCell ⟨g, k * 9 + 7, none⟩ (.int .i64 (-7))).heap[g']? = some (.cells cur' 37) ∧ na * 9 ≤ cur'.size) := fun _ => ⟨g, _, rfl, hg1, heap_setCell_same hg2 _ _, by rw [Array.size_setIfInBounds]; exact hg3⟩
      clear hg1 hg2 hg3 hj
      go_wp2_with fail
      go_roundw
      case rel => exact ⟨k + 1, by omega, by go_num, K6.out, HG6.out⟩
      case measure => simp [intOf]; omega
    · have hd : decide ((k : Int) < (na : Int)) = false := decide_eq_false (by omega)
      have hd' : decide (k < na) = false := decide_eq_false hkn
      have B6 := hide (B2.out.trans (HJ.out.1.mono B2.out.size))
      have O6 := hide (O2.out.below HJ.out.1)
      have M6 := hide (M2.out.below HJ.out.1)
      go_wp2_with fail
      refine (same_rules wr ao a n co n c l O6.out (HSRC.out.below B6.out)).mono ?_
      rintro e w7 ⟨rfl, hb⟩
      have B7 := hide (B6.out.trans (hb.mono B6.out.size))
      have M7 := hide (M6.out.below hb)
      clear hb
      go_wp2_with fail
      refine (same_rules w7 am a2 n2 cm n2 c2 l2 M7.out (HSR2.out.below B7.out)).mono ?_
      rintro e w8 ⟨rfl, hb⟩
      have B8 := hide (B7.out.trans (hb.mono B7.out.size))
      clear hb
      go_wp2_with fail
      refine (works_at w8 (HTAB.out.below B8.out)).mono ?_
      rintro e w9 ⟨rfl, hb⟩
      have B9 := hide (B8.out.trans (hb.mono B8.out.size))
      clear hb
      go_wp2_with fail
      go_ret
      exact ⟨rfl, B9.out⟩
end Go.Proofs.YtiejandeoopiiaaGreatDoor
