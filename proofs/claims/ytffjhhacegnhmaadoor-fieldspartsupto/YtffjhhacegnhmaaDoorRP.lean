/-
  FieldsParts' walk; conditions as each theorem has them.
-/
import Derived.Test.YtffjhhacegnhmaaDoorRC
set_option linter.unusedSimpArgs false
set_option linter.unusedVariables false
namespace Go.Proofs.YtffjhhacegnhmaaDoor
open Go.RowKit

theorem okB_somE {fs : List Fd} (want : Bool) (h : okB fs) : okB (somE fs want).1 := by
  unfold somE
  split
  · intro f hf; simp at hf
  · exact fun f hf => h f (List.mem_filter.1 hf).1
theorem somE_len {fs : List Fd} (want : Bool) : (somE fs want).1.length ≤ 64 := by
  unfold somE
  split
  · simp
  · have := List.length_filter_le (fun f : Fd => hopB fs f.1 == want) fs
    simp only
    omega
theorem somE_code (fs : List Fd) (want : Bool) : (somE fs want).2 ≤ 3 := by
  unfold somE; split <;> simp
set_option maxRecDepth 100000 in
set_option maxHeartbeats 8000000 in
theorem parts_walk (a : Option Addr) (n c : Nat) (fs : List Fd) (w : World) (hV : Vars w) (h : SrcF w a n c fs) (hsum : (fs.map fun f => f.1.length + f.2.length + 3).sum ≤ 1048576) :
    Calls Tryd.prog 3 #[.slice a n c] w fun e w' => e = .returned (.bool true) ∧ Below w.heap.size w w' := by
  obtain ⟨hfew, hfl⟩ := few_sum hsum
  rw [h.hlen] at hfl
  have H := hide h
  have HV := hide hV
  have HFEW := hide hfew
  have HCP := hide (copyF_at a n c fs w h (by omega))
  have HLN := hide h.hlen
  have HT := hide (okB_somE true h.byte)
  have HF := hide (okB_somE false h.byte)
  have HTL := hide (somE_len (fs := fs) true)
  have HFL := hide (somE_len (fs := fs) false)
  clear h hV hfew hsum
  go_enter Tryd.func3, Tryd.ntmps3
  go_wp2_with fail
  refine HCP.out.mono ?_
  rintro e w1 ⟨v1, rfl, o1, k1⟩
  obtain ⟨x1, c1, rfl, s1, _⟩ := o1.src H.out.byte
  rw [HLN.out] at s1 ⊢
  have S1 := hide s1
  have B1 := hide k1
  have HHO := hide (hops_at x1 n c1 fs w1 (HV.out.below k1) s1 HFEW.out)
  clear o1 k1 s1 HCP
  obtain ⟨pt, E1⟩ : ∃ p, p = somE fs true := ⟨_, rfl⟩
  obtain ⟨pf, E2⟩ : ∃ p, p = somE fs false := ⟨_, rfl⟩
  rw [← E1] at HHO HT HTL
  rw [← E2] at HF HFL
  obtain ⟨la, ea⟩ := pt
  obtain ⟨lb, eb⟩ := pf
  simp only at HHO HT HTL HF HFL
  have HE1 := hide E1
  have HE2 := hide E2
  clear E1 E2
  go_wp2_with fail
  refine HHO.out.mono ?_
  rintro e w2 ⟨v2, rfl, o2, k2⟩
  obtain ⟨x2, c2, rfl, s2, _⟩ := o2.src HT.out
  have B2 := hide (B1.out.trans (k2.mono B1.out.size))
  have S2 := hide s2
  have S12 := hide (S1.out.below k2)
  have HR1 := hide (rsome_at a n c fs true w2 (H.out.below B2.out) HFEW.out)
  rw [← HE1.out] at HR1
  simp only at HR1
  clear o2 k2 s2 HHO S1
  go_wp2_with fail
  refine HR1.out.mono ?_
  rintro e w3 ⟨v3, rfl, o3, k3⟩
  obtain ⟨x3, c3, rfl, s3, _⟩ := o3.src HT.out
  have B3 := hide (B2.out.trans (k3.mono B2.out.size))
  have S3 := hide s3
  have S13 := hide (S12.out.below k3)
  have S23 := hide (S2.out.below k3)
  have HKE := hide (keep_at x1 n c1 fs w3 (HV.out.below B3.out) S13.out HFEW.out)
  rw [← HE2.out] at HKE
  simp only at HKE
  clear o3 k3 s3 HR1 S12 S2
  go_wp2_with fail
  refine HKE.out.mono ?_
  rintro e w4 ⟨v4, rfl, o4, k4⟩
  have B4 := hide (B3.out.trans (k4.mono B3.out.size))
  have K4 := hide k4
  have O4 := hide o4
  have S24 := hide (S23.out.below k4)
  have S34 := hide (S3.out.below k4)
  have HR2 := hide (rsome_at a n c fs false w4 (H.out.below B4.out) HFEW.out)
  rw [← HE2.out] at HR2
  simp only at HR2
  clear o4 k4 HKE S23 S3
  go_wp2_with fail
  refine HR2.out.mono ?_
  rintro e w5 ⟨v5, rfl, o5, k5⟩
  obtain ⟨x5, c5, rfl, s5, _⟩ := o5.src HF.out
  have B5 := hide (B4.out.trans (k5.mono B4.out.size))
  have K5 := hide (K4.out.trans (k5.mono K4.out.size))
  have O45 := hide (O4.out.below k5)
  obtain ⟨x4, c4, rfl, s4, _⟩ := O4.out.src HF.out
  have S45 := hide (s4.below k5)
  have S5 := hide s5
  have HS1 := hide (same_fields w5 x2 x3 la.length c2 la.length c3 la (S24.out.below k5) (S34.out.below k5))
  clear o5 k5 s5 s4 HR2 S24 S34 O4
  obtain ⟨LA, hLA⟩ : ∃ L, L = la.length := ⟨_, rfl⟩
  obtain ⟨LB, hLB⟩ : ∃ L, L = lb.length := ⟨_, rfl⟩
  have HLB := hide hLB
  rw [← hLA] at HS1 ⊢
  rw [← hLB] at S45 S5 HFL ⊢
  clear hLA hLB
  have hfb := HFL.out
  go_wp2_with fail
  refine HS1.out.mono ?_
  rintro e w6 ⟨rfl, k6⟩
  have HS2 := hide (same_fields w6 x4 x5 LB c4 LB c5 lb (S45.out.below k6) (S5.out.below k6))
  have B6 := hide (B5.out.trans (k6.mono B5.out.size))
  have K6 := hide (K5.out.trans (k6.mono K5.out.size))
  have O46 := hide (O45.out.below k6)
  clear k6 HS1 S45 S5 O45
  go_wp2_with fail
  refine HS2.out.mono ?_
  rintro e w7 ⟨rfl, k7⟩
  have B7 := hide (B6.out.trans (k7.mono B6.out.size))
  have K7 := hide (K6.out.trans (k7.mono K6.out.size))
  have o7 := O46.out.below k7
  clear k7 HS2 O46
  have TAIL : Hid (∀ W, Below w3.heap.size w3 W → Calls Tryd.prog 12 #[.slice x1 n c1, .slice a n c] W fun e w' => e = .returned (.bool true) ∧ Below W.heap.size W w') := fun W hW => same_fields W x1 a n c1 n c fs (S13.out.below hW) ((H.out.below B3.out).below hW)
  have TW : Hid (∀ W, Below w3.heap.size w3 W → Calls Tryd.prog 13 #[] W fun e w' => e = .returned (.bool true) ∧ Below W.heap.size W w') := fun W hW => works_at W ((HV.out.below B3.out).below hW)
  have B3' := hide B3.out
  clear HT HF HTL HFL HE1 HE2 S13 B4 B5 B6 B7 HV HFEW H
  rcases o7.2 with ⟨hnil, h0⟩ | ⟨g, cap, cur, hv, hxg, hh, hcc, hmm, hss, _⟩
  · simp only [Value.slice.injEq] at hnil
    obtain ⟨rfl, hl0, rfl⟩ := hnil
    obtain rfl : LB = 0 := by rw [HLB.out]; exact hl0
    clear o7 h0 hl0 HLB
    go_wp2_with fail
    refine wp_loop_rounds 1 ?_
    rw [rounds_succ]
    go_wp2_with fail
    refine (TAIL.out _ K7.out).mono ?_
    rintro e w8 ⟨rfl, k8⟩
    have K8 := hide (K7.out.trans (k8.mono K7.out.size))
    clear k8
    go_wp2_with fail
    refine (TW.out _ K8.out).mono ?_
    rintro e w9 ⟨rfl, k9⟩
    have K9 := hide (K8.out.trans (k9.mono K8.out.size))
    clear k9
    go_wp2_with fail
    go_ret
    exact ⟨by first | rfl | simp, B3'.out.trans (K9.out.mono B3'.out.size)⟩
  · simp only [Value.slice.injEq] at hv
    obtain ⟨rfl, _, rfl⟩ := hv
    rw [← HLB.out] at hcc
    have HROW : Hid (∃ cur : Array Value, w7.heap[g]? = some (.cells cur 30) ∧ LB * 2 ≤ cur.size) := ⟨cur, hh, by rw [hss]; omega⟩
    unfold maxLen at hmm
    clear o7 hh hss
    go_wp2_with fail
    go_loopw [12] (fun vi wr => ∃ k : Nat, k ≤ LB ∧ vi = .int .i64 k ∧ Hid (Below w3.heap.size w3 wr ∧ ∃ cur : Array Value, wr.heap[g]? = some (.cells cur 30) ∧ LB * 2 ≤ cur.size)) (fun i _ => LB - (intOf i).toNat)
    case atStart => exact ⟨0, by omega, rfl, K7.out, HROW.out⟩
    case round =>
      obtain ⟨k, hk, rfl, HI⟩ := hrel
      obtain ⟨i1, cu, i2, i3⟩ := HI.out
      by_cases hkL : k < LB
      · have hd : decide ((k : Int) < (LB : Int)) = true := decide_eq_true (by omega)
        obtain ⟨y, hy⟩ : ∃ y, cu[k * 2]? = some y := ⟨_, Array.getElem?_eq_getElem (by omega)⟩
        have c0 : wr.cell? ⟨g, k * 2, none⟩ = some y := by simp only [World.cell?, i2]; simpa using hy
        have f0 : wr.frozen? ⟨g, k * 2, none⟩ = false := by simp [World.frozen?, i2]
        have HN := hide (heap_setCell_same i2 (k * 2) (.string ⟨#[115, 112, 111, 105, 108, 116]⟩))
        have I1 := hide i1
        have HSZ : Hid (LB * 2 ≤ (cu.setIfInBounds (k * 2) (.string ⟨#[115, 112, 111, 105, 108, 116]⟩)).size) := by show _ ≤ _; simpa using i3
        clear i1 i2 i3 hy HI
        go_wp2_with fail
        go_roundw
        case rel => exact ⟨k + 1, by omega, by go_num, I1.out.setCell (by exact hxg) _, _, HN.out, HSZ.out⟩
        case measure => simp [intOf]; omega
      · have hd : decide ((k : Int) < (LB : Int)) = false := decide_eq_false (by omega)
        have K8 := hide i1
        clear i1 i2 i3 HI
        go_wp2_with fail
        refine (TAIL.out _ K8.out).mono ?_
        rintro e w8 ⟨rfl, k8⟩
        have K9 := hide (K8.out.trans (k8.mono K8.out.size))
        clear k8
        go_wp2_with fail
        refine (TW.out _ K9.out).mono ?_
        rintro e w9 ⟨rfl, k9⟩
        have K10 := hide (K9.out.trans (k9.mono K9.out.size))
        clear k9
        go_wp2_with fail
        go_ret
        exact ⟨by first | rfl | simp, B3'.out.trans (K10.out.mono B3'.out.size)⟩
end Go.Proofs.YtffjhhacegnhmaaDoor
