/-
  The reference's Check and fits; conditions as each theorem has them.
-/
import Derived.Test.YtiejandeoopiiaaGreatDoorSA
set_option linter.unusedSimpArgs false
set_option linter.unusedVariables false
namespace Go.Proofs.YtiejandeoopiiaaGreatDoor
open Go.RowKit
set_option maxRecDepth 100000 in
set_option maxHeartbeats 2000000 in
theorem rCheck_at (a : Option Addr) (n c : Nat) (l : List Ru) (w : World) (h : SrcR w a n c l) : Calls Tryz.prog 8 #[.slice a n c] w fun e w' => e = .returned (.int .i64 (chkL l : Nat)) ∧ Below w.heap.size w w' := by
  have H := hide h
  have hc := h.hcap
  have hm := h.hmax
  unfold maxLen at hm
  clear h
  by_cases h64 : 64 < n
  · have HX : Hid (chkL l = 3) := by show _ = _; rw [chkL, H.out.hlen, if_pos h64]
    go_enter Tryz.func8, Tryz.ntmps8
    go_wp2_with fail
    go_ret
    rw [HX.out]
    exact ⟨rfl, Below.refl _ _⟩
  have hn : n ≤ 64 := by omega
  go_enter Tryz.func8, Tryz.ntmps8
  go_wp2_with fail
  go_loopw [3] (fun i wr => ∃ k : Nat, k ≤ n ∧ i = .int .i64 k ∧ Hid (Below w.heap.size w wr ∧ (l.take k).all Ru.right = true)) (fun i _ => n - (intOf i).toNat)
  case atStart => exact ⟨0, by omega, rfl, Below.refl _ _, by simp⟩
  case round =>
    obtain ⟨k, hk, rfl, HJ⟩ := hrel
    by_cases hkn : k < n
    · have hd : decide ((k : Int) < (n : Int)) = true := decide_eq_true (by omega)
      have hd' : decide (k < n) = true := decide_eq_true hkn
      have s1 := H.out.keep (w' := wr) (fun h0 b o e => HJ.out.1.block b (H.out.lt h0 e)) HJ.out.1.size
      obtain ⟨xb, xo, rfl, hxb, hrg⟩ := s1.at_ hkn
      have hok := okRs_getD s1.ok k
      have HRG := hide hrg
      obtain ⟨r, hr⟩ : ∃ r, r = l.getD k noRu := ⟨_, rfl⟩
      rw [← hr] at HRG hok
      have HOK := hide hok
      have HRE := hide hr
      clear hr hok s1 hrg
      go_wp2_with (first | (refine wpList_load_mid rfl 37 _ rfl xb (xo + k * 9) rfl (ruC r) _ HRG.out Tryz.underlying37 rfl infoRu ?_))
      refine (rrule_at r wr HOK.out).mono ?_
      rintro e w3 ⟨rfl, hb3⟩
      have HB3 := hide (HJ.out.1.trans (hb3.mono HJ.out.1.size))
      obtain ⟨R, hR⟩ : ∃ R, R = r.right := ⟨_, rfl⟩
      rw [← hR]
      have HR := hide hR
      clear hb3 hR
      cases R
      · have HX : Hid (chkL l = 120) := by
          show _ = _
          have : ¬ l.all Ru.right = true := fun h => by
            have := List.all_eq_true.1 h r (by rw [HRE.out]; exact getD_mem (by rw [H.out.hlen]; exact hkn))
            rw [← HR.out] at this
            cases this
          rw [chkL, if_neg (by rw [H.out.hlen]; omega), if_neg this]
        go_wp2_with fail
        go_ret
        rw [HX.out]
        exact ⟨rfl, HB3.out⟩
      · have HX : Hid ((l.take (k + 1)).all Ru.right = true) := by
          show _ = _
          rw [take_getD (d := noRu) (by rw [H.out.hlen]; exact hkn), List.all_append, HJ.out.2, ← HRE.out]
          simp [← HR.out]
        go_wp2_with fail
        go_roundw
        case rel => exact ⟨k + 1, by omega, by go_num, HB3.out, HX.out⟩
        case measure => simp [intOf]; omega
    · have hd : decide ((k : Int) < (n : Int)) = false := decide_eq_false (by omega)
      have hd' : decide (k < n) = false := decide_eq_false hkn
      have HX : Hid (chkL l = 0) := by
        show _ = _
        have := HJ.out.2
        rw [List.take_of_length_le (by rw [H.out.hlen]; omega)] at this
        rw [chkL, if_neg (by rw [H.out.hlen]; omega), if_pos this]
      go_wp2_with fail
      go_ret
      rw [HX.out]
      exact ⟨rfl, HJ.out.1⟩
set_option maxRecDepth 100000 in
set_option maxHeartbeats 2000000 in
theorem rfits_at (r : Ru) (a : Ad) (n : ByteArray) (p : Int) (w : World) (hr : r.ok) (hg : r.right = true) (ha : a.ok) (hn : n.size ≤ maxLen) : Calls Tryz.prog 27 #[.agg (ruC r).toArray, deV a n p] w fun e w' => e = .returned (.bool (fit a (byt n) p r)) ∧ Below w.heap.size w w' := by
  have hsf : r.suf.size ≤ 140737488355328 := by
    obtain ⟨_, _, _, h | h⟩ := right_parts hg
    · have : r.suf.size = 0 := (byt_nil r.suf).1 h.1
      omega
    · have := (name_ok h.2.2.2).1
      rw [byt_length] at this
      omega
  obtain ⟨R, hR⟩ : ∃ R, R = fit a (byt n) p r := ⟨_, rfl⟩
  rw [← hR]
  unfold fit at hR
  have HR := hide hR
  obtain ⟨al, ⟨a0, a1, a2, a3⟩, bt, sf, lw, hg'⟩ := r
  obtain ⟨b0, b1, b2, b3⟩ := a
  have HIN := hide (fun W => rin_at (b0, b1, b2, b3) (a0, a1, a2, a3) bt W ha hr.net)
  have HUN := hide (fun W => runder_at n sf W hn hsf)
  obtain ⟨I, hI⟩ : ∃ I, I = inB (b0, b1, b2, b3) (a0, a1, a2, a3) bt := ⟨_, rfl⟩
  obtain ⟨U, hU⟩ : ∃ U, U = under (byt n) (byt sf) := ⟨_, rfl⟩
  rw [← hI] at HIN
  rw [← hU] at HUN
  simp only at HR
  rw [← hI, ← hU] at HR
  have HU0 : Hid (byt n = [] → byt sf ≠ [] → U = false) := fun h1 h2 => by
    rw [hU, h1]
    cases e : byt sf with
    | nil => exact absurd e h2
    | cons x t => simp [under]
  simp only [ruC, deV, adV] at HIN ⊢
  obtain ⟨w0, hw0⟩ : ∃ w0, w0 = (w.alloc (.cells #[.bool al, .int .u8 (a0 : Nat), .int .u8 (a1 : Nat), .int .u8 (a2 : Nat), .int .u8 (a3 : Nat), .int .i64 bt, .string sf, .int .i64 lw, .int .i64 hg'] 37)).alloc (.cells #[.int .u8 (b0 : Nat), .int .u8 (b1 : Nat), .int .u8 (b2 : Nat), .int .u8 (b3 : Nat), .string n, .int .i64 p] 28) := ⟨_, rfl⟩
  have B0 : Hid (Below w.heap.size w w0) := by rw [hw0]; exact ((Below.refl _ _).alloc (Nat.le_refl _) _).alloc (by simp) _
  have HW0 : Hid ((w.alloc (.cells #[.bool al, .int .u8 (a0 : Nat), .int .u8 (a1 : Nat), .int .u8 (a2 : Nat), .int .u8 (a3 : Nat), .int .i64 bt, .string sf, .int .i64 lw, .int .i64 hg'] 37)).alloc (.cells #[.int .u8 (b0 : Nat), .int .u8 (b1 : Nat), .int .u8 (b2 : Nat), .int .u8 (b3 : Nat), .string n, .int .i64 p] 28) = w0) := hw0.symm
  clear hw0 hR hI hU hr hg hsf
  by_cases h1 : p < lw
  · have HX : Hid (R = false) := by show _ = _; rw [HR.out, decide_eq_false (by omega : ¬ lw ≤ p)]; rfl
    go_enter Tryz.func27, Tryz.ntmps27
    go_wp2_with fail
    go_ret
    rw [HX.out, HW0.out]
    exact ⟨rfl, B0.out⟩
  by_cases h2 : hg' < p
  · have HX : Hid (R = false) := by show _ = _; rw [HR.out, decide_eq_false (by omega : ¬ p ≤ hg')]; simp
    go_enter Tryz.func27, Tryz.ntmps27
    go_wp2_with fail
    go_ret
    rw [HX.out, HW0.out]
    exact ⟨rfl, B0.out⟩
  have HR2 : Hid (R = (if byt sf = [] then decide (byt n = []) && I else U)) := by
    show _ = _
    rw [HR.out, decide_eq_true (by omega : lw ≤ p), decide_eq_true (by omega : p ≤ hg')]
    rfl
  clear HR
  by_cases hs : byt sf = []
  · have hse : sf.toList.isEmpty = true := by rw [isEmpty_byt]; exact decide_eq_true hs
    rw [if_pos hs] at HR2
    by_cases hnn : byt n = []
    · have hne : n.toList.isEmpty = true := by rw [isEmpty_byt]; exact decide_eq_true hnn
      have HX : Hid (R = I) := by show _ = _; rw [HR2.out, decide_eq_true hnn]; rfl
      clear hs hnn HU0
      go_enter Tryz.func27, Tryz.ntmps27
      go_wp2_with fail
      rw [HW0.out]
      refine (HIN.out _).mono ?_
      rintro e w1 ⟨rfl, hb⟩
      go_wp2_with fail
      go_ret
      rw [HX.out]
      exact ⟨by first | rfl | simp, B0.out.trans (hb.mono B0.out.size)⟩
    · have hne : n.toList.isEmpty = false := by rw [isEmpty_byt]; exact decide_eq_false hnn
      have HX : Hid (R = false) := by show _ = _; rw [HR2.out, decide_eq_false hnn]; rfl
      clear hs hnn HU0
      go_enter Tryz.func27, Tryz.ntmps27
      go_wp2_with fail
      go_ret
      rw [HX.out, HW0.out]
      exact ⟨by first | rfl | simp, B0.out⟩
  · have hse : sf.toList.isEmpty = false := by rw [isEmpty_byt]; exact decide_eq_false hs
    rw [if_neg hs] at HR2
    by_cases hnn : byt n = []
    · have hne : n.toList.isEmpty = true := by rw [isEmpty_byt]; exact decide_eq_true hnn
      have HX : Hid (R = false) := by show _ = _; rw [HR2.out]; exact HU0.out hnn hs
      clear hs hnn HU0
      go_enter Tryz.func27, Tryz.ntmps27
      go_wp2_with fail
      go_ret
      rw [HX.out, HW0.out]
      exact ⟨by first | rfl | simp, B0.out⟩
    · have hne : n.toList.isEmpty = false := by rw [isEmpty_byt]; exact decide_eq_false hnn
      clear hs hnn HU0
      go_enter Tryz.func27, Tryz.ntmps27
      go_wp2_with fail
      rw [HW0.out]
      refine (HUN.out _).mono ?_
      rintro e w1 ⟨rfl, rfl⟩
      go_wp2_with fail
      go_ret
      rw [HR2.out]
      exact ⟨by first | rfl | simp, B0.out⟩

end Go.Proofs.YtiejandeoopiiaaGreatDoor
