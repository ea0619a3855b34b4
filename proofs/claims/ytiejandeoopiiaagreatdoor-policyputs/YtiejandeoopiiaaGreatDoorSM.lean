/-
  The reference's May, copies of rules, and how they are held side by side; conditions as each theorem has them.
-/
import Derived.Test.YtiejandeoopiiaaGreatDoorSW
set_option linter.unusedSimpArgs false
set_option linter.unusedVariables false
namespace Go.Proofs.YtiejandeoopiiaaGreatDoor
open Go.RowKit
set_option maxRecDepth 100000 in
set_option maxHeartbeats 2000000 in
theorem rMay_at (a : Option Addr) (n c : Nat) (l : List Ru) (d : Ad) (nm : ByteArray) (p : Int) (w : World) (h : SrcR w a n c l) (hd : d.ok) (hnm : nm.size ≤ maxLen) : Calls Tryz.prog 12 #[.slice a n c, deV d nm p] w fun e w' => e = .returned (.bool (may l d (byt nm) p)) ∧ Below w.heap.size w w' := by
  obtain ⟨R, hR⟩ : ∃ R, R = may l d (byt nm) p := ⟨_, rfl⟩
  rw [← hR]
  unfold may at hR
  have hb := which_bound l d (byt nm) p
  have HWH := hide (fun W hs => rWhich_at a n c l d nm p W hs hd hnm)
  obtain ⟨X, hX⟩ : ∃ X, X = which l d (byt nm) p := ⟨_, rfl⟩
  rw [← hX] at HWH hR hb
  obtain ⟨d0, d1, d2, d3⟩ := d
  have HR := hide hR
  simp only [deV] at HWH ⊢
  obtain ⟨w0, hw0⟩ : ∃ w0, w0 = w.alloc (.cells #[.int .u8 (d0 : Nat), .int .u8 (d1 : Nat), .int .u8 (d2 : Nat), .int .u8 (d3 : Nat), .string nm, .int .i64 p] 28) := ⟨_, rfl⟩
  have B0 : Hid (Below w.heap.size w w0) := by rw [hw0]; exact (Below.refl _ _).alloc (Nat.le_refl _) _
  have HW0 := hide hw0
  have H0 := hide (h.below B0.out)
  have HL := hide h.hlen
  have hc := h.hcap
  have hm := h.hmax
  unfold maxLen at hm
  have e0 : w0.cell? ⟨w.heap.size, 0, none⟩ = some (.int .u8 (d0 : Nat)) := by rw [hw0]; simp
  clear hw0 hX hR h hd hnm e0
  go_enter Tryz.func12, Tryz.ntmps12
  go_wp2_with fail
  rw [← HW0.out]
  refine (HWH.out _ H0.out).mono ?_
  rintro e w1 ⟨rfl, hb1⟩
  have B1 := hide (B0.out.trans (hb1.mono B0.out.size))
  have S1 := hide (H0.out.below hb1)
  clear hb1
  rcases hb with rfl | ⟨k, hk, rfl⟩
  · have HX : Hid (R = false) := by show _ = _; rw [HR.out]; rfl
    go_wp2_with fail
    go_ret
    rw [HX.out]
    exact ⟨rfl, B1.out⟩
  · have hkn : k < n := by rw [← HL.out]; exact hk
    obtain ⟨xb, xo, rfl, hxb, hrg⟩ := S1.out.at_ hkn
    have c0 := hrg 0 (.bool (l.getD k noRu).al) rfl
    have HX : Hid (R = (l.getD k noRu).al) := by
      show _ = _
      rw [HR.out, if_neg (by omega), show ((k : Int)).toNat = k by omega]
    obtain ⟨A, hA⟩ : ∃ A, A = (l.getD k noRu).al := ⟨_, rfl⟩
    rw [← hA] at c0 HX
    rw [Nat.add_zero] at c0
    have hq : ((k : Int) != -1) = true := by simp
    have hq1 : ((k : Int) == -1) = false := by simp
    have hq2 : decide (0 ≤ (k : Int)) = true := decide_eq_true (by omega)
    clear hA hrg hk
    go_wp2_with fail
    go_ret
    rw [HX.out]
    exact ⟨by first | rfl | simp, B1.out⟩

set_option maxRecDepth 100000 in
set_option maxHeartbeats 2000000 in
theorem rules_at (a : Option Addr) (n c : Nat) (l : List Ru) (w : World) (h : SrcR w a n c l) (hz : n * 48 ≤ 140737488351232) : Calls Tryz.prog 6 #[.slice a n c] w fun e w' => ∃ v, e = .returned v ∧ OwnR w' w.heap.size v l ∧ Below w.heap.size w w' := by
  have hb : Below w.heap.size w (w.alloc (.cells #[] 37)) := (Below.refl _ _).alloc (Nat.le_refl _) _
  obtain ⟨v', w', hrun, hown, hbel⟩ := run_appR (own_newR w) (h.below hb) (by simp; omega) (by simp)
  have HAP := hide hrun
  have HO : Hid (OwnR w' w.heap.size v' l) := by show OwnR _ _ _ _; simpa using hown
  have HB := hide (hb.trans hbel)
  clear hrun hown hbel hb
  go_enter Tryz.func6, Tryz.ntmps6
  go_wp2_with (refine wpList_app_run _ rfl _ _ 22 22 rfl _ _ rfl rfl HAP.out ?_)
  go_ret
  exact ⟨_, rfl, HO.out, HB.out⟩
theorem ru_neq (r : Ru) (w : World) : (binOp .neq 37 (.agg (ruC r).toArray) (.agg (ruC r).toArray)).run Tryz.prog w = .ok (.bool false) w := by
  obtain ⟨al, ⟨a0, a1, a2, a3⟩, bt, sf, lw, hg⟩ := r
  simp only [ruC]
  cases al
  · go_simp
  · go_simp
attribute [local go_sem ↓] run_opld Go.wp_at_zero Go.wp_at_succ
set_option maxRecDepth 100000 in
set_option maxHeartbeats 2000000 in
theorem same_rules (w : World) (a b : Option Addr) (n c m d : Nat) (l : List Ru) (h1 : SrcR w a n c l) (h2 : SrcR w b m d l) : Calls Tryz.prog 13 #[.slice a n c, .slice b m d] w fun e w' => e = .returned (.bool true) ∧ Below w.heap.size w w' := by
  obtain rfl : m = n := by rw [← h2.hlen, ← h1.hlen]
  have H1 := hide h1
  have H2 := hide h2
  have hc1 := h1.hcap
  have hm1 := h1.hmax
  have hc2 := h2.hcap
  have hm2 := h2.hmax
  unfold maxLen at hm1 hm2
  clear h1 h2
  go_enter Tryz.func13, Tryz.ntmps13
  go_wp2_with fail
  go_loopw [5] (fun i wr => ∃ k : Nat, k ≤ m ∧ i = .int .i64 k ∧ Hid (Below w.heap.size w wr)) (fun i _ => m - (intOf i).toNat)
  case atStart => exact ⟨0, by omega, rfl, Below.refl _ _⟩
  case round =>
    obtain ⟨k, hk, rfl, HJ⟩ := hrel
    by_cases hkm : k < m
    · have hd : decide ((k : Int) < (m : Int)) = true := decide_eq_true (by omega)
      obtain ⟨xb, xo, rfl, _, e1⟩ := (H1.out.below HJ.out).at_ hkm
      obtain ⟨yb, yo, rfl, _, f1⟩ := (H2.out.below HJ.out).at_ hkm
      obtain ⟨r, hr⟩ : ∃ r, r = l.getD k noRu := ⟨_, rfl⟩
      rw [← hr] at e1 f1
      obtain ⟨p1, p2, p3⟩ := ld_mid e1
      obtain ⟨q1, q2, q3⟩ := ld_mid ((World.rangeAt_drew _ _ _ _).2 e1)
      obtain ⟨s1, s2, s3⟩ := ld_mid f1
      obtain ⟨t1, t2, t3⟩ := ld_mid ((World.rangeAt_drew _ _ _ _).2 f1)
      have heq := fun w => ru_neq r w
      clear hr e1 f1
      go_wp2_with fail
      go_region
      all_goals go_wp2_with fail
      go_roundw
      case rel => exact ⟨k + 1, by omega, by go_num, HJ.out.drew⟩
      case measure => simp [intOf]; omega
    · have hd : decide ((k : Int) < (m : Int)) = false := decide_eq_false (by omega)
      go_wp2_with fail
      go_ret
      exact ⟨rfl, HJ.out⟩

end Go.Proofs.YtiejandeoopiiaaGreatDoor
