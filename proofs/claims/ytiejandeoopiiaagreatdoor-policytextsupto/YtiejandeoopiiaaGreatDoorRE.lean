/-
  Which and May of package policy; conditions as each theorem has them.
-/
import Derived.Test.YtiejandeoopiiaaGreatDoorRD
set_option linter.unusedSimpArgs false
set_option linter.unusedVariables false
namespace Go.Proofs.YtiejandeoopiiaaGreatDoor
open Go.RowKit
set_option maxRecDepth 100000 in
set_option maxHeartbeats 2000000 in
theorem which_at (a : Option Addr) (n c : Nat) (l : List Ru) (d : Ad) (nm : ByteArray) (p : Int) (w : World) (h : SrcR w a n c l) (hd : d.ok) (hnm : nm.size ≤ maxLen) (hV : Vars w) : Calls Tryz.prog 9 #[.slice a n c, deV d nm p] w fun e w' => e = .returned (.int .i64 (which l d (byt nm) p)) ∧ Below w.heap.size w w' := by
  obtain ⟨R, hR⟩ : ∃ R, R = which l d (byt nm) p := ⟨_, rfl⟩
  rw [← hR]
  unfold which at hR
  have HR := hide hR
  have HCL := hide (fun W hs hv => pCheck_at a n c l W hs hv)
  have HCK := hide (fun W hv => check_at d nm W hnm hv)
  obtain ⟨P, hP⟩ : ∃ P, P = (decide (1 ≤ p) && decide (p ≤ 65535)) := ⟨_, rfl⟩
  have HPT := hide (fun W => pIsPort_at p W P hP)
  have HFF := hide (fun W hs hn => firstFit_at a n c l d nm p W hs hn hd hnm)
  obtain ⟨C, hC⟩ : ∃ C, C = chkL l := ⟨_, rfl⟩
  have HN : Hid (C = 0 → n ≤ 64) := by
    intro e
    rw [hC, chkL, h.hlen] at e
    by_cases h64 : 64 < n
    · rw [if_pos h64] at e; cases e
    · omega
  obtain ⟨K, hK⟩ : ∃ K, K = chk d (byt nm) := ⟨_, rfl⟩
  rw [← hC] at HCL HR
  rw [← hK] at HCK
  have HRK : Hid (R = if C = 0 ∧ (K && P) = true then first (fit d (byt nm) p) 0 l else -1) := by
    show _ = _
    rw [HR.out, hK, hP, okD, Bool.and_assoc]
  obtain ⟨X, hX⟩ : ∃ X, X = first (fit d (byt nm) p) 0 l := ⟨_, rfl⟩
  rw [← hX] at HRK HFF
  obtain ⟨d0, d1, d2, d3⟩ := d
  simp only [deV, hoV] at HCK HFF ⊢
  obtain ⟨w0, hw0⟩ : ∃ w0, w0 = w.alloc (.cells #[.int .u8 (d0 : Nat), .int .u8 (d1 : Nat), .int .u8 (d2 : Nat), .int .u8 (d3 : Nat), .string nm, .int .i64 p] 28) := ⟨_, rfl⟩
  have B0 : Hid (Below w.heap.size w w0) := by rw [hw0]; exact (Below.refl _ _).alloc (Nat.le_refl _) _
  have r0 : Hid (w0.heap[w.heap.size]? = some (.cells #[.int .u8 (d0 : Nat), .int .u8 (d1 : Nat), .int .u8 (d2 : Nat), .int .u8 (d3 : Nat), .string nm, .int .i64 p] 28)) := by rw [hw0]; exact alloc_new _ _
  have HW0 := hide hw0
  have H0 := hide (h.below B0.out)
  have HV0 := hide (hV.below B0.out)
  clear hw0 hX hK hC hP hR HR h hd hnm hV
  go_enter Tryz.func9, Tryz.ntmps9
  go_wp2_with fail
  rw [← HW0.out]
  refine (HCL.out _ H0.out HV0.out).mono ?_
  rintro e w1 ⟨rfl, hb1⟩
  have q1 := keepB hb1 r0.out
  have V1 := hide (HV0.out.below hb1)
  have S1 := hide (H0.out.below hb1)
  have B1 := hide (B0.out.trans (hb1.mono B0.out.size))
  have Q1 := hide q1
  have e0 : w1.cell? ⟨w.heap.size, 0, none⟩ = some (.int .u8 (d0 : Nat)) := by simp [World.cell?, q1]
  have e1 : w1.cell? ⟨w.heap.size, 1, none⟩ = some (.int .u8 (d1 : Nat)) := by simp [World.cell?, q1]
  have e2 : w1.cell? ⟨w.heap.size, 2, none⟩ = some (.int .u8 (d2 : Nat)) := by simp [World.cell?, q1]
  have e3 : w1.cell? ⟨w.heap.size, 3, none⟩ = some (.int .u8 (d3 : Nat)) := by simp [World.cell?, q1]
  have e4 : w1.cell? ⟨w.heap.size, 4, none⟩ = some (.string nm) := by simp [World.cell?, q1]
  clear hb1 q1 H0 HV0
  by_cases hc : C = 0
  · subst hc
    have hn := HN.out rfl
    go_wp2_with fail
    refine (HCK.out _ V1.out).mono ?_
    rintro e w2 ⟨rfl, hb2⟩
    have q2 := keepB hb2 Q1.out
    have S2 := hide (S1.out.below hb2)
    have B2 := hide (B1.out.trans (hb2.mono B1.out.size))
    clear e0 e1 e2 e3 e4
    have e0 : w2.cell? ⟨w.heap.size, 0, none⟩ = some (.int .u8 (d0 : Nat)) := by simp [World.cell?, q2]
    have e1 : w2.cell? ⟨w.heap.size, 1, none⟩ = some (.int .u8 (d1 : Nat)) := by simp [World.cell?, q2]
    have e2 : w2.cell? ⟨w.heap.size, 2, none⟩ = some (.int .u8 (d2 : Nat)) := by simp [World.cell?, q2]
    have e3 : w2.cell? ⟨w.heap.size, 3, none⟩ = some (.int .u8 (d3 : Nat)) := by simp [World.cell?, q2]
    have e4 : w2.cell? ⟨w.heap.size, 4, none⟩ = some (.string nm) := by simp [World.cell?, q2]
    have e5 : w2.cell? ⟨w.heap.size, 5, none⟩ = some (.int .i64 p) := by simp [World.cell?, q2]
    clear hb2 q2
    cases K
    · have HX : Hid (R = -1) := by show _ = _; rw [HRK.out]; simp
      go_wp2_with fail
      go_ret
      rw [HX.out]
      exact ⟨rfl, B2.out⟩
    · go_wp2_with fail
      refine (HPT.out _).mono ?_
      rintro e w3 ⟨rfl, rfl⟩
      cases P
      · have HX : Hid (R = -1) := by show _ = _; rw [HRK.out]; simp
        go_wp2_with fail
        go_ret
        rw [HX.out]
        exact ⟨rfl, B2.out⟩
      · have HX : Hid (R = X) := by show _ = _; rw [HRK.out]; simp
        go_wp2_with fail
        refine (HFF.out _ S2.out hn).mono ?_
        rintro e w4 ⟨rfl, hb4⟩
        go_wp2_with fail
        go_ret
        rw [HX.out]
        exact ⟨rfl, B2.out.trans (hb4.mono B2.out.size)⟩
  · have HX : Hid (R = -1) := by show _ = _; rw [HRK.out, if_neg (fun h => hc h.1)]
    have hq : ((C : Int) == 0) = false := by simp; omega
    have hq2 : ((C : Int) != 0) = true := by simp; omega
    clear hc
    go_wp2_with fail
    go_ret
    rw [HX.out]
    exact ⟨rfl, B1.out⟩
theorem which_bound (l : List Ru) (d : Ad) (n : List Nat) (p : Int) : which l d n p = -1 ∨ ∃ k : Nat, k < l.length ∧ which l d n p = (k : Int) := by
  unfold which
  split
  · rcases first_bound (fit d n p) l 0 with e | ⟨k, h1, h2, _⟩
    · exact Or.inl e
    · exact Or.inr ⟨k, h1, by rw [h2, Nat.zero_add]⟩
  · exact Or.inl rfl
set_option maxRecDepth 100000 in
set_option maxHeartbeats 2000000 in
theorem may_at (a : Option Addr) (n c : Nat) (l : List Ru) (d : Ad) (nm : ByteArray) (p : Int) (w : World) (h : SrcR w a n c l) (hd : d.ok) (hnm : nm.size ≤ maxLen) (hV : Vars w) : Calls Tryz.prog 11 #[.slice a n c, deV d nm p] w fun e w' => e = .returned (.bool (may l d (byt nm) p)) ∧ Below w.heap.size w w' := by
  obtain ⟨R, hR⟩ : ∃ R, R = may l d (byt nm) p := ⟨_, rfl⟩
  rw [← hR]
  unfold may at hR
  have hb := which_bound l d (byt nm) p
  have HWH := hide (fun W hs hv => which_at a n c l d nm p W hs hd hnm hv)
  obtain ⟨X, hX⟩ : ∃ X, X = which l d (byt nm) p := ⟨_, rfl⟩
  rw [← hX] at HWH hR hb
  obtain ⟨d0, d1, d2, d3⟩ := d
  have HR := hide hR
  simp only [deV] at HWH ⊢
  obtain ⟨w0, hw0⟩ : ∃ w0, w0 = w.alloc (.cells #[.int .u8 (d0 : Nat), .int .u8 (d1 : Nat), .int .u8 (d2 : Nat), .int .u8 (d3 : Nat), .string nm, .int .i64 p] 28) := ⟨_, rfl⟩
  have B0 : Hid (Below w.heap.size w w0) := by rw [hw0]; exact (Below.refl _ _).alloc (Nat.le_refl _) _
  have HW0 := hide hw0
  have H0 := hide (h.below B0.out)
  have HV0 := hide (hV.below B0.out)
  have HL := hide h.hlen
  have hc := h.hcap
  have hm := h.hmax
  unfold maxLen at hm
  have e0 : w0.cell? ⟨w.heap.size, 0, none⟩ = some (.int .u8 (d0 : Nat)) := by rw [hw0]; simp
  clear hw0 hX hR h hd hnm hV e0
  go_enter Tryz.func11, Tryz.ntmps11
  go_wp2_with fail
  rw [← HW0.out]
  refine (HWH.out _ H0.out HV0.out).mono ?_
  rintro e w1 ⟨rfl, hb1⟩
  have B1 := hide (B0.out.trans (hb1.mono B0.out.size))
  have S1 := hide (H0.out.below hb1)
  clear hb1
  rcases hb with rfl | ⟨k, hk, rfl⟩
  · have HX : Hid (R = false) := by show _ = _; rw [HR.out]; rfl
    go_wp2_with fail
    go_ret
    rw [HX.out]
    exact ⟨rfl, B1.out⟩
  · have hkn : k < n := by rw [← HL.out]; exact hk
    obtain ⟨xb, xo, rfl, hxb, hrg⟩ := S1.out.at_ hkn
    have c0 := hrg 0 (.bool (l.getD k noRu).al) rfl
    have HX : Hid (R = (l.getD k noRu).al) := by
      show _ = _
      rw [HR.out, if_neg (by omega), show ((k : Int)).toNat = k by omega]
    obtain ⟨A, hA⟩ : ∃ A, A = (l.getD k noRu).al := ⟨_, rfl⟩
    rw [← hA] at c0 HX
    rw [Nat.add_zero] at c0
    have hq : ((k : Int) != -1) = true := by simp
    have hq1 : ((k : Int) == -1) = false := by simp
    clear hA hrg hk
    go_wp2_with fail
    go_ret
    rw [HX.out]
    exact ⟨by first | rfl | simp, B1.out⟩

end Go.Proofs.YtiejandeoopiiaaGreatDoor
