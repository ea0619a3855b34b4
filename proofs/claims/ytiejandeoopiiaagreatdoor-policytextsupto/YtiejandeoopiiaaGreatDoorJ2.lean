/-
  In of the reference; conditions as each theorem has them.
-/
import Derived.Test.YtiejandeoopiiaaGreatDoorJ
set_option linter.unusedSimpArgs false
set_option linter.unusedVariables false
namespace Go.Proofs.YtiejandeoopiiaaGreatDoor
open Go.RowKit

set_option maxRecDepth 100000 in
set_option maxHeartbeats 4000000 in
theorem rin_at (a b : Ad) (k : Int) (w : World) (ha : a.ok) (hb : b.ok) : Calls Tryz.prog 45 #[adV a, adV b, .int .i64 k] w fun e w' => e = .returned (.bool (inB a b k)) ∧ Below w.heap.size w w' := by
  obtain ⟨a0, a1, a2, a3⟩ := a
  obtain ⟨b0, b1, b2, b3⟩ := b
  have HA := hide ha
  have HB := hide hb
  simp only [adV]
  by_cases h1 : k < 0
  · have HR : Hid (inB (a0, a1, a2, a3) (b0, b1, b2, b3) k = false) := by simp [inB, Hid]; omega
    rw [HR.out]
    clear ha hb
    go_enter Tryz.func45, Tryz.ntmps45
    go_wp2_with fail
    go_ret
    exact ⟨rfl, ((Below.refl _ _).alloc (Nat.le_refl _) _).alloc (by simp) _⟩
  by_cases h2 : 32 < k
  · have HR : Hid (inB (a0, a1, a2, a3) (b0, b1, b2, b3) k = false) := by simp [inB, Hid]; omega
    rw [HR.out]
    clear ha hb
    go_enter Tryz.func45, Tryz.ntmps45
    go_wp2_with fail
    go_ret
    exact ⟨rfl, ((Below.refl _ _).alloc (Nat.le_refl _) _).alloc (by simp) _⟩
  obtain ⟨n, rfl⟩ : ∃ n : Nat, k = n := ⟨k.toNat, by omega⟩
  have hn : n ≤ 32 := by omega
  have HR : Hid (inB (a0, a1, a2, a3) (b0, b1, b2, b3) (n : Int) = inN (a0, a1, a2, a3) (b0, b1, b2, b3) n) := by
    simp only [inB, Hid]
    simp; omega
  rw [HR.out]
  have hi0 : Hid (inN (a0, a1, a2, a3) (b0, b1, b2, b3) 0 = true) := inN_zero ha hb
  clear ha hb h1 h2
  go_enter Tryz.func45, Tryz.ntmps45
  go_wp2_with fail
  obtain ⟨W0, hW0⟩ : ∃ W0, W0 = (w.alloc (.cells #[.int .u8 (a0 : Nat), .int .u8 (a1 : Nat), .int .u8 (a2 : Nat), .int .u8 (a3 : Nat)] 24)).alloc (.cells #[.int .u8 (b0 : Nat), .int .u8 (b1 : Nat), .int .u8 (b2 : Nat), .int .u8 (b3 : Nat)] 24) := ⟨_, rfl⟩
  have T0 : Hid (Two W0 w.heap.size (a0, a1, a2, a3) (b0, b1, b2, b3)) := by
    rw [hW0]; constructor <;> simp
  have B0 : Hid (Below w.heap.size w W0) := by rw [hW0]; exact ((Below.refl _ _).alloc (Nat.le_refl _) _).alloc (by simp) _
  rw [← hW0]
  clear hW0
  go_loopw [7] (fun i wr => ∃ j : Nat, j ≤ n ∧ i = .int .i64 j ∧ Hid (inN (a0, a1, a2, a3) (b0, b1, b2, b3) j = true ∧ Two wr w.heap.size (a0, a1, a2, a3) (b0, b1, b2, b3) ∧ Below w.heap.size w wr)) (fun i _ => n - (intOf i).toNat)
  case atStart => exact ⟨0, by omega, rfl, hi0.out, T0.out, B0.out⟩
  case round =>
    obtain ⟨j, hj, rfl, HI⟩ := hrel
    by_cases hjn : j < n
    · have hd : decide ((j : Int) < (n : Int)) = true := decide_eq_true (by omega)
      obtain ⟨i1, i2, i3⟩ := HI.out
      have HT := hide i2
      have B1 := hide i3
      have HS : Hid (inN (a0, a1, a2, a3) (b0, b1, b2, b3) (j + 1) = decide (bt (a0, a1, a2, a3) j = bt (b0, b1, b2, b3) j)) := by
        show _ = _
        rw [inN_succ _ _ j (by omega), i1, Bool.true_and]
      obtain ⟨x0, x1, x2, x3, y0, y1, y2, y3⟩ := i2
      simp only [] at x0 x1 x2 x3 y0 y1 y2 y3
      clear i1 i3
      have HPa : Hid (∀ W, Calls Tryz.prog 63 #[(Value.agg #[.int .u8 (a0 : Int), .int .u8 (a1 : Int), .int .u8 (a2 : Int), .int .u8 (a3 : Int)]), .int .i64 j] W fun e w' => e = .returned (.bool (bt (a0, a1, a2, a3) j)) ∧ Below W.heap.size W w') := fun W => bit_at (a0, a1, a2, a3) j W HA.out (by omega)
      have HPb : Hid (∀ W, Calls Tryz.prog 63 #[(Value.agg #[.int .u8 (b0 : Int), .int .u8 (b1 : Int), .int .u8 (b2 : Int), .int .u8 (b3 : Int)]), .int .i64 j] W fun e w' => e = .returned (.bool (bt (b0, b1, b2, b3) j)) ∧ Below W.heap.size W w') := fun W => bit_at (b0, b1, b2, b3) j W HB.out (by omega)
      have HL : Hid (bt (a0, a1, a2, a3) j ≠ bt (b0, b1, b2, b3) j → inN (a0, a1, a2, a3) (b0, b1, b2, b3) n = false) := by
        intro hne
        cases hq : inN (a0, a1, a2, a3) (b0, b1, b2, b3) n with
        | false => rfl
        | true =>
          have := inN_less _ _ n (j + 1) hn (by omega) hq
          rw [HS.out] at this
          exact absurd (of_decide_eq_true this) hne
      generalize bt (a0, a1, a2, a3) j = p at HS HPa HL
      generalize bt (b0, b1, b2, b3) j = q at HS HPb HL
      by_cases hpq : p = q
      · subst hpq
        have hb1 : (p == p) = true := by simp
        have hb2 : (p != p) = false := by simp
        have HS2 : Hid (inN (a0, a1, a2, a3) (b0, b1, b2, b3) (j + 1) = true) := by show _ = _; rw [HS.out]; simp
        clear HL HS
        as_aux_lemma =>
        go_wp2_with fail
        go_region_held3 (fun w' => w'.cell? ⟨w.heap.size, 0, none⟩ = some (.int .u8 (a0 : Nat)) ∧ w'.cell? ⟨w.heap.size, 1, none⟩ = some (.int .u8 (a1 : Nat)) ∧ w'.cell? ⟨w.heap.size, 2, none⟩ = some (.int .u8 (a2 : Nat)) ∧ w'.cell? ⟨w.heap.size, 3, none⟩ = some (.int .u8 (a3 : Nat)) ∧ w'.cell? ⟨w.heap.size + 1, 0, none⟩ = some (.int .u8 (b0 : Nat)) ∧ w'.cell? ⟨w.heap.size + 1, 1, none⟩ = some (.int .u8 (b1 : Nat)) ∧ w'.cell? ⟨w.heap.size + 1, 2, none⟩ = some (.int .u8 (b2 : Nat)) ∧ w'.cell? ⟨w.heap.size + 1, 3, none⟩ = some (.int .u8 (b3 : Nat))) (go_keep) (first
          | (go_at_call_of 63 (Value.agg #[.int .u8 (a0 : Int), .int .u8 (a1 : Int), .int .u8 (a2 : Int), .int .u8 (a3 : Int)]); refine (HPa.out _).mono ?_; rintro e wp ⟨rfl, hk⟩; have hk' : Below wr.heap.size wr wp := ⟨hk.os, hk.tape, hk.output, hk.size, hk.block⟩; have MP := hide (HT.out.below hk'); have BP := hide (B1.out.trans (hk'.mono B1.out.size)); obtain ⟨p0, p1, p2, p3, q0, q1, q2, q3⟩ := MP.out; simp only [] at p0 p1 p2 p3 q0 q1 q2 q3; clear hk hk')
          | (go_at_call_of 63 (Value.agg #[.int .u8 (b0 : Int), .int .u8 (b1 : Int), .int .u8 (b2 : Int), .int .u8 (b3 : Int)]); refine (HPb.out _).mono ?_; rintro e wq ⟨rfl, hk⟩; have hk' : Below wp.heap.size wp wq := ⟨hk.os, hk.tape, hk.output, hk.size, hk.block⟩; have MQ := hide (MP.out.below hk'); have BQ := hide (BP.out.trans (hk'.mono BP.out.size)); obtain ⟨r0, r1, r2, r3, s0, s1, s2, s3⟩ := MQ.out; simp only [] at r0 r1 r2 r3 s0 s1 s2 s3; clear hk hk'))
        go_wp2_with fail
        go_roundw
        case rel => exact ⟨j + 1, by omega, by go_num, HS2.out, MQ.out, BQ.out⟩
        case measure => simp [intOf]; omega
      · have hb1 : (p == q) = false := by simp [hpq]
        have hb2 : (p != q) = true := by simp [hpq]
        have HL2 := hide (HL.out hpq)
        clear HL HS hpq
        as_aux_lemma =>
        go_wp2_with fail
        go_region_held3 (fun w' => w'.cell? ⟨w.heap.size, 0, none⟩ = some (.int .u8 (a0 : Nat)) ∧ w'.cell? ⟨w.heap.size, 1, none⟩ = some (.int .u8 (a1 : Nat)) ∧ w'.cell? ⟨w.heap.size, 2, none⟩ = some (.int .u8 (a2 : Nat)) ∧ w'.cell? ⟨w.heap.size, 3, none⟩ = some (.int .u8 (a3 : Nat)) ∧ w'.cell? ⟨w.heap.size + 1, 0, none⟩ = some (.int .u8 (b0 : Nat)) ∧ w'.cell? ⟨w.heap.size + 1, 1, none⟩ = some (.int .u8 (b1 : Nat)) ∧ w'.cell? ⟨w.heap.size + 1, 2, none⟩ = some (.int .u8 (b2 : Nat)) ∧ w'.cell? ⟨w.heap.size + 1, 3, none⟩ = some (.int .u8 (b3 : Nat))) (go_keep) (first
          | (go_at_call_of 63 (Value.agg #[.int .u8 (a0 : Int), .int .u8 (a1 : Int), .int .u8 (a2 : Int), .int .u8 (a3 : Int)]); refine (HPa.out _).mono ?_; rintro e wp ⟨rfl, hk⟩; have hk' : Below wr.heap.size wr wp := ⟨hk.os, hk.tape, hk.output, hk.size, hk.block⟩; have MP := hide (HT.out.below hk'); have BP := hide (B1.out.trans (hk'.mono B1.out.size)); obtain ⟨p0, p1, p2, p3, q0, q1, q2, q3⟩ := MP.out; simp only [] at p0 p1 p2 p3 q0 q1 q2 q3; clear hk hk')
          | (go_at_call_of 63 (Value.agg #[.int .u8 (b0 : Int), .int .u8 (b1 : Int), .int .u8 (b2 : Int), .int .u8 (b3 : Int)]); refine (HPb.out _).mono ?_; rintro e wq ⟨rfl, hk⟩; have hk' : Below wp.heap.size wp wq := ⟨hk.os, hk.tape, hk.output, hk.size, hk.block⟩; have MQ := hide (MP.out.below hk'); have BQ := hide (BP.out.trans (hk'.mono BP.out.size)); obtain ⟨r0, r1, r2, r3, s0, s1, s2, s3⟩ := MQ.out; simp only [] at r0 r1 r2 r3 s0 s1 s2 s3; clear hk hk'))
        go_wp2_with fail
        go_ret
        refine ⟨?_, BQ.out⟩
        rw [HL2.out]
        rfl
    · have hd : decide ((j : Int) < (n : Int)) = false := decide_eq_false (by omega)
      obtain ⟨i1, i2, i3⟩ := HI.out
      have B1 := hide i3
      have H1 : Hid (inN (a0, a1, a2, a3) (b0, b1, b2, b3) n = true) := by
        obtain rfl : j = n := by omega
        exact i1
      clear i1 i2 i3
      go_wp2_with fail
      go_ret
      refine ⟨?_, B1.out⟩
      rw [H1.out]
      rfl

end Go.Proofs.YtiejandeoopiiaaGreatDoor
