/-
  Print and PrintDest of the reference; conditions as each theorem has them.
-/
import Derived.Test.YtiejandeoopiiaaGreatDoorPA
set_option linter.unusedSimpArgs false
set_option linter.unusedVariables false
namespace Go.Proofs.YtiejandeoopiiaaGreatDoor
open Go.RowKit

structure Bx4 (w : World) (B : Nat) (a : Ad) : Prop where
  x0 : w.cell? ⟨B, 0, none⟩ = some (.int .u8 (a.1 : Nat))
  x1 : w.cell? ⟨B, 1, none⟩ = some (.int .u8 (a.2.1 : Nat))
  x2 : w.cell? ⟨B, 2, none⟩ = some (.int .u8 (a.2.2.1 : Nat))
  x3 : w.cell? ⟨B, 3, none⟩ = some (.int .u8 (a.2.2.2 : Nat))
theorem Bx4.below {w w' : World} {B : Nat} {a : Ad} (h : Bx4 w B a) (k : Below w.heap.size w w') : Bx4 w' B a :=
  ⟨(k.cell (lt_of_cell h.x0)).trans h.x0, (k.cell (lt_of_cell h.x1)).trans h.x1, (k.cell (lt_of_cell h.x2)).trans h.x2, (k.cell (lt_of_cell h.x3)).trans h.x3⟩
set_option maxRecDepth 100000 in
set_option maxHeartbeats 4000000 in
theorem rprint_at (a : Ad) (n : ByteArray) (w : World) (ha : a.ok) (hm : n.size ≤ maxLen) : Calls Tryz.prog 32 #[hoV a n] w fun e w' => e = .returned (.string (strN (hot a (byt n)))) ∧ Below w.heap.size w w' := by
  obtain ⟨a0, a1, a2, a3⟩ := a
  obtain ⟨w0, hw0⟩ : ∃ w0, w0 = w.alloc (.cells #[.int .u8 (a0 : Nat), .int .u8 (a1 : Nat), .int .u8 (a2 : Nat), .int .u8 (a3 : Nat), .string n] 26) := ⟨_, rfl⟩
  have hb0 : Below w.heap.size w w0 := by rw [hw0]; exact (Below.refl _ _).alloc (Nat.le_refl _) _
  have X0 : Hid (Bx5 w0 w.heap.size (a0, a1, a2, a3) n) := by rw [hw0]; constructor <;> simp
  have HW0 : Hid (w.alloc (.cells #[.int .u8 (a0 : Nat), .int .u8 (a1 : Nat), .int .u8 (a2 : Nat), .int .u8 (a3 : Nat), .string n] 26) = w0) := hw0.symm
  have B0 := hide hb0
  obtain ⟨R, hR⟩ : ∃ R, R = chk (a0, a1, a2, a3) (byt n) := ⟨_, rfl⟩
  have HR := hide hR
  have HC : Hid (∀ W, Calls Tryz.prog 41 #[.agg #[.int .u8 (a0 : Nat), .int .u8 (a1 : Nat), .int .u8 (a2 : Nat), .int .u8 (a3 : Nat), .string n]] W fun e w' => e = .returned (.bool R) ∧ Below W.heap.size W w') := fun W => by rw [hR]; exact rcheck_at (a0, a1, a2, a3) n W hm
  obtain ⟨l0, l1, l2, l3⟩ := ha
  simp only [] at l0 l1 l2 l3
  obtain ⟨D0, hD0⟩ : ∃ D, D = strN (dec a0) := ⟨_, rfl⟩
  obtain ⟨D1, hD1⟩ : ∃ D, D = strN (dec a1) := ⟨_, rfl⟩
  obtain ⟨D2, hD2⟩ : ∃ D, D = strN (dec a2) := ⟨_, rfl⟩
  obtain ⟨D3, hD3⟩ : ∃ D, D = strN (dec a3) := ⟨_, rfl⟩
  have I0 : Hid (∀ W, Calls Tryz.prog 33 #[.int .i64 (a0 : Nat)] W fun e w' => e = .returned (.string D0) ∧ Below W.heap.size W w') := fun W => by rw [hD0]; exact ritoa_at a0 W (by omega)
  have I1 : Hid (∀ W, Calls Tryz.prog 33 #[.int .i64 (a1 : Nat)] W fun e w' => e = .returned (.string D1) ∧ Below W.heap.size W w') := fun W => by rw [hD1]; exact ritoa_at a1 W (by omega)
  have I2 : Hid (∀ W, Calls Tryz.prog 33 #[.int .i64 (a2 : Nat)] W fun e w' => e = .returned (.string D2) ∧ Below W.heap.size W w') := fun W => by rw [hD2]; exact ritoa_at a2 W (by omega)
  have I3 : Hid (∀ W, Calls Tryz.prog 33 #[.int .i64 (a3 : Nat)] W fun e w' => e = .returned (.string D3) ∧ Below W.heap.size W w') := fun W => by rw [hD3]; exact ritoa_at a3 W (by omega)
  have z0 : D0.size ≤ 5 := by rw [hD0, strN_size]; exact dec_len (by omega)
  have z1 : D1.size ≤ 5 := by rw [hD1, strN_size]; exact dec_len (by omega)
  have z2 : D2.size ≤ 5 := by rw [hD2, strN_size]; exact dec_len (by omega)
  have z3 : D3.size ≤ 5 := by rw [hD3, strN_size]; exact dec_len (by omega)
  have HAD : Hid (strN (adt (a0, a1, a2, a3)) = D0 ++ ⟨#[46]⟩ ++ D1 ++ ⟨#[46]⟩ ++ D2 ++ ⟨#[46]⟩ ++ D3) := by
    show _ = _
    rw [hD0, hD1, hD2, hD3, show (⟨#[46]⟩ : ByteArray) = strN [46] from rfl]
    simp only [← strN_append, adt, adk]
    simp
  clear hD0 hD1 hD2 hD3
  have y0 : IntKind.i64.wrap (a0 : Int) = (a0 : Int) := wrap_nat a0 (by omega)
  have y1 : IntKind.i64.wrap (a1 : Int) = (a1 : Int) := wrap_nat a1 (by omega)
  have y2 : IntKind.i64.wrap (a2 : Int) = (a2 : Int) := wrap_nat a2 (by omega)
  have y3 : IntKind.i64.wrap (a3 : Int) = (a3 : Int) := wrap_nat a3 (by omega)
  simp only [hoV]
  clear hw0 hb0 hm hR l0 l1 l2 l3
  go_enter Tryz.func32, Tryz.ntmps32
  go_wp2_with fail
  rw [HW0.out]
  refine (HC.out w0).mono ?_
  rintro e w1 ⟨rfl, hk⟩
  have X1 := hide (X0.out.below hk)
  have B1 := hide (B0.out.trans (hk.mono B0.out.size))
  obtain ⟨x0, x1, x2, x3, x4⟩ := X1.out
  simp only [] at x0 x1 x2 x3 x4
  clear hk X0 B0 HC HW0
  cases R with
  | false =>
    have HF : Hid (hot (a0, a1, a2, a3) (byt n) = []) := by show _ = _; unfold hot; rw [← HR.out]; rfl
    go_wp2_with fail
    go_ret
    exact ⟨by rw [HF.out]; rfl, B1.out⟩
  | true =>
    by_cases h0 : byt n = []
    · have he : n.toList.isEmpty = true := by rw [isEmpty_byt]; simp [h0]
      have he2 : (n.toList == []) = true := by simpa using he
      have HF : Hid (hot (a0, a1, a2, a3) (byt n) = adt (a0, a1, a2, a3)) := by show _ = _; unfold hot; rw [← HR.out, if_pos rfl, if_pos h0]
      clear h0
      go_wp2_with fail
      obtain ⟨W0, hW0⟩ : ∃ W0, W0 = w1.alloc (.cells #[.int .u8 (a0 : Nat), .int .u8 (a1 : Nat), .int .u8 (a2 : Nat), .int .u8 (a3 : Nat)] 24) := ⟨_, rfl⟩
      have M0 : Hid (Bx4 W0 w1.heap.size (a0, a1, a2, a3)) := by rw [hW0]; constructor <;> simp
      have E0 : Hid (Below w.heap.size w W0) := by rw [hW0]; exact B1.out.alloc B1.out.size _
      rw [← hW0]
      obtain ⟨q0, q1, q2, q3⟩ := M0.out
      simp only [] at q0 q1 q2 q3
      have n1 : ¬ (9223372036854775807 < D0.size + 1) := by omega
      have n2 : ¬ (9223372036854775807 < D0.size + 1 + D1.size) := by omega
      have n3 : ¬ (9223372036854775807 < D0.size + 1 + D1.size + 1) := by omega
      have n4 : ¬ (9223372036854775807 < D0.size + 1 + D1.size + 1 + D2.size) := by omega
      have n5 : ¬ (9223372036854775807 < D0.size + 1 + D1.size + 1 + D2.size + 1) := by omega
      have n6 : ¬ (9223372036854775807 < D0.size + 1 + D1.size + 1 + D2.size + 1 + D3.size) := by omega
      clear hW0 z0 z1 z2 z3 x0 x1 x2 x3 x4 he he2
      go_region_held3 (fun w' => w'.cell? ⟨w1.heap.size, 0, none⟩ = some (.int .u8 (a0 : Nat)) ∧ w'.cell? ⟨w1.heap.size, 1, none⟩ = some (.int .u8 (a1 : Nat)) ∧ w'.cell? ⟨w1.heap.size, 2, none⟩ = some (.int .u8 (a2 : Nat)) ∧ w'.cell? ⟨w1.heap.size, 3, none⟩ = some (.int .u8 (a3 : Nat))) (go_keep) (first
        | (go_at_call 33; have M' := M3.out; refine (I3.out _).mono ?_; rintro e v3 ⟨rfl, hk⟩; have hk' : Below v2.heap.size v2 v3 := ⟨hk.os, hk.tape, hk.output, hk.size, hk.block⟩; have M4 := hide (M'.below hk'); have E4 := hide (E3.out.trans (hk'.mono E3.out.size)); obtain ⟨p30, p31, p32, p33⟩ := M4.out; simp only [] at p30 p31 p32 p33; clear hk hk' M')
        | (go_at_call 33; have M' := M2.out; refine (I2.out _).mono ?_; rintro e v2 ⟨rfl, hk⟩; have hk' : Below v1.heap.size v1 v2 := ⟨hk.os, hk.tape, hk.output, hk.size, hk.block⟩; have M3 := hide (M'.below hk'); have E3 := hide (E2.out.trans (hk'.mono E2.out.size)); obtain ⟨p20, p21, p22, p23⟩ := M3.out; simp only [] at p20 p21 p22 p23; clear hk hk' M')
        | (go_at_call 33; have M' := M1.out; refine (I1.out _).mono ?_; rintro e v1 ⟨rfl, hk⟩; have hk' : Below v0.heap.size v0 v1 := ⟨hk.os, hk.tape, hk.output, hk.size, hk.block⟩; have M2 := hide (M'.below hk'); have E2 := hide (E1.out.trans (hk'.mono E1.out.size)); obtain ⟨p10, p11, p12, p13⟩ := M2.out; simp only [] at p10 p11 p12 p13; clear hk hk' M')
        | (go_at_call 33; have M' := M0.out; refine (I0.out _).mono ?_; rintro e v0 ⟨rfl, hk⟩; have hk' : Below W0.heap.size W0 v0 := ⟨hk.os, hk.tape, hk.output, hk.size, hk.block⟩; have M1 := hide (M'.below hk'); have E1 := hide (E0.out.trans (hk'.mono E0.out.size)); obtain ⟨p00, p01, p02, p03⟩ := M1.out; simp only [] at p00 p01 p02 p03; clear hk hk' M'))
      go_wp2_with fail
      go_ret
      exact ⟨by rw [HF.out, HAD.out]; rfl, E4.out⟩
    · have he : n.toList.isEmpty = false := by rw [isEmpty_byt]; simp [h0]
      have he2 : (n.toList == []) = false := by
        cases hh : n.toList with
        | nil => rw [hh] at he; cases he
        | cons a b => rfl
      have HF : Hid (hot (a0, a1, a2, a3) (byt n) = byt n) := by show _ = _; unfold hot; rw [← HR.out, if_pos rfl, if_neg h0]
      clear h0
      go_wp2_with fail
      go_ret
      exact ⟨by rw [HF.out, strN_byt]; rfl, B1.out⟩
set_option maxRecDepth 100000 in
set_option maxHeartbeats 4000000 in
theorem rprintDest_at (a : Ad) (n : ByteArray) (p : Int) (w : World) (ha : a.ok) (hm : n.size ≤ maxLen) : Calls Tryz.prog 26 #[deV a n p] w fun e w' => e = .returned (.string (strN (det a (byt n) p))) ∧ Below w.heap.size w w' := by
  have hol := hot_len a (byt n) ha
  obtain ⟨a0, a1, a2, a3⟩ := a
  obtain ⟨w0, hw0⟩ : ∃ w0, w0 = w.alloc (.cells #[.int .u8 (a0 : Nat), .int .u8 (a1 : Nat), .int .u8 (a2 : Nat), .int .u8 (a3 : Nat), .string n, .int .i64 p] 28) := ⟨_, rfl⟩
  have hb0 : Below w.heap.size w w0 := by rw [hw0]; exact (Below.refl _ _).alloc (Nat.le_refl _) _
  have X0 : Hid (Bx6 w0 w.heap.size (a0, a1, a2, a3) n p) := by rw [hw0]; constructor <;> simp
  have HW0 : Hid (w.alloc (.cells #[.int .u8 (a0 : Nat), .int .u8 (a1 : Nat), .int .u8 (a2 : Nat), .int .u8 (a3 : Nat), .string n, .int .i64 p] 28) = w0) := hw0.symm
  have B0 := hide hb0
  obtain ⟨R, hR⟩ : ∃ R, R = chk (a0, a1, a2, a3) (byt n) := ⟨_, rfl⟩
  have HR := hide hR
  have HC : Hid (∀ W, Calls Tryz.prog 41 #[.agg #[.int .u8 (a0 : Nat), .int .u8 (a1 : Nat), .int .u8 (a2 : Nat), .int .u8 (a3 : Nat), .string n]] W fun e w' => e = .returned (.bool R) ∧ Below W.heap.size W w') := fun W => by rw [hR]; exact rcheck_at (a0, a1, a2, a3) n W hm
  obtain ⟨T, hT⟩ : ∃ T, T = strN (hot (a0, a1, a2, a3) (byt n)) := ⟨_, rfl⟩
  have hTs : T.size ≤ 253 := by rw [hT, strN_size]; exact hol
  have HTT := hide hT
  have HA : Hid (∀ W, Calls Tryz.prog 32 #[.agg #[.int .u8 (a0 : Nat), .int .u8 (a1 : Nat), .int .u8 (a2 : Nat), .int .u8 (a3 : Nat), .string n]] W fun e w' => e = .returned (.string T) ∧ Below W.heap.size W w') := fun W => by rw [hT]; exact rprint_at (a0, a1, a2, a3) n W ha hm
  simp only [deV]
  clear hw0 hb0 ha hm hR hT hol
  go_enter Tryz.func26, Tryz.ntmps26
  go_wp2_with fail
  rw [HW0.out]
  refine (HC.out w0).mono ?_
  rintro e w1 ⟨rfl, hk⟩
  have X1 := hide (X0.out.below hk)
  have B1 := hide (B0.out.trans (hk.mono B0.out.size))
  obtain ⟨x0, x1, x2, x3, x4, x5⟩ := X1.out
  simp only [] at x0 x1 x2 x3 x4 x5
  clear hk X0 B0 HC HW0
  cases R with
  | false =>
    have HF : Hid (det (a0, a1, a2, a3) (byt n) p = []) := by show _ = _; unfold det; rw [← HR.out]; simp
    go_wp2_with fail
    go_ret
    exact ⟨by rw [HF.out]; rfl, B1.out⟩
  | true =>
    by_cases hp : 1 ≤ p ∧ p ≤ 65535
    · obtain ⟨m, rfl⟩ : ∃ m : Nat, p = m := ⟨p.toNat, by omega⟩
      have hm5 : m ≤ 65535 := by omega
      have hdx := dec_len (n := m) (by omega)
      obtain ⟨D, hD⟩ : ∃ D, D = strN (dec m) := ⟨_, rfl⟩
      have hDs : D.size ≤ 5 := by rw [hD, strN_size]; exact hdx
      have n1 : ¬ (9223372036854775807 < T.size + 1) := by omega
      have n2 : ¬ (9223372036854775807 < T.size + 1 + D.size) := by omega
      have HI : Hid (∀ W, Calls Tryz.prog 33 #[.int .i64 (m : Int)] W fun e w' => e = .returned (.string D) ∧ Below W.heap.size W w') := fun W => by rw [hD]; exact ritoa_at m W (by omega)
      have HF : Hid (strN (det (a0, a1, a2, a3) (byt n) (m : Int)) = (T ++ ⟨#[58]⟩) ++ D) := by
        show _ = _
        unfold det
        rw [← HR.out, if_pos ⟨rfl, hp⟩, HTT.out, hD, show (⟨#[58]⟩ : ByteArray) = strN [58] from rfl, ← strN_append, ← strN_append]
        simp
      have u1 : decide ((m : Int) < 1) = false := decide_eq_false (by omega)
      have u2 : decide (65535 < (m : Int)) = false := decide_eq_false (by omega)
      clear hp hdx hD hDs hTs hm5
      go_wp2_with fail
      go_region_held3 (fun w' => w'.cell? ⟨w.heap.size, 0, none⟩ = some (.int .u8 (a0 : Nat)) ∧ w'.cell? ⟨w.heap.size, 1, none⟩ = some (.int .u8 (a1 : Nat)) ∧ w'.cell? ⟨w.heap.size, 2, none⟩ = some (.int .u8 (a2 : Nat)) ∧ w'.cell? ⟨w.heap.size, 3, none⟩ = some (.int .u8 (a3 : Nat)) ∧ w'.cell? ⟨w.heap.size, 4, none⟩ = some (.string n) ∧ w'.cell? ⟨w.heap.size, 5, none⟩ = some (.int .i64 (m : Int))) (go_keep) (first
        | (go_at_call 32; refine (HA.out _).mono ?_; rintro e wp ⟨rfl, hk⟩; have hk' : Below w1.heap.size w1 wp := ⟨hk.os, hk.tape, hk.output, hk.size, hk.block⟩; have MP := hide (X1.out.below hk'); have BP := hide (B1.out.trans (hk'.mono B1.out.size)); obtain ⟨p0, p1, p2, p3, p4, p5⟩ := MP.out; simp only [] at p0 p1 p2 p3 p4 p5; clear hk hk')
        | (go_at_call 33; refine (HI.out _).mono ?_; rintro e wq ⟨rfl, hk⟩; have hk' : Below wp.heap.size wp wq := ⟨hk.os, hk.tape, hk.output, hk.size, hk.block⟩; have MQ := hide (MP.out.below hk'); have BQ := hide (BP.out.trans (hk'.mono BP.out.size)); obtain ⟨r0, r1, r2, r3, r4, r5⟩ := MQ.out; simp only [] at r0 r1 r2 r3 r4 r5; clear hk hk'))
      go_wp2_with fail
      go_ret
      exact ⟨by rw [HF.out]; rfl, BQ.out⟩
    · have HF : Hid (det (a0, a1, a2, a3) (byt n) p = []) := by show _ = _; unfold det; rw [if_neg (fun h => hp h.2)]
      have HPO := hide hp
      by_cases hp1 : p < 1
      · have u1 : decide (p < 1) = true := decide_eq_true hp1
        clear hp hp1 HPO
        go_wp2_with fail
        go_ret
        exact ⟨by rw [HF.out]; rfl, B1.out⟩
      · have u1 : decide (p < 1) = false := decide_eq_false hp1
        have u2 : decide (65535 < p) = true := decide_eq_true (by omega)
        clear hp hp1 HPO
        go_wp2_with fail
        go_ret
        exact ⟨by rw [HF.out]; rfl, B1.out⟩
end Go.Proofs.YtiejandeoopiiaaGreatDoor
