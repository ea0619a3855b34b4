/-
  The reference's Print; conditions as each theorem has them.
-/
import Derived.Test.YtiejandeoopiiaaGreatDoorTW
import Derived.Test.YtiejandeoopiiaaGreatDoorSA
import Derived.Test.YtiejandeoopiiaaGreatDoorRF
import Derived.Test.YtiejandeoopiiaaGreatDoorIT
import Derived.Test.YtiejandeoopiiaaGreatDoorPR
set_option linter.unusedSimpArgs false
set_option linter.unusedVariables false
namespace Go.Proofs.YtiejandeoopiiaaGreatDoor
open Go.RowKit
set_option maxRecDepth 100000 in
set_option maxHeartbeats 2000000 in
theorem rPrint_net1 (al : Bool) (a0 a1 a2 a3 : Nat) (x n : Nat) (w : World) (V : ByteArray) (hVal : V = strN ((if al = true then allowT else denyT) ++ [32])) (hx : x ≤ 32) (hn : n ≤ 65535) (ha : Ad.ok (a0, a1, a2, a3))
    (HIR : Hid (∀ W, Calls Tryz.prog 22 #[.agg #[.bool al, .int .u8 (a0 : Nat), .int .u8 (a1 : Nat), .int .u8 (a2 : Nat), .int .u8 (a3 : Nat), .int .i64 (x : Nat), .string ⟨#[]⟩, .int .i64 (n : Nat), .int .i64 (n : Nat)]] W fun e w' => e = .returned (.bool true) ∧ Below W.heap.size W w')) :
    Calls Tryz.prog 16 #[.agg #[.bool al, .int .u8 (a0 : Nat), .int .u8 (a1 : Nat), .int .u8 (a2 : Nat), .int .u8 (a3 : Nat), .int .i64 (x : Nat), .string ⟨#[]⟩, .int .i64 (n : Nat), .int .i64 (n : Nat)]] w fun e w' => e = .returned (.tuple #[.string (V ++ (strN (adt (a0, a1, a2, a3)) ++ ⟨#[47]⟩ ++ strN (dec x)) ++ (⟨#[32]⟩ ++ strN (dec n))), .int .i64 0]) ∧ Below w.heap.size w w' := by
  have hal := adk_len a0 a1 a2 a3 ha.1 ha.2.1 ha.2.2.1 ha.2.2.2 3
  have HPR := hide (fun W => rprint_at (a0, a1, a2, a3) ⟨#[]⟩ W ha (by unfold maxLen; decide))
  obtain ⟨A, hA⟩ : ∃ A, A = strN (adt (a0, a1, a2, a3)) := ⟨_, rfl⟩
  have hAs : A.size ≤ 23 := by rw [hA, strN_size]; exact hal
  rw [show byt (⟨#[]⟩ : ByteArray) = [] from rfl, hot_net, ← hA] at HPR
  simp only [hoV] at HPR
  rw [← hA]
  clear hA hal ha
  obtain ⟨X, hX⟩ : ∃ X, X = strN (dec x) := ⟨_, rfl⟩
  have hXs : X.size ≤ 5 := by rw [hX, strN_size]; exact dec_len (by omega)
  have HX : Hid (∀ W, Calls Tryz.prog 33 #[.int .i64 (x : Int)] W fun e w' => e = .returned (.string X) ∧ Below W.heap.size W w') := fun W => by rw [hX]; exact ritoa_at x W (by omega)
  rw [← hX]
  clear hX
  obtain ⟨Y, hY⟩ : ∃ Y, Y = strN (dec n) := ⟨_, rfl⟩
  have hYs : Y.size ≤ 5 := by rw [hY, strN_size]; exact dec_len (by omega)
  have HY : Hid (∀ W, Calls Tryz.prog 33 #[.int .i64 (n : Int)] W fun e w' => e = .returned (.string Y) ∧ Below W.heap.size W w') := fun W => by rw [hY]; exact ritoa_at n W (by omega)
  rw [← hY]
  clear hY
  have n1 : ¬ (9223372036854775807 < A.size + 1) := by omega
  have n2 : ¬ (9223372036854775807 < A.size + 1 + X.size) := by omega
  have n4 : ¬ (9223372036854775807 < 1 + Y.size) := by omega
  obtain ⟨w0, hw0⟩ : ∃ w0, w0 = w.alloc (.cells #[.bool al, .int .u8 (a0 : Nat), .int .u8 (a1 : Nat), .int .u8 (a2 : Nat), .int .u8 (a3 : Nat), .int .i64 (x : Nat), .string ⟨#[]⟩, .int .i64 (n : Nat), .int .i64 (n : Nat)] 37) := ⟨_, rfl⟩
  have B0 : Hid (Below w.heap.size w w0) := by rw [hw0]; exact (Below.refl _ _).alloc (Nat.le_refl _) _
  have r0 : Hid (w0.heap[w.heap.size]? = some (.cells #[.bool al, .int .u8 (a0 : Nat), .int .u8 (a1 : Nat), .int .u8 (a2 : Nat), .int .u8 (a3 : Nat), .int .i64 (x : Nat), .string ⟨#[]⟩, .int .i64 (n : Nat), .int .i64 (n : Nat)] 37)) := by rw [hw0]; exact alloc_new _ _
  have HW0 := hide hw0
  clear hw0
  have VF : Hid (al = false → V = ⟨#[100, 101, 110, 121, 32]⟩) := fun e => by rw [hVal, e]; rfl
  have VT : Hid (al = true → V = ⟨#[97, 108, 108, 111, 119, 32]⟩) := fun e => by rw [hVal, e]; rfl
  clear hVal
  go_enter Tryz.func16, Tryz.ntmps16
  go_wp2_with (first | (rw [← HW0.out]; refine wpList_load_row rfl 37 _ rfl w.heap.size rfl 37 _ (0, 0) _ r0.out Tryz.underlyingT_Rule rfl infoRu ?_))
  rw [← HW0.out]
  refine (HIR.out _).mono ?_
  rintro e w1 ⟨rfl, hb1⟩
  have q0 := keepB hb1 r0.out
  have B1 := hide (B0.out.trans (hb1.mono B0.out.size))
  have e0 : w1.cell? ⟨w.heap.size, 0, none⟩ = some (.bool al) := by simp [World.cell?, q0]
  have e1 : w1.cell? ⟨w.heap.size, 1, none⟩ = some (.int .u8 (a0 : Nat)) := by simp [World.cell?, q0]
  have e2 : w1.cell? ⟨w.heap.size, 2, none⟩ = some (.int .u8 (a1 : Nat)) := by simp [World.cell?, q0]
  have e3 : w1.cell? ⟨w.heap.size, 3, none⟩ = some (.int .u8 (a2 : Nat)) := by simp [World.cell?, q0]
  have e4 : w1.cell? ⟨w.heap.size, 4, none⟩ = some (.int .u8 (a3 : Nat)) := by simp [World.cell?, q0]
  have e5 : w1.cell? ⟨w.heap.size, 5, none⟩ = some (.int .i64 (x : Nat)) := by simp [World.cell?, q0]
  have e6 : w1.cell? ⟨w.heap.size, 6, none⟩ = some (.string ⟨#[]⟩) := by simp [World.cell?, q0]
  have e7 : w1.cell? ⟨w.heap.size, 7, none⟩ = some (.int .i64 (n : Nat)) := by simp [World.cell?, q0]
  have e8 : w1.cell? ⟨w.heap.size, 8, none⟩ = some (.int .i64 (n : Nat)) := by simp [World.cell?, q0]
  clear hb1 q0
  cases al with
  | true =>
    obtain rfl := VT.out rfl
    have m3 : ¬ (9223372036854775807 < 6 + (A.size + 1 + X.size)) := by omega
    have m5 : ¬ (9223372036854775807 < 6 + (A.size + 1 + X.size) + (1 + Y.size)) := by omega
    clear VT VF
    go_wp2_with fail
    go_region_held3 (fun w' => w'.cell? ⟨w.heap.size, 1, none⟩ = some (.int .u8 (a0 : Nat)) ∧ w'.cell? ⟨w.heap.size, 2, none⟩ = some (.int .u8 (a1 : Nat)) ∧ w'.cell? ⟨w.heap.size, 3, none⟩ = some (.int .u8 (a2 : Nat)) ∧ w'.cell? ⟨w.heap.size, 4, none⟩ = some (.int .u8 (a3 : Nat)) ∧ w'.cell? ⟨w.heap.size, 5, none⟩ = some (.int .i64 (x : Nat))) (go_keep) (first
      | (go_at_call 32; refine (HPR.out _).mono ?_; rintro e wp ⟨rfl, hk⟩; have hk' : Below w1.heap.size w1 wp := ⟨hk.os, hk.tape, hk.output, hk.size, hk.block⟩; have BP := hide (B1.out.trans (hk'.mono B1.out.size)); have p1 := (hk'.cell (p := ⟨w.heap.size, 1, none⟩) (lt_of_cell e1)).trans e1; have p2 := (hk'.cell (p := ⟨w.heap.size, 2, none⟩) (lt_of_cell e2)).trans e2; have p3 := (hk'.cell (p := ⟨w.heap.size, 3, none⟩) (lt_of_cell e3)).trans e3; have p4 := (hk'.cell (p := ⟨w.heap.size, 4, none⟩) (lt_of_cell e4)).trans e4; have p5 := (hk'.cell (p := ⟨w.heap.size, 5, none⟩) (lt_of_cell e5)).trans e5; have p7 := (hk'.cell (p := ⟨w.heap.size, 7, none⟩) (lt_of_cell e7)).trans e7; have p8 := (hk'.cell (p := ⟨w.heap.size, 8, none⟩) (lt_of_cell e8)).trans e8; clear hk hk')
      | (go_at_call 33; refine (HX.out _).mono ?_; rintro e wq ⟨rfl, hk⟩; have hk' : Below wp.heap.size wp wq := ⟨hk.os, hk.tape, hk.output, hk.size, hk.block⟩; have BQ := hide (BP.out.trans (hk'.mono BP.out.size)); have q1 := (hk'.cell (p := ⟨w.heap.size, 1, none⟩) (lt_of_cell p1)).trans p1; have q2 := (hk'.cell (p := ⟨w.heap.size, 2, none⟩) (lt_of_cell p2)).trans p2; have q3 := (hk'.cell (p := ⟨w.heap.size, 3, none⟩) (lt_of_cell p3)).trans p3; have q4 := (hk'.cell (p := ⟨w.heap.size, 4, none⟩) (lt_of_cell p4)).trans p4; have q5 := (hk'.cell (p := ⟨w.heap.size, 5, none⟩) (lt_of_cell p5)).trans p5; have q7 := (hk'.cell (p := ⟨w.heap.size, 7, none⟩) (lt_of_cell p7)).trans p7; have q8 := (hk'.cell (p := ⟨w.heap.size, 8, none⟩) (lt_of_cell p8)).trans p8; clear hk hk'))
    go_wp2_with fail
    refine (HY.out _).mono ?_
    rintro e wy ⟨rfl, hk'⟩
    have BY := hide (BQ.out.trans (hk'.mono BQ.out.size))
    have y7 := (hk'.cell (p := ⟨w.heap.size, 7, none⟩) (lt_of_cell q7)).trans q7
    have y8 := (hk'.cell (p := ⟨w.heap.size, 8, none⟩) (lt_of_cell q8)).trans q8
    clear hk'
    go_wp2_with fail
    go_ret2
    exact ⟨rfl, BY.out⟩
  | false =>
    obtain rfl := VF.out rfl
    have m3 : ¬ (9223372036854775807 < 5 + (A.size + 1 + X.size)) := by omega
    have m5 : ¬ (9223372036854775807 < 5 + (A.size + 1 + X.size) + (1 + Y.size)) := by omega
    clear VT VF
    go_wp2_with fail
    go_region_held3 (fun w' => w'.cell? ⟨w.heap.size, 1, none⟩ = some (.int .u8 (a0 : Nat)) ∧ w'.cell? ⟨w.heap.size, 2, none⟩ = some (.int .u8 (a1 : Nat)) ∧ w'.cell? ⟨w.heap.size, 3, none⟩ = some (.int .u8 (a2 : Nat)) ∧ w'.cell? ⟨w.heap.size, 4, none⟩ = some (.int .u8 (a3 : Nat)) ∧ w'.cell? ⟨w.heap.size, 5, none⟩ = some (.int .i64 (x : Nat))) (go_keep) (first
      | (go_at_call 32; refine (HPR.out _).mono ?_; rintro e wp ⟨rfl, hk⟩; have hk' : Below w1.heap.size w1 wp := ⟨hk.os, hk.tape, hk.output, hk.size, hk.block⟩; have BP := hide (B1.out.trans (hk'.mono B1.out.size)); have p1 := (hk'.cell (p := ⟨w.heap.size, 1, none⟩) (lt_of_cell e1)).trans e1; have p2 := (hk'.cell (p := ⟨w.heap.size, 2, none⟩) (lt_of_cell e2)).trans e2; have p3 := (hk'.cell (p := ⟨w.heap.size, 3, none⟩) (lt_of_cell e3)).trans e3; have p4 := (hk'.cell (p := ⟨w.heap.size, 4, none⟩) (lt_of_cell e4)).trans e4; have p5 := (hk'.cell (p := ⟨w.heap.size, 5, none⟩) (lt_of_cell e5)).trans e5; have p7 := (hk'.cell (p := ⟨w.heap.size, 7, none⟩) (lt_of_cell e7)).trans e7; have p8 := (hk'.cell (p := ⟨w.heap.size, 8, none⟩) (lt_of_cell e8)).trans e8; clear hk hk')
      | (go_at_call 33; refine (HX.out _).mono ?_; rintro e wq ⟨rfl, hk⟩; have hk' : Below wp.heap.size wp wq := ⟨hk.os, hk.tape, hk.output, hk.size, hk.block⟩; have BQ := hide (BP.out.trans (hk'.mono BP.out.size)); have q1 := (hk'.cell (p := ⟨w.heap.size, 1, none⟩) (lt_of_cell p1)).trans p1; have q2 := (hk'.cell (p := ⟨w.heap.size, 2, none⟩) (lt_of_cell p2)).trans p2; have q3 := (hk'.cell (p := ⟨w.heap.size, 3, none⟩) (lt_of_cell p3)).trans p3; have q4 := (hk'.cell (p := ⟨w.heap.size, 4, none⟩) (lt_of_cell p4)).trans p4; have q5 := (hk'.cell (p := ⟨w.heap.size, 5, none⟩) (lt_of_cell p5)).trans p5; have q7 := (hk'.cell (p := ⟨w.heap.size, 7, none⟩) (lt_of_cell p7)).trans p7; have q8 := (hk'.cell (p := ⟨w.heap.size, 8, none⟩) (lt_of_cell p8)).trans p8; clear hk hk'))
    go_wp2_with fail
    refine (HY.out _).mono ?_
    rintro e wy ⟨rfl, hk'⟩
    have BY := hide (BQ.out.trans (hk'.mono BQ.out.size))
    have y7 := (hk'.cell (p := ⟨w.heap.size, 7, none⟩) (lt_of_cell q7)).trans q7
    have y8 := (hk'.cell (p := ⟨w.heap.size, 8, none⟩) (lt_of_cell q8)).trans q8
    clear hk'
    go_wp2_with fail
    go_ret2
    exact ⟨rfl, BY.out⟩
set_option maxRecDepth 100000 in
set_option maxHeartbeats 2000000 in
theorem rPrint_net2 (al : Bool) (a0 a1 a2 a3 : Nat) (x n m : Nat) (w : World) (V : ByteArray) (hVal : V = strN ((if al = true then allowT else denyT) ++ [32])) (hx : x ≤ 32) (hn : n ≤ 65535) (hmm : m ≤ 65535) (hne : n ≠ m) (ha : Ad.ok (a0, a1, a2, a3))
    (HIR : Hid (∀ W, Calls Tryz.prog 22 #[.agg #[.bool al, .int .u8 (a0 : Nat), .int .u8 (a1 : Nat), .int .u8 (a2 : Nat), .int .u8 (a3 : Nat), .int .i64 (x : Nat), .string ⟨#[]⟩, .int .i64 (n : Nat), .int .i64 (m : Nat)]] W fun e w' => e = .returned (.bool true) ∧ Below W.heap.size W w')) :
    Calls Tryz.prog 16 #[.agg #[.bool al, .int .u8 (a0 : Nat), .int .u8 (a1 : Nat), .int .u8 (a2 : Nat), .int .u8 (a3 : Nat), .int .i64 (x : Nat), .string ⟨#[]⟩, .int .i64 (n : Nat), .int .i64 (m : Nat)]] w fun e w' => e = .returned (.tuple #[.string (V ++ (strN (adt (a0, a1, a2, a3)) ++ ⟨#[47]⟩ ++ strN (dec x)) ++ (⟨#[32]⟩ ++ strN (dec n)) ++ (⟨#[45]⟩ ++ strN (dec m))), .int .i64 0]) ∧ Below w.heap.size w w' := by
  have hal := adk_len a0 a1 a2 a3 ha.1 ha.2.1 ha.2.2.1 ha.2.2.2 3
  have HPR := hide (fun W => rprint_at (a0, a1, a2, a3) ⟨#[]⟩ W ha (by unfold maxLen; decide))
  obtain ⟨A, hA⟩ : ∃ A, A = strN (adt (a0, a1, a2, a3)) := ⟨_, rfl⟩
  have hAs : A.size ≤ 23 := by rw [hA, strN_size]; exact hal
  rw [show byt (⟨#[]⟩ : ByteArray) = [] from rfl, hot_net, ← hA] at HPR
  simp only [hoV] at HPR
  rw [← hA]
  clear hA hal ha
  obtain ⟨X, hX⟩ : ∃ X, X = strN (dec x) := ⟨_, rfl⟩
  have hXs : X.size ≤ 5 := by rw [hX, strN_size]; exact dec_len (by omega)
  have HX : Hid (∀ W, Calls Tryz.prog 33 #[.int .i64 (x : Int)] W fun e w' => e = .returned (.string X) ∧ Below W.heap.size W w') := fun W => by rw [hX]; exact ritoa_at x W (by omega)
  rw [← hX]
  clear hX
  obtain ⟨Y, hY⟩ : ∃ Y, Y = strN (dec n) := ⟨_, rfl⟩
  have hYs : Y.size ≤ 5 := by rw [hY, strN_size]; exact dec_len (by omega)
  have HY : Hid (∀ W, Calls Tryz.prog 33 #[.int .i64 (n : Int)] W fun e w' => e = .returned (.string Y) ∧ Below W.heap.size W w') := fun W => by rw [hY]; exact ritoa_at n W (by omega)
  rw [← hY]
  clear hY
  obtain ⟨Z, hZ⟩ : ∃ Z, Z = strN (dec m) := ⟨_, rfl⟩
  have hZs : Z.size ≤ 5 := by rw [hZ, strN_size]; exact dec_len (by omega)
  have HZ : Hid (∀ W, Calls Tryz.prog 33 #[.int .i64 (m : Int)] W fun e w' => e = .returned (.string Z) ∧ Below W.heap.size W w') := fun W => by rw [hZ]; exact ritoa_at m W (by omega)
  rw [← hZ]
  clear hZ
  have n1 : ¬ (9223372036854775807 < A.size + 1) := by omega
  have n2 : ¬ (9223372036854775807 < A.size + 1 + X.size) := by omega
  have n4 : ¬ (9223372036854775807 < 1 + Y.size) := by omega
  have n6 : ¬ (9223372036854775807 < 1 + Z.size) := by omega
  have g1 : ((m : Int) == (n : Int)) = false := by simp; omega
  obtain ⟨w0, hw0⟩ : ∃ w0, w0 = w.alloc (.cells #[.bool al, .int .u8 (a0 : Nat), .int .u8 (a1 : Nat), .int .u8 (a2 : Nat), .int .u8 (a3 : Nat), .int .i64 (x : Nat), .string ⟨#[]⟩, .int .i64 (n : Nat), .int .i64 (m : Nat)] 37) := ⟨_, rfl⟩
  have B0 : Hid (Below w.heap.size w w0) := by rw [hw0]; exact (Below.refl _ _).alloc (Nat.le_refl _) _
  have r0 : Hid (w0.heap[w.heap.size]? = some (.cells #[.bool al, .int .u8 (a0 : Nat), .int .u8 (a1 : Nat), .int .u8 (a2 : Nat), .int .u8 (a3 : Nat), .int .i64 (x : Nat), .string ⟨#[]⟩, .int .i64 (n : Nat), .int .i64 (m : Nat)] 37)) := by rw [hw0]; exact alloc_new _ _
  have HW0 := hide hw0
  clear hw0
  have VF : Hid (al = false → V = ⟨#[100, 101, 110, 121, 32]⟩) := fun e => by rw [hVal, e]; rfl
  have VT : Hid (al = true → V = ⟨#[97, 108, 108, 111, 119, 32]⟩) := fun e => by rw [hVal, e]; rfl
  clear hVal
  go_enter Tryz.func16, Tryz.ntmps16
  go_wp2_with (first | (rw [← HW0.out]; refine wpList_load_row rfl 37 _ rfl w.heap.size rfl 37 _ (0, 0) _ r0.out Tryz.underlyingT_Rule rfl infoRu ?_))
  rw [← HW0.out]
  refine (HIR.out _).mono ?_
  rintro e w1 ⟨rfl, hb1⟩
  have q0 := keepB hb1 r0.out
  have B1 := hide (B0.out.trans (hb1.mono B0.out.size))
  have e0 : w1.cell? ⟨w.heap.size, 0, none⟩ = some (.bool al) := by simp [World.cell?, q0]
  have e1 : w1.cell? ⟨w.heap.size, 1, none⟩ = some (.int .u8 (a0 : Nat)) := by simp [World.cell?, q0]
  have e2 : w1.cell? ⟨w.heap.size, 2, none⟩ = some (.int .u8 (a1 : Nat)) := by simp [World.cell?, q0]
  have e3 : w1.cell? ⟨w.heap.size, 3, none⟩ = some (.int .u8 (a2 : Nat)) := by simp [World.cell?, q0]
  have e4 : w1.cell? ⟨w.heap.size, 4, none⟩ = some (.int .u8 (a3 : Nat)) := by simp [World.cell?, q0]
  have e5 : w1.cell? ⟨w.heap.size, 5, none⟩ = some (.int .i64 (x : Nat)) := by simp [World.cell?, q0]
  have e6 : w1.cell? ⟨w.heap.size, 6, none⟩ = some (.string ⟨#[]⟩) := by simp [World.cell?, q0]
  have e7 : w1.cell? ⟨w.heap.size, 7, none⟩ = some (.int .i64 (n : Nat)) := by simp [World.cell?, q0]
  have e8 : w1.cell? ⟨w.heap.size, 8, none⟩ = some (.int .i64 (m : Nat)) := by simp [World.cell?, q0]
  clear hb1 q0
  cases al with
  | true =>
    obtain rfl := VT.out rfl
    have m3 : ¬ (9223372036854775807 < 6 + (A.size + 1 + X.size)) := by omega
    have m5 : ¬ (9223372036854775807 < 6 + (A.size + 1 + X.size) + (1 + Y.size)) := by omega
    have m7 : ¬ (9223372036854775807 < 6 + (A.size + 1 + X.size) + (1 + Y.size) + (1 + Z.size)) := by omega
    clear VT VF
    go_wp2_with fail
    go_region_held3 (fun w' => w'.cell? ⟨w.heap.size, 1, none⟩ = some (.int .u8 (a0 : Nat)) ∧ w'.cell? ⟨w.heap.size, 2, none⟩ = some (.int .u8 (a1 : Nat)) ∧ w'.cell? ⟨w.heap.size, 3, none⟩ = some (.int .u8 (a2 : Nat)) ∧ w'.cell? ⟨w.heap.size, 4, none⟩ = some (.int .u8 (a3 : Nat)) ∧ w'.cell? ⟨w.heap.size, 5, none⟩ = some (.int .i64 (x : Nat))) (go_keep) (first
      | (go_at_call 32; refine (HPR.out _).mono ?_; rintro e wp ⟨rfl, hk⟩; have hk' : Below w1.heap.size w1 wp := ⟨hk.os, hk.tape, hk.output, hk.size, hk.block⟩; have BP := hide (B1.out.trans (hk'.mono B1.out.size)); have p1 := (hk'.cell (p := ⟨w.heap.size, 1, none⟩) (lt_of_cell e1)).trans e1; have p2 := (hk'.cell (p := ⟨w.heap.size, 2, none⟩) (lt_of_cell e2)).trans e2; have p3 := (hk'.cell (p := ⟨w.heap.size, 3, none⟩) (lt_of_cell e3)).trans e3; have p4 := (hk'.cell (p := ⟨w.heap.size, 4, none⟩) (lt_of_cell e4)).trans e4; have p5 := (hk'.cell (p := ⟨w.heap.size, 5, none⟩) (lt_of_cell e5)).trans e5; have p7 := (hk'.cell (p := ⟨w.heap.size, 7, none⟩) (lt_of_cell e7)).trans e7; have p8 := (hk'.cell (p := ⟨w.heap.size, 8, none⟩) (lt_of_cell e8)).trans e8; clear hk hk')
      | (go_at_call 33; refine (HX.out _).mono ?_; rintro e wq ⟨rfl, hk⟩; have hk' : Below wp.heap.size wp wq := ⟨hk.os, hk.tape, hk.output, hk.size, hk.block⟩; have BQ := hide (BP.out.trans (hk'.mono BP.out.size)); have q1 := (hk'.cell (p := ⟨w.heap.size, 1, none⟩) (lt_of_cell p1)).trans p1; have q2 := (hk'.cell (p := ⟨w.heap.size, 2, none⟩) (lt_of_cell p2)).trans p2; have q3 := (hk'.cell (p := ⟨w.heap.size, 3, none⟩) (lt_of_cell p3)).trans p3; have q4 := (hk'.cell (p := ⟨w.heap.size, 4, none⟩) (lt_of_cell p4)).trans p4; have q5 := (hk'.cell (p := ⟨w.heap.size, 5, none⟩) (lt_of_cell p5)).trans p5; have q7 := (hk'.cell (p := ⟨w.heap.size, 7, none⟩) (lt_of_cell p7)).trans p7; have q8 := (hk'.cell (p := ⟨w.heap.size, 8, none⟩) (lt_of_cell p8)).trans p8; clear hk hk'))
    go_wp2_with fail
    refine (HY.out _).mono ?_
    rintro e wy ⟨rfl, hk'⟩
    have BY := hide (BQ.out.trans (hk'.mono BQ.out.size))
    have y7 := (hk'.cell (p := ⟨w.heap.size, 7, none⟩) (lt_of_cell q7)).trans q7
    have y8 := (hk'.cell (p := ⟨w.heap.size, 8, none⟩) (lt_of_cell q8)).trans q8
    clear hk'
    go_wp2_with fail
    refine (HZ.out _).mono ?_
    rintro e wz ⟨rfl, hk'⟩
    have BZ := hide (BY.out.trans (hk'.mono BY.out.size))
    clear hk'
    go_wp2_with fail
    go_ret2
    exact ⟨rfl, BZ.out⟩
  | false =>
    obtain rfl := VF.out rfl
    have m3 : ¬ (9223372036854775807 < 5 + (A.size + 1 + X.size)) := by omega
    have m5 : ¬ (9223372036854775807 < 5 + (A.size + 1 + X.size) + (1 + Y.size)) := by omega
    have m7 : ¬ (9223372036854775807 < 5 + (A.size + 1 + X.size) + (1 + Y.size) + (1 + Z.size)) := by omega
    clear VT VF
    go_wp2_with fail
    go_region_held3 (fun w' => w'.cell? ⟨w.heap.size, 1, none⟩ = some (.int .u8 (a0 : Nat)) ∧ w'.cell? ⟨w.heap.size, 2, none⟩ = some (.int .u8 (a1 : Nat)) ∧ w'.cell? ⟨w.heap.size, 3, none⟩ = some (.int .u8 (a2 : Nat)) ∧ w'.cell? ⟨w.heap.size, 4, none⟩ = some (.int .u8 (a3 : Nat)) ∧ w'.cell? ⟨w.heap.size, 5, none⟩ = some (.int .i64 (x : Nat))) (go_keep) (first
      | (go_at_call 32; refine (HPR.out _).mono ?_; rintro e wp ⟨rfl, hk⟩; have hk' : Below w1.heap.size w1 wp := ⟨hk.os, hk.tape, hk.output, hk.size, hk.block⟩; have BP := hide (B1.out.trans (hk'.mono B1.out.size)); have p1 := (hk'.cell (p := ⟨w.heap.size, 1, none⟩) (lt_of_cell e1)).trans e1; have p2 := (hk'.cell (p := ⟨w.heap.size, 2, none⟩) (lt_of_cell e2)).trans e2; have p3 := (hk'.cell (p := ⟨w.heap.size, 3, none⟩) (lt_of_cell e3)).trans e3; have p4 := (hk'.cell (p := ⟨w.heap.size, 4, none⟩) (lt_of_cell e4)).trans e4; have p5 := (hk'.cell (p := ⟨w.heap.size, 5, none⟩) (lt_of_cell e5)).trans e5; have p7 := (hk'.cell (p := ⟨w.heap.size, 7, none⟩) (lt_of_cell e7)).trans e7; have p8 := (hk'.cell (p := ⟨w.heap.size, 8, none⟩) (lt_of_cell e8)).trans e8; clear hk hk')
      | (go_at_call 33; refine (HX.out _).mono ?_; rintro e wq ⟨rfl, hk⟩; have hk' : Below wp.heap.size wp wq := ⟨hk.os, hk.tape, hk.output, hk.size, hk.block⟩; have BQ := hide (BP.out.trans (hk'.mono BP.out.size)); have q1 := (hk'.cell (p := ⟨w.heap.size, 1, none⟩) (lt_of_cell p1)).trans p1; have q2 := (hk'.cell (p := ⟨w.heap.size, 2, none⟩) (lt_of_cell p2)).trans p2; have q3 := (hk'.cell (p := ⟨w.heap.size, 3, none⟩) (lt_of_cell p3)).trans p3; have q4 := (hk'.cell (p := ⟨w.heap.size, 4, none⟩) (lt_of_cell p4)).trans p4; have q5 := (hk'.cell (p := ⟨w.heap.size, 5, none⟩) (lt_of_cell p5)).trans p5; have q7 := (hk'.cell (p := ⟨w.heap.size, 7, none⟩) (lt_of_cell p7)).trans p7; have q8 := (hk'.cell (p := ⟨w.heap.size, 8, none⟩) (lt_of_cell p8)).trans p8; clear hk hk'))
    go_wp2_with fail
    refine (HY.out _).mono ?_
    rintro e wy ⟨rfl, hk'⟩
    have BY := hide (BQ.out.trans (hk'.mono BQ.out.size))
    have y7 := (hk'.cell (p := ⟨w.heap.size, 7, none⟩) (lt_of_cell q7)).trans q7
    have y8 := (hk'.cell (p := ⟨w.heap.size, 8, none⟩) (lt_of_cell q8)).trans q8
    clear hk'
    go_wp2_with fail
    refine (HZ.out _).mono ?_
    rintro e wz ⟨rfl, hk'⟩
    have BZ := hide (BY.out.trans (hk'.mono BY.out.size))
    clear hk'
    go_wp2_with fail
    go_ret2
    exact ⟨rfl, BZ.out⟩
set_option maxRecDepth 100000 in
set_option maxHeartbeats 2000000 in
theorem rPrint_suf1 (al : Bool) (a0 a1 a2 a3 : Nat) (x n : Nat) (sf : ByteArray) (w : World) (V : ByteArray) (hVal : V = strN ((if al = true then allowT else denyT) ++ [32])) (hx : x ≤ 32) (hn : n ≤ 65535) (hs0 : sf ≠ ⟨#[]⟩) (hss : sf.size ≤ 253)
    (HIR : Hid (∀ W, Calls Tryz.prog 22 #[.agg #[.bool al, .int .u8 (a0 : Nat), .int .u8 (a1 : Nat), .int .u8 (a2 : Nat), .int .u8 (a3 : Nat), .int .i64 (x : Nat), .string sf, .int .i64 (n : Nat), .int .i64 (n : Nat)]] W fun e w' => e = .returned (.bool true) ∧ Below W.heap.size W w')) :
    Calls Tryz.prog 16 #[.agg #[.bool al, .int .u8 (a0 : Nat), .int .u8 (a1 : Nat), .int .u8 (a2 : Nat), .int .u8 (a3 : Nat), .int .i64 (x : Nat), .string sf, .int .i64 (n : Nat), .int .i64 (n : Nat)]] w fun e w' => e = .returned (.tuple #[.string (V ++ sf ++ (⟨#[32]⟩ ++ strN (dec n))), .int .i64 0]) ∧ Below w.heap.size w w' := by
  obtain ⟨Y, hY⟩ : ∃ Y, Y = strN (dec n) := ⟨_, rfl⟩
  have hYs : Y.size ≤ 5 := by rw [hY, strN_size]; exact dec_len (by omega)
  have HY : Hid (∀ W, Calls Tryz.prog 33 #[.int .i64 (n : Int)] W fun e w' => e = .returned (.string Y) ∧ Below W.heap.size W w') := fun W => by rw [hY]; exact ritoa_at n W (by omega)
  rw [← hY]
  clear hY
  have n4 : ¬ (9223372036854775807 < 1 + Y.size) := by omega
  have g2 : sf.toList.isEmpty = false := by rw [isEmpty_byt]; exact decide_eq_false (fun e => hs0 (by rw [← strN_byt sf, e]; rfl))
  obtain ⟨w0, hw0⟩ : ∃ w0, w0 = w.alloc (.cells #[.bool al, .int .u8 (a0 : Nat), .int .u8 (a1 : Nat), .int .u8 (a2 : Nat), .int .u8 (a3 : Nat), .int .i64 (x : Nat), .string sf, .int .i64 (n : Nat), .int .i64 (n : Nat)] 37) := ⟨_, rfl⟩
  have B0 : Hid (Below w.heap.size w w0) := by rw [hw0]; exact (Below.refl _ _).alloc (Nat.le_refl _) _
  have r0 : Hid (w0.heap[w.heap.size]? = some (.cells #[.bool al, .int .u8 (a0 : Nat), .int .u8 (a1 : Nat), .int .u8 (a2 : Nat), .int .u8 (a3 : Nat), .int .i64 (x : Nat), .string sf, .int .i64 (n : Nat), .int .i64 (n : Nat)] 37)) := by rw [hw0]; exact alloc_new _ _
  have HW0 := hide hw0
  clear hw0
  have VF : Hid (al = false → V = ⟨#[100, 101, 110, 121, 32]⟩) := fun e => by rw [hVal, e]; rfl
  have VT : Hid (al = true → V = ⟨#[97, 108, 108, 111, 119, 32]⟩) := fun e => by rw [hVal, e]; rfl
  clear hVal
  go_enter Tryz.func16, Tryz.ntmps16
  go_wp2_with (first | (rw [← HW0.out]; refine wpList_load_row rfl 37 _ rfl w.heap.size rfl 37 _ (0, 0) _ r0.out Tryz.underlyingT_Rule rfl infoRu ?_))
  rw [← HW0.out]
  refine (HIR.out _).mono ?_
  rintro e w1 ⟨rfl, hb1⟩
  have q0 := keepB hb1 r0.out
  have B1 := hide (B0.out.trans (hb1.mono B0.out.size))
  have e0 : w1.cell? ⟨w.heap.size, 0, none⟩ = some (.bool al) := by simp [World.cell?, q0]
  have e1 : w1.cell? ⟨w.heap.size, 1, none⟩ = some (.int .u8 (a0 : Nat)) := by simp [World.cell?, q0]
  have e2 : w1.cell? ⟨w.heap.size, 2, none⟩ = some (.int .u8 (a1 : Nat)) := by simp [World.cell?, q0]
  have e3 : w1.cell? ⟨w.heap.size, 3, none⟩ = some (.int .u8 (a2 : Nat)) := by simp [World.cell?, q0]
  have e4 : w1.cell? ⟨w.heap.size, 4, none⟩ = some (.int .u8 (a3 : Nat)) := by simp [World.cell?, q0]
  have e5 : w1.cell? ⟨w.heap.size, 5, none⟩ = some (.int .i64 (x : Nat)) := by simp [World.cell?, q0]
  have e6 : w1.cell? ⟨w.heap.size, 6, none⟩ = some (.string sf) := by simp [World.cell?, q0]
  have e7 : w1.cell? ⟨w.heap.size, 7, none⟩ = some (.int .i64 (n : Nat)) := by simp [World.cell?, q0]
  have e8 : w1.cell? ⟨w.heap.size, 8, none⟩ = some (.int .i64 (n : Nat)) := by simp [World.cell?, q0]
  clear hb1 q0
  cases al with
  | true =>
    obtain rfl := VT.out rfl
    have m3 : ¬ (9223372036854775807 < 6 + sf.size) := by omega
    have m5 : ¬ (9223372036854775807 < 6 + sf.size + (1 + Y.size)) := by omega
    clear VT VF
    go_wp2_with fail
    refine (HY.out _).mono ?_
    rintro e wy ⟨rfl, hk'⟩
    have BY := hide (B1.out.trans (hk'.mono B1.out.size))
    have y7 := (hk'.cell (p := ⟨w.heap.size, 7, none⟩) (lt_of_cell e7)).trans e7
    have y8 := (hk'.cell (p := ⟨w.heap.size, 8, none⟩) (lt_of_cell e8)).trans e8
    clear hk'
    go_wp2_with fail
    go_ret2
    exact ⟨rfl, BY.out⟩
  | false =>
    obtain rfl := VF.out rfl
    have m3 : ¬ (9223372036854775807 < 5 + sf.size) := by omega
    have m5 : ¬ (9223372036854775807 < 5 + sf.size + (1 + Y.size)) := by omega
    clear VT VF
    go_wp2_with fail
    refine (HY.out _).mono ?_
    rintro e wy ⟨rfl, hk'⟩
    have BY := hide (B1.out.trans (hk'.mono B1.out.size))
    have y7 := (hk'.cell (p := ⟨w.heap.size, 7, none⟩) (lt_of_cell e7)).trans e7
    have y8 := (hk'.cell (p := ⟨w.heap.size, 8, none⟩) (lt_of_cell e8)).trans e8
    clear hk'
    go_wp2_with fail
    go_ret2
    exact ⟨rfl, BY.out⟩
set_option maxRecDepth 100000 in
set_option maxHeartbeats 2000000 in
theorem rPrint_suf2 (al : Bool) (a0 a1 a2 a3 : Nat) (x n m : Nat) (sf : ByteArray) (w : World) (V : ByteArray) (hVal : V = strN ((if al = true then allowT else denyT) ++ [32])) (hx : x ≤ 32) (hn : n ≤ 65535) (hmm : m ≤ 65535) (hne : n ≠ m) (hs0 : sf ≠ ⟨#[]⟩) (hss : sf.size ≤ 253)
    (HIR : Hid (∀ W, Calls Tryz.prog 22 #[.agg #[.bool al, .int .u8 (a0 : Nat), .int .u8 (a1 : Nat), .int .u8 (a2 : Nat), .int .u8 (a3 : Nat), .int .i64 (x : Nat), .string sf, .int .i64 (n : Nat), .int .i64 (m : Nat)]] W fun e w' => e = .returned (.bool true) ∧ Below W.heap.size W w')) :
    Calls Tryz.prog 16 #[.agg #[.bool al, .int .u8 (a0 : Nat), .int .u8 (a1 : Nat), .int .u8 (a2 : Nat), .int .u8 (a3 : Nat), .int .i64 (x : Nat), .string sf, .int .i64 (n : Nat), .int .i64 (m : Nat)]] w fun e w' => e = .returned (.tuple #[.string (V ++ sf ++ (⟨#[32]⟩ ++ strN (dec n)) ++ (⟨#[45]⟩ ++ strN (dec m))), .int .i64 0]) ∧ Below w.heap.size w w' := by
  obtain ⟨Y, hY⟩ : ∃ Y, Y = strN (dec n) := ⟨_, rfl⟩
  have hYs : Y.size ≤ 5 := by rw [hY, strN_size]; exact dec_len (by omega)
  have HY : Hid (∀ W, Calls Tryz.prog 33 #[.int .i64 (n : Int)] W fun e w' => e = .returned (.string Y) ∧ Below W.heap.size W w') := fun W => by rw [hY]; exact ritoa_at n W (by omega)
  rw [← hY]
  clear hY
  obtain ⟨Z, hZ⟩ : ∃ Z, Z = strN (dec m) := ⟨_, rfl⟩
  have hZs : Z.size ≤ 5 := by rw [hZ, strN_size]; exact dec_len (by omega)
  have HZ : Hid (∀ W, Calls Tryz.prog 33 #[.int .i64 (m : Int)] W fun e w' => e = .returned (.string Z) ∧ Below W.heap.size W w') := fun W => by rw [hZ]; exact ritoa_at m W (by omega)
  rw [← hZ]
  clear hZ
  have n4 : ¬ (9223372036854775807 < 1 + Y.size) := by omega
  have n6 : ¬ (9223372036854775807 < 1 + Z.size) := by omega
  have g1 : ((m : Int) == (n : Int)) = false := by simp; omega
  have g2 : sf.toList.isEmpty = false := by rw [isEmpty_byt]; exact decide_eq_false (fun e => hs0 (by rw [← strN_byt sf, e]; rfl))
  obtain ⟨w0, hw0⟩ : ∃ w0, w0 = w.alloc (.cells #[.bool al, .int .u8 (a0 : Nat), .int .u8 (a1 : Nat), .int .u8 (a2 : Nat), .int .u8 (a3 : Nat), .int .i64 (x : Nat), .string sf, .int .i64 (n : Nat), .int .i64 (m : Nat)] 37) := ⟨_, rfl⟩
  have B0 : Hid (Below w.heap.size w w0) := by rw [hw0]; exact (Below.refl _ _).alloc (Nat.le_refl _) _
  have r0 : Hid (w0.heap[w.heap.size]? = some (.cells #[.bool al, .int .u8 (a0 : Nat), .int .u8 (a1 : Nat), .int .u8 (a2 : Nat), .int .u8 (a3 : Nat), .int .i64 (x : Nat), .string sf, .int .i64 (n : Nat), .int .i64 (m : Nat)] 37)) := by rw [hw0]; exact alloc_new _ _
  have HW0 := hide hw0
  clear hw0
  have VF : Hid (al = false → V = ⟨#[100, 101, 110, 121, 32]⟩) := fun e => by rw [hVal, e]; rfl
  have VT : Hid (al = true → V = ⟨#[97, 108, 108, 111, 119, 32]⟩) := fun e => by rw [hVal, e]; rfl
  clear hVal
  go_enter Tryz.func16, Tryz.ntmps16
  go_wp2_with (first | (rw [← HW0.out]; refine wpList_load_row rfl 37 _ rfl w.heap.size rfl 37 _ (0, 0) _ r0.out Tryz.underlyingT_Rule rfl infoRu ?_))
  rw [← HW0.out]
  refine (HIR.out _).mono ?_
  rintro e w1 ⟨rfl, hb1⟩
  have q0 := keepB hb1 r0.out
  have B1 := hide (B0.out.trans (hb1.mono B0.out.size))
  have e0 : w1.cell? ⟨w.heap.size, 0, none⟩ = some (.bool al) := by simp [World.cell?, q0]
  have e1 : w1.cell? ⟨w.heap.size, 1, none⟩ = some (.int .u8 (a0 : Nat)) := by simp [World.cell?, q0]
  have e2 : w1.cell? ⟨w.heap.size, 2, none⟩ = some (.int .u8 (a1 : Nat)) := by simp [World.cell?, q0]
  have e3 : w1.cell? ⟨w.heap.size, 3, none⟩ = some (.int .u8 (a2 : Nat)) := by simp [World.cell?, q0]
  have e4 : w1.cell? ⟨w.heap.size, 4, none⟩ = some (.int .u8 (a3 : Nat)) := by simp [World.cell?, q0]
  have e5 : w1.cell? ⟨w.heap.size, 5, none⟩ = some (.int .i64 (x : Nat)) := by simp [World.cell?, q0]
  have e6 : w1.cell? ⟨w.heap.size, 6, none⟩ = some (.string sf) := by simp [World.cell?, q0]
  have e7 : w1.cell? ⟨w.heap.size, 7, none⟩ = some (.int .i64 (n : Nat)) := by simp [World.cell?, q0]
  have e8 : w1.cell? ⟨w.heap.size, 8, none⟩ = some (.int .i64 (m : Nat)) := by simp [World.cell?, q0]
  clear hb1 q0
  cases al with
  | true =>
    obtain rfl := VT.out rfl
    have m3 : ¬ (9223372036854775807 < 6 + sf.size) := by omega
    have m5 : ¬ (9223372036854775807 < 6 + sf.size + (1 + Y.size)) := by omega
    have m7 : ¬ (9223372036854775807 < 6 + sf.size + (1 + Y.size) + (1 + Z.size)) := by omega
    clear VT VF
    go_wp2_with fail
    refine (HY.out _).mono ?_
    rintro e wy ⟨rfl, hk'⟩
    have BY := hide (B1.out.trans (hk'.mono B1.out.size))
    have y7 := (hk'.cell (p := ⟨w.heap.size, 7, none⟩) (lt_of_cell e7)).trans e7
    have y8 := (hk'.cell (p := ⟨w.heap.size, 8, none⟩) (lt_of_cell e8)).trans e8
    clear hk'
    go_wp2_with fail
    refine (HZ.out _).mono ?_
    rintro e wz ⟨rfl, hk'⟩
    have BZ := hide (BY.out.trans (hk'.mono BY.out.size))
    clear hk'
    go_wp2_with fail
    go_ret2
    exact ⟨rfl, BZ.out⟩
  | false =>
    obtain rfl := VF.out rfl
    have m3 : ¬ (9223372036854775807 < 5 + sf.size) := by omega
    have m5 : ¬ (9223372036854775807 < 5 + sf.size + (1 + Y.size)) := by omega
    have m7 : ¬ (9223372036854775807 < 5 + sf.size + (1 + Y.size) + (1 + Z.size)) := by omega
    clear VT VF
    go_wp2_with fail
    refine (HY.out _).mono ?_
    rintro e wy ⟨rfl, hk'⟩
    have BY := hide (B1.out.trans (hk'.mono B1.out.size))
    have y7 := (hk'.cell (p := ⟨w.heap.size, 7, none⟩) (lt_of_cell e7)).trans e7
    have y8 := (hk'.cell (p := ⟨w.heap.size, 8, none⟩) (lt_of_cell e8)).trans e8
    clear hk'
    go_wp2_with fail
    refine (HZ.out _).mono ?_
    rintro e wz ⟨rfl, hk'⟩
    have BZ := hide (BY.out.trans (hk'.mono BY.out.size))
    clear hk'
    go_wp2_with fail
    go_ret2
    exact ⟨rfl, BZ.out⟩
set_option maxRecDepth 100000 in
set_option maxHeartbeats 2000000 in
theorem rPrint_at (r : Ru) (w : World) (hr : r.ok) : Calls Tryz.prog 16 #[.agg (ruC r).toArray] w fun e w' => e = .returned (.tuple #[.string (strN (prtT r)), .int .i64 (prtE r : Nat)]) ∧ Below w.heap.size w w' := by
  have HIR : Hid (∀ W, Calls Tryz.prog 22 #[.agg (ruC r).toArray] W fun e w' => e = .returned (.bool r.right) ∧ Below W.heap.size W w') := fun W => rrule_at r W hr
  cases hg : r.right with
  | false =>
    rw [hg] at HIR
    rw [show prtT r = [] by unfold prtT; rw [hg]; rfl, show prtE r = 120 by unfold prtE; rw [hg]; rfl]
    clear hr hg
    obtain ⟨al, ⟨a0, a1, a2, a3⟩, bt, sf, lw, hg⟩ := r
    simp only [ruC] at HIR ⊢
    obtain ⟨w0, hw0⟩ : ∃ w0, w0 = w.alloc (.cells #[.bool al, .int .u8 (a0 : Nat), .int .u8 (a1 : Nat), .int .u8 (a2 : Nat), .int .u8 (a3 : Nat), .int .i64 bt, .string sf, .int .i64 lw, .int .i64 hg] 37) := ⟨_, rfl⟩
    have B0 : Hid (Below w.heap.size w w0) := by rw [hw0]; exact (Below.refl _ _).alloc (Nat.le_refl _) _
    have HW0 := hide hw0
    clear hw0
    go_enter Tryz.func16, Tryz.ntmps16
    go_wp2_with fail
    rw [← HW0.out]
    refine (HIR.out _).mono ?_
    rintro e w1 ⟨rfl, hb1⟩
    go_wp2_with fail
    go_ret2
    exact ⟨rfl, B0.out.trans (hb1.mono B0.out.size)⟩
  | true =>
    obtain ⟨q1, q2, q3, hpt⟩ := right_parts hg
    have ha := hr.net
    rw [hg] at HIR
    rw [show prtT r = prt r by unfold prtT; rw [hg]; rfl, show prtE r = 0 by unfold prtE; rw [hg]; rfl]
    clear hr hg
    obtain ⟨al, ⟨a0, a1, a2, a3⟩, bt, sf, lw, hg⟩ := r
    simp only at q1 q2 q3 hpt ha
    simp only [ruC] at HIR ⊢
    obtain ⟨n, rfl⟩ : ∃ n : Nat, lw = n := ⟨lw.toNat, by omega⟩
    obtain ⟨m, rfl⟩ : ∃ m : Nat, hg = m := ⟨hg.toNat, by omega⟩
    rcases hpt with ⟨hs, b1, b2⟩ | ⟨hs, b1, b2, b3⟩
    · obtain ⟨x, rfl⟩ : ∃ x : Nat, bt = x := ⟨bt.toNat, by omega⟩
      obtain rfl : sf = ⟨#[]⟩ := by rw [← strN_byt sf, hs]; rfl
      by_cases hnm : n = m
      · subst hnm
        refine (rPrint_net1 al a0 a1 a2 a3 x n w _ rfl (by omega) (by omega) ha HIR).mono ?_
        rintro e w' ⟨rfl, hb⟩
        refine ⟨?_, hb⟩
        rw [show (⟨#[32]⟩ : ByteArray) = strN [32] from rfl, show (⟨#[47]⟩ : ByteArray) = strN [47] from rfl]
        simp only [← strN_append]
        simp [prt, verT, tarT, porT, show byt (⟨#[]⟩ : ByteArray) = [] from rfl]
      · refine (rPrint_net2 al a0 a1 a2 a3 x n m w _ rfl (by omega) (by omega) (by omega) hnm ha HIR).mono ?_
        rintro e w' ⟨rfl, hb⟩
        refine ⟨?_, hb⟩
        rw [show (⟨#[32]⟩ : ByteArray) = strN [32] from rfl, show (⟨#[47]⟩ : ByteArray) = strN [47] from rfl, show (⟨#[45]⟩ : ByteArray) = strN [45] from rfl]
        simp only [← strN_append]
        have hnm' : ¬ ((n : Int) = (m : Int)) := by omega
        simp [prt, verT, tarT, porT, show byt (⟨#[]⟩ : ByteArray) = [] from rfl]
        rw [if_neg hnm']
    · subst b1
      have hss : sf.size ≤ 253 := by rw [← byt_length]; exact (name_ok b3).1
      have hs0 : sf ≠ ⟨#[]⟩ := fun e => hs (by rw [e]; rfl)
      have hsb : sf = strN (byt sf) := (strN_byt sf).symm
      by_cases hnm : n = m
      · subst hnm
        refine (rPrint_suf1 al a0 a1 a2 a3 0 n sf w _ rfl (by omega) (by omega) hs0 hss HIR).mono ?_
        rintro e w' ⟨rfl, hb⟩
        refine ⟨?_, hb⟩
        rw [show (⟨#[32]⟩ : ByteArray) = strN [32] from rfl]
        conv => lhs; rw [hsb]
        simp only [← strN_append]
        simp [prt, verT, tarT, porT, hs]
      · refine (rPrint_suf2 al a0 a1 a2 a3 0 n m sf w _ rfl (by omega) (by omega) (by omega) hnm hs0 hss HIR).mono ?_
        rintro e w' ⟨rfl, hb⟩
        refine ⟨?_, hb⟩
        rw [show (⟨#[32]⟩ : ByteArray) = strN [32] from rfl, show (⟨#[45]⟩ : ByteArray) = strN [45] from rfl]
        conv => lhs; rw [hsb]
        simp only [← strN_append]
        have hnm' : ¬ ((n : Int) = (m : Int)) := by omega
        simp [prt, verT, tarT, porT, hs]
        rw [if_neg hnm']
end Go.Proofs.YtiejandeoopiiaaGreatDoor
