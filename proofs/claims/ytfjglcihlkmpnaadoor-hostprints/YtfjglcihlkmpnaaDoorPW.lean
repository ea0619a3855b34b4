/-
  HostPrints' walk; conditions as each theorem has them.
-/
import Derived.Test.YtfjglcihlkmpnaaDoorPR
set_option linter.unusedSimpArgs false
set_option linter.unusedVariables false
namespace Go.Proofs.YtfjglcihlkmpnaaDoor
open Go.RowKit

/-- The box of a destination, the tables. -/
structure PS (w0 : World) (a : Ad) (n : ByteArray) (p : Int) (W : World) : Prop where
  box : Bx6 W w0.heap.size a n p
  tabs : Tabs W
  pow : Pow W
  bel : Below w0.heap.size w0 W
theorem PS.below {w0 : World} {a : Ad} {n : ByteArray} {p : Int} {W W' : World} (h : PS w0 a n p W) (k : Below W.heap.size W W') : PS w0 a n p W' :=
  ⟨h.box.below k, h.tabs.below k, h.pow.below k, h.bel.trans (k.mono h.bel.size)⟩
theorem PS.drew {w0 : World} {a : Ad} {n : ByteArray} {p : Int} {W : World} (h : PS w0 a n p W) : PS w0 a n p W.drew :=
  ⟨⟨h.box.x0, h.box.x1, h.box.x2, h.box.x3, h.box.x4, h.box.x5⟩, ⟨h.tabs.v, h.tabs.e⟩, h.pow, ⟨h.bel.os, h.bel.tape, h.bel.output, h.bel.size, h.bel.block⟩⟩
set_option maxRecDepth 100000 in
set_option maxHeartbeats 8000000 in
theorem prints_walk (a : Ad) (n : ByteArray) (p : Int) (w : World) (hT : Tabs w) (hP : Pow w) (ha : a.ok) (hm : n.size ≤ maxLen) : Calls Tryd.prog 5 #[deV a n p] w fun e w' => e = .returned (.bool true) ∧ Below w.heap.size w w' := by
  obtain ⟨a0, a1, a2, a3⟩ := a
  obtain ⟨W0, hW0⟩ : ∃ W0, W0 = w.alloc (.cells #[.int .u8 (a0 : Nat), .int .u8 (a1 : Nat), .int .u8 (a2 : Nat), .int .u8 (a3 : Nat), .string n, .int .i64 p] 53) := ⟨_, rfl⟩
  have hb0 : Below w.heap.size w W0 := by rw [hW0]; exact (Below.refl _ _).alloc (Nat.le_refl _) _
  have L0 : Hid (PS w (a0, a1, a2, a3) n p W0) := ⟨by rw [hW0]; constructor <;> simp, hT.below hb0, hP.below hb0, hb0⟩
  have HW0 : Hid (w.alloc (.cells #[.int .u8 (a0 : Nat), .int .u8 (a1 : Nat), .int .u8 (a2 : Nat), .int .u8 (a3 : Nat), .string n, .int .i64 p] 53) = W0) := hW0.symm
  obtain ⟨R, hR⟩ : ∃ R, R = chk (a0, a1, a2, a3) (byt n) := ⟨_, rfl⟩
  obtain ⟨T, hTT⟩ : ∃ T, T = strN (hot (a0, a1, a2, a3) (byt n)) := ⟨_, rfl⟩
  obtain ⟨U, hU⟩ : ∃ U, U = strN (det (a0, a1, a2, a3) (byt n) p) := ⟨_, rfl⟩
  have C1 : Hid (∀ W, PS w (a0, a1, a2, a3) n p W → Calls Tryd.prog 21 #[.agg #[.int .u8 (a0 : Nat), .int .u8 (a1 : Nat), .int .u8 (a2 : Nat), .int .u8 (a3 : Nat), .string n]] W fun e w' => e = .returned (.bool R) ∧ Below W.heap.size W w') := fun W h => by rw [hR]; exact check_at (a0, a1, a2, a3) n W hm h.tabs.v
  have C2 : Hid (∀ W, PS w (a0, a1, a2, a3) n p W → Calls Tryd.prog 22 #[.agg #[.int .u8 (a0 : Nat), .int .u8 (a1 : Nat), .int .u8 (a2 : Nat), .int .u8 (a3 : Nat), .string n]] W fun e w' => e = .returned (.bool R) ∧ Below W.heap.size W w') := fun W h => by rw [hR]; exact rcheck_at (a0, a1, a2, a3) n W hm
  have C3 : Hid (∀ W, PS w (a0, a1, a2, a3) n p W → Calls Tryd.prog 23 #[.agg #[.int .u8 (a0 : Nat), .int .u8 (a1 : Nat), .int .u8 (a2 : Nat), .int .u8 (a3 : Nat), .string n]] W fun e w' => e = .returned (.string T) ∧ Below W.heap.size W w') := fun W h => by rw [hTT]; exact print_at (a0, a1, a2, a3) n W ha hm h.tabs.v h.pow
  have C4 : Hid (∀ W, PS w (a0, a1, a2, a3) n p W → Calls Tryd.prog 24 #[.agg #[.int .u8 (a0 : Nat), .int .u8 (a1 : Nat), .int .u8 (a2 : Nat), .int .u8 (a3 : Nat), .string n]] W fun e w' => e = .returned (.string T) ∧ Below W.heap.size W w') := fun W h => by rw [hTT]; exact rprint_at (a0, a1, a2, a3) n W ha hm
  have C5 : Hid (∀ W, PS w (a0, a1, a2, a3) n p W → Calls Tryd.prog 25 #[.agg #[.int .u8 (a0 : Nat), .int .u8 (a1 : Nat), .int .u8 (a2 : Nat), .int .u8 (a3 : Nat), .string n, .int .i64 p]] W fun e w' => e = .returned (.string U) ∧ Below W.heap.size W w') := fun W h => by rw [hU]; exact printDest_at (a0, a1, a2, a3) n p W ha hm h.tabs.v h.pow
  have C6 : Hid (∀ W, PS w (a0, a1, a2, a3) n p W → Calls Tryd.prog 26 #[.agg #[.int .u8 (a0 : Nat), .int .u8 (a1 : Nat), .int .u8 (a2 : Nat), .int .u8 (a3 : Nat), .string n, .int .i64 p]] W fun e w' => e = .returned (.string U) ∧ Below W.heap.size W w') := fun W h => by rw [hU]; exact rprintDest_at (a0, a1, a2, a3) n p W ha hm
  have C7 : Hid (∀ W, PS w (a0, a1, a2, a3) n p W → Calls Tryd.prog 16 #[] W fun e w' => e = .returned (.bool true) ∧ Below W.heap.size W w') := fun W h => by exact works_at W h.tabs
  have e1 : (R == R) = true := by simp
  have e2 : (T.toList == T.toList) = true := by simp
  have e3 : (U.toList == U.toList) = true := by simp
  simp only [deV]
  clear hT hP ha hm hR hTT hU hb0 hW0
  go_enter Tryd.func5, Tryd.ntmps5
  go_wp2_with fail
  rw [HW0.out]
  obtain ⟨x0, x1, x2, x3, x4, x5⟩ := L0.out.box
  simp only [] at x0 x1 x2 x3 x4 x5
  clear HW0
  have LD := hide L0.out.drew
  go_region_held3 (fun w' => w'.cell? ⟨w.heap.size, 0, none⟩ = some (.int .u8 (a0 : Nat)) ∧ w'.cell? ⟨w.heap.size, 1, none⟩ = some (.int .u8 (a1 : Nat)) ∧ w'.cell? ⟨w.heap.size, 2, none⟩ = some (.int .u8 (a2 : Nat)) ∧ w'.cell? ⟨w.heap.size, 3, none⟩ = some (.int .u8 (a3 : Nat)) ∧ w'.cell? ⟨w.heap.size, 4, none⟩ = some (.string n) ∧ w'.cell? ⟨w.heap.size, 5, none⟩ = some (.int .i64 p)) (go_keep) (first
    | (go_at_call 21; refine (C1.out _ (by exact LD.out)).mono ?_; rintro e v1 ⟨rfl, hk⟩; have hk' : Below W0.heap.size W0 v1 := ⟨hk.os, hk.tape, hk.output, hk.size, hk.block⟩; have L1 := hide (L0.out.below hk'); obtain ⟨p00, p01, p02, p03, p04, p05⟩ := L1.out.box; simp only [] at p00 p01 p02 p03 p04 p05; clear hk hk')
    | (go_at_call 22; refine (C2.out _ (by exact L1.out)).mono ?_; rintro e v2 ⟨rfl, hk⟩; have hk' : Below v1.heap.size v1 v2 := ⟨hk.os, hk.tape, hk.output, hk.size, hk.block⟩; have L2 := hide (L1.out.below hk'); obtain ⟨p10, p11, p12, p13, p14, p15⟩ := L2.out.box; simp only [] at p10 p11 p12 p13 p14 p15; clear hk hk')
    | (go_at_call 23; refine (C3.out _ (by exact L2.out)).mono ?_; rintro e v3 ⟨rfl, hk⟩; have hk' : Below v2.heap.size v2 v3 := ⟨hk.os, hk.tape, hk.output, hk.size, hk.block⟩; have L3 := hide (L2.out.below hk'); obtain ⟨p20, p21, p22, p23, p24, p25⟩ := L3.out.box; simp only [] at p20 p21 p22 p23 p24 p25; clear hk hk')
    | (go_at_call 24; refine (C4.out _ (by exact L3.out)).mono ?_; rintro e v4 ⟨rfl, hk⟩; have hk' : Below v3.heap.size v3 v4 := ⟨hk.os, hk.tape, hk.output, hk.size, hk.block⟩; have L4 := hide (L3.out.below hk'); obtain ⟨p30, p31, p32, p33, p34, p35⟩ := L4.out.box; simp only [] at p30 p31 p32 p33 p34 p35; clear hk hk')
    | (go_at_call 25; refine (C5.out _ (by exact L4.out)).mono ?_; rintro e v5 ⟨rfl, hk⟩; have hk' : Below v4.heap.size v4 v5 := ⟨hk.os, hk.tape, hk.output, hk.size, hk.block⟩; have L5 := hide (L4.out.below hk'); obtain ⟨p40, p41, p42, p43, p44, p45⟩ := L5.out.box; simp only [] at p40 p41 p42 p43 p44 p45; clear hk hk')
    | (go_at_call 26; refine (C6.out _ (by exact L5.out)).mono ?_; rintro e v6 ⟨rfl, hk⟩; have hk' : Below v5.heap.size v5 v6 := ⟨hk.os, hk.tape, hk.output, hk.size, hk.block⟩; have L6 := hide (L5.out.below hk'); obtain ⟨p50, p51, p52, p53, p54, p55⟩ := L6.out.box; simp only [] at p50 p51 p52 p53 p54 p55; clear hk hk')
    | (go_at_call 16; refine (C7.out _ (by exact L6.out)).mono ?_; rintro e v7 ⟨rfl, hk⟩; have hk' : Below v6.heap.size v6 v7 := ⟨hk.os, hk.tape, hk.output, hk.size, hk.block⟩; have L7 := hide (L6.out.below hk'); obtain ⟨p60, p61, p62, p63, p64, p65⟩ := L7.out.box; simp only [] at p60 p61 p62 p63 p64 p65; clear hk hk'))
  go_wp2_with fail
  go_ret
  exact ⟨rfl, L7.out.bel⟩
end Go.Proofs.YtfjglcihlkmpnaaDoor
