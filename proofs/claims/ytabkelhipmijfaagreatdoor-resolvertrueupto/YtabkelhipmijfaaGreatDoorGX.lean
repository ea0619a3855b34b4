/-
  The chapter's example ('works' of the statements); conditions as each theorem has them.
-/
import Derived.Test.YtabkelhipmijfaaGreatDoorGW
set_option linter.unusedSimpArgs false
set_option linter.unusedVariables false
namespace Go.Proofs.YtabkelhipmijfaaGreatDoor
open Go.RowKit

theorem vars_pos {w : World} (h : Vars w) : 0 < w.heap.size := by
  obtain ⟨m, hm⟩ := h
  simpa using Nm.lt_of_cell hm
theorem kept_cell {F : Nat → Prop} {w w' : World} (k : KeptS F w w') {b o : Nat} {v : Value} (h : w.cell? ⟨b, o, none⟩ = some v) (hF : ¬ F b) : w'.cell? ⟨b, o, none⟩ = some v := (World.cell?_of_block (k.block b (by simpa using Nm.lt_of_cell h) hF)).trans h
theorem kept_below {B : Nat} {F : Nat → Prop} {w0 w w' : World} (hb : Below B w0 w) (k : KeptS F w w') (hB : B ≤ w.heap.size) (hF : ∀ x, F x → B ≤ x) : Below B w0 w' := hb.trans (k.below hB hF)
set_option maxRecDepth 100000 in
set_option maxHeartbeats 4000000 in
theorem works_at (w : World) (hV : Vars w) : Calls Tryz.prog 26 #[] w fun e w' => e = .returned (.bool true) ∧ Below w.heap.size w w' := by
  have hp := vars_pos hV
  obtain ⟨B, hB⟩ : ∃ B, B = w.heap.size := ⟨_, rfl⟩
  have HN := hide (new_F (F := fun k => B ≤ k) 4 2 w (fun k hk => by omega) (by omega) (by omega) (by omega))
  rw [show ((4 : Nat) : Int) = 4 from rfl, show ((2 : Nat) : Int) = 2 from rfl] at HN
  have HB := hide hB
  have HV := hide hV
  have HP0 := hide hp
  rw [← hB]
  clear hV hp hB
  go_enter Tryz.func26, Tryz.ntmps26
  go_wp2_with fail
  refine HN.out.mono ?_
  rintro e w1 ⟨r, rfl, p1, k1⟩
  have P1 := hide p1
  have K1 : Hid (Below B w w1) := by rw [HB.out]; exact k1
  have V1 := hide (HV.out.below k1)
  have S1 : Hid (B ≤ w1.heap.size) := by rw [HB.out]; exact k1.size
  have HA := hide (ask_F P1.out (fun k hk => by have := S1.out; omega) V1.out (by have := HB.out; have := HP0.out; omega) 0 7 ab (by decide) (by simp [newR]))
  obtain ⟨a1, a2, a3, a4⟩ := w_ask
  rw [a1, a2, a3, a4] at HA
  clear p1 k1 a1 a2 a3 a4
  go_wp2_with fail
  refine HA.out.mono ?_
  rintro e w2 ⟨v, rfl, ho, p2, k2⟩
  obtain ⟨va, vc, rfl⟩ := ho.shape
  have P2 := hide p2
  have K2 : Hid (Below B w w2) := kept_below K1.out k2 S1.out (fun x hx => hx)
  have S2 : Hid (B ≤ w2.heap.size) := Nat.le_trans S1.out k2.size
  have V2 : Hid (Vars w2) := Vars.keptS V1.out k2 (by have := HB.out; have := HP0.out; omega)
  have HPO := hide (posts_F P2.out)
  clear ho p2 k2
  go_wp2_with fail
  refine HPO.out.mono ?_
  rintro e w3 ⟨pa, pc, rfl, sp, p3, k3⟩
  obtain ⟨e1, x, rfl, hc1, hc2, d, cd, cx, hcd1, hcd2, cdd, ⟨curx, hx⟩, ⟨curd, hd⟩⟩ := SrcP.byte (l := pst 7) sp (by decide)
  have P3 : Hid (PF (fun k => B ≤ k ∧ k ≠ x ∧ k ≠ d) w3 r (w1R 4 2)) := PF.mono (R := w1R 4 2) p3 (fun k _ hk => ⟨hk.1, fun e => by
    subst e
    obtain ⟨cs, ty, f, h1, h2, h3⟩ := hk.2
    rw [hx] at h1
    simp at h1
    exact h2 h1.2.1.symm, fun e => by
    subst e
    obtain ⟨cs, ty, f, h1, h2, h3⟩ := hk.2
    rw [hd] at h1
    simp at h1
    exact h3 h1.2.1.symm⟩)
  have lx := Nm.lt_of_some hx
  have ld := Nm.lt_of_some hd
  have CX := hide cx
  have CD := hide cdd
  have LX := hide (And.intro lx ld)
  have K3 : Hid (Below B w w3) := kept_below K2.out k3 S2.out (fun x hx => hx)
  have S3 : Hid (B ≤ w3.heap.size) := Nat.le_trans S2.out k3.size
  have V3 : Hid (Vars w3) := Vars.keptS V2.out k3 (by have := HB.out; have := HP0.out; omega)
  have hF3 : ∀ W : World, w3.heap.size ≤ W.heap.size → ∀ k, W.heap.size ≤ k → B ≤ k ∧ k ≠ x ∧ k ≠ d := fun W hW k hk => by have := S3.out; have := LX.out; omega
  have HF3 := hide hF3
  have HS3 := hide (step_F P3.out (HF3.out w3 (Nat.le_refl _)) V3.out (fun e => by have := e.1; have := HB.out; have := HP0.out; omega) 3 8 (by simp [w1R]))
  obtain ⟨b1, b2⟩ := w_st3
  rw [b1, b2, w_now.1] at HS3
  clear sp p3 k3 e1 hx hd lx ld cx cdd hF3 b1 b2
  go_wp2_with fail
  refine HS3.out.mono ?_
  rintro e w4 ⟨rfl, p4, k4⟩
  have P4 := hide p4
  have C4 : Hid (w4.cell? ⟨x, 0, none⟩ = some (.slice (some ⟨d, 0, none⟩) (pst 7).length cd) ∧ w4.cell? ⟨d, 1, none⟩ = some (.int .u8 ((pst 7).getD 1 0 : Nat))) := ⟨kept_cell k4 CX.out (fun e => e.2.1 rfl), kept_cell k4 CD.out (fun e => e.2.2 rfl)⟩
  have K4 : Hid (Below B w w4) := kept_below K3.out k4 S3.out (fun x hx => hx.1)
  have S4 : Hid (B ≤ w4.heap.size ∧ w3.heap.size ≤ w4.heap.size) := ⟨Nat.le_trans S3.out k4.size, k4.size⟩
  have V4 : Hid (Vars w4) := Vars.keptS V3.out k4 (fun e => by have := e.1; have := HB.out; have := HP0.out; omega)
  have HS4 := hide (step_F P4.out (HF3.out w4 S4.out.2) V4.out (fun e => by have := e.1; have := HB.out; have := HP0.out; omega) 4 8 (by simp [w1R]))
  obtain ⟨b1, b2⟩ := w_st4
  rw [b1, b2, w_now.2] at HS4
  clear p4 k4 b1 b2
  go_wp2_with fail
  refine HS4.out.mono ?_
  rintro e w5 ⟨rfl, p5, k5⟩
  have P5 := hide p5
  have C5 : Hid (w5.cell? ⟨x, 0, none⟩ = some (.slice (some ⟨d, 0, none⟩) (pst 7).length cd) ∧ w5.cell? ⟨d, 1, none⟩ = some (.int .u8 ((pst 7).getD 1 0 : Nat))) := ⟨kept_cell k5 C4.out.1 (fun e => e.2.1 rfl), kept_cell k5 C4.out.2 (fun e => e.2.2 rfl)⟩
  have K5 : Hid (Below B w w5) := kept_below K4.out k5 S4.out.1 (fun x hx => hx.1)
  have S5 : Hid (B ≤ w5.heap.size) := Nat.le_trans S4.out.1 k5.size
  have HPO2 := hide (posts_F P5.out)
  clear p5 k5
  go_wp2_with fail
  refine HPO2.out.mono ?_
  rintro e w6 ⟨qa, qc, rfl, sp, p6, k6⟩
  obtain ⟨e1, x2, rfl, hd1, hd2, d2, cd2, cx2, hcd3, hcd4, cdd2, _, _⟩ := SrcP.byte (l := pst 8) sp (by decide)
  have P6 := hide p6
  have C6 : Hid (w6.cell? ⟨x, 0, none⟩ = some (.slice (some ⟨d, 0, none⟩) (pst 7).length cd) ∧ w6.cell? ⟨d, 1, none⟩ = some (.int .u8 ((pst 7).getD 1 0 : Nat))) := ⟨kept_cell k6 C5.out.1 (fun e => e.2.1 rfl), kept_cell k6 C5.out.2 (fun e => e.2.2 rfl)⟩
  have D6 := hide (And.intro cx2 cdd2)
  have K6 : Hid (Below B w w6) := kept_below K5.out k6 S5.out (fun x hx => hx.1)
  have S6 : Hid (B ≤ w6.heap.size) := Nat.le_trans S5.out k6.size
  have HAS := hide (asked_F P6.out)
  clear sp p6 k6 e1 cx2 cdd2
  go_wp2_with fail
  refine HAS.out.mono ?_
  rintro e w7 ⟨rfl, hq, p7, k7⟩
  obtain ⟨y0, y1⟩ := hq.cells (i := 0) (by decide)
  have z0 := (k7.cell (p := ⟨x, 0, none⟩) (Nm.lt_of_cell C6.out.1)).trans C6.out.1
  have z1 := (k7.cell (p := ⟨d, 1, none⟩) (Nm.lt_of_cell C6.out.2)).trans C6.out.2
  have z2 := (k7.cell (p := ⟨x2, 0, none⟩) (Nm.lt_of_cell D6.out.1)).trans D6.out.1
  have z3 := (k7.cell (p := ⟨d2, 1, none⟩) (Nm.lt_of_cell D6.out.2)).trans D6.out.2
  rw [show (pst 7).length = 21 from rfl] at z0
  rw [show (pst 7).getD 1 0 = 7 from rfl] at z1
  rw [show (pst 8).length = 21 from rfl] at z2
  rw [show (pst 8).getD 1 0 = 8 from rfl] at z3
  rw [Nat.zero_mul] at y0
  rw [Nat.zero_mul, Nat.zero_add] at y1
  have y0' : w7.cell? ⟨w6.heap.size, 0, none⟩ = some (.int .i64 8) := y0
  have y1' : w7.cell? ⟨w6.heap.size, 1, none⟩ = some (.string ⟨#[97, 46, 98]⟩) := y1
  have hK7 : Below B w w7 := K6.out.trans (k7.mono S6.out)
  have K7 := hide hK7
  have hlen : (w2R 4 2).qs.length = 1 := rfl
  have hm1 : maxLen = 9223372036854775807 := rfl
  rw [hm1] at hc2 hcd2 hd2 hcd4
  clear y0 y1 hq p7 k7 hK7 hm1
  go_wp2_with fail
  go_ret
  exact ⟨rfl, K7.out⟩

end Go.Proofs.YtabkelhipmijfaaGreatDoor
