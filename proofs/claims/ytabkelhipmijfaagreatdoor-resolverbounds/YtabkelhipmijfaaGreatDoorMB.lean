/-
  The reader of messages: a message is opened; conditions as each theorem has them.
-/
import Derived.Test.YtabkelhipmijfaaGreatDoorJoined4
set_option linter.unusedSimpArgs false
set_option linter.unusedVariables false
namespace Go.Proofs.YtabkelhipmijfaaGreatDoor
open Go.RowKit
theorem info79 : (Tryz.prog.info? 148).map (·.size) = some 3 := by kernel_rfl
set_option maxRecDepth 100000 in
set_option maxHeartbeats 2000000 in
theorem open_at (a : Option Addr) (n c : Nat) (b : List Nat) (w : World) (h : Src w a n c b) :
    Calls Tryz.prog 82 #[.slice a n c] w fun e w' => ∃ v, e = .returned (.agg #[.slice a n c, .int .i64 0, v]) ∧ IsF w' (opn b).2 v ∧ Below w.heap.size w w' := by
  have hln := h.hlen
  obtain ⟨W0, hW0⟩ : ∃ W0, W0 = w.alloc (.cells #[.slice none 0 0, .int .i64 0, .nilIface] 148) := ⟨_, rfl⟩
  have r0 : Row W0 w.heap.size 148 [.slice none 0 0, .int .i64 0, .nilIface] := by rw [hW0]; exact Row.new w _ 148
  have b0 : Below w.heap.size w W0 := by rw [hW0]; exact (Below.refl _ _).alloc (Nat.le_refl _) _
  have hs0 : W0.heap.size = w.heap.size + 1 := by rw [hW0]; simp
  obtain ⟨W1, hW1⟩ : ∃ W1, W1 = W0.alloc (.cells #[.slice a n c, .int .i64 0, .nilIface] 148) := ⟨_, rfl⟩
  have r1 : Row W1 (w.heap.size + 1) 148 [.slice a n c, .int .i64 0, .nilIface] := by rw [hW1, ← hs0]; exact Row.new W0 _ 148
  have b1 : Below w.heap.size w W1 := by rw [hW1]; exact b0.alloc (by omega) _
  have r01 : Row W1 w.heap.size 148 [.slice none 0 0, .int .i64 0, .nilIface] := by rw [hW1]; exact r0.alloc _
  have hr : Rdr W1 (w.heap.size + 1) 148 [] a n c b (0, .ok) := ⟨⟨.nilIface, r1, rfl⟩, h.below b1, (h.off (by omega)), by decide, by decide⟩
  have HW1 : Hid ((w.alloc (.cells #[.slice none 0 0, .int .i64 0, .nilIface] 148)).alloc (.cells #[.slice a n c, .int .i64 0, .nilIface] 148) = W1) := by show _ = _; rw [hW1, hW0]
  have B1 := hide b1
  by_cases hbig : 512 < n
  · have HO : Hid (opn b = (0, .one 512 3)) := by show _ = _; rw [opn, if_pos (by omega)]
    have d1 : decide (512 < (n : Int)) = true := decide_eq_true (by omega)
    have d1' : decide (512 < n) = true := decide_eq_true hbig
    have HST := hide (stop_at (w.heap.size + 1) 148 [] a n c b (0, .ok) 512 512 3 _ hr (fun _ => by omega))
    rw [show ((3 : Nat) : Int) = 3 from rfl, show stp 512 3 (0, Er.ok) = (0, .one 512 3) by unfold stp; rw [if_pos rfl]] at HST
    rw [HO.out]
    have HG := hide r1.lt
    have R01 := hide r01
    clear h hr r1 b1 hbig hW1 hW0 r0 b0 r01
    go_enter Tryz.func82, Tryz.ntmps82
    go_wp2_with fail
    rw [HW1.out]
    refine HST.out.mono ?_
    rintro e w2 ⟨rfl, rd2, k2⟩
    obtain ⟨⟨v2, p2, i2⟩, _⟩ := rd2
    have q2 := R01.out.kept k2 (by omega) (by omega)
    have I2 := hide i2
    obtain ⟨x2, rfl⟩ := i2.ptr (by simp)
    have c0 : w2.cell? ⟨w.heap.size + 1, 0, none⟩ = some (.slice a n c) := p2.cell 0
    have c1 : w2.cell? ⟨w.heap.size + 1, 1, none⟩ = some (.int .i64 0) := p2.cell 1
    have c2 : w2.cell? ⟨w.heap.size + 1, 2, none⟩ = some (.iface 156 (.pointer (some ⟨x2, 0, none⟩))) := p2.cell 2
    have hg2 := p2.lt
    have e0 : w2.cell? ⟨w.heap.size, 0, none⟩ = some (.slice none 0 0) := q2.cell 0
    have e1 : w2.cell? ⟨w.heap.size, 1, none⟩ = some (.int .i64 0) := q2.cell 1
    have e2 : w2.cell? ⟨w.heap.size, 2, none⟩ = some .nilIface := q2.cell 2
    have f0 := q2.frozen 0
    have f1 := q2.frozen 1
    have f2 := q2.frozen 2
    have Q2 := hide q2
    have B2 : Hid (Below w.heap.size w w2) := B1.out.trans (k2.below (by omega) (by omega) (by have := HG.out; omega))
    have HSR : Hid (W1.heap.size ≤ w2.heap.size) := k2.size
    clear p2 i2 k2 HST q2
    go_wp2_with fail
    have HROW : Hid (Row (((w2.setCell ⟨w.heap.size, 0, none⟩ (.slice a n c)).setCell ⟨w.heap.size, 1, none⟩ (.int .i64 0)).setCell ⟨w.heap.size, 2, none⟩ (.iface 156 (.pointer (some ⟨x2, 0, none⟩)))) w.heap.size 148 [.slice a n c, .int .i64 0, .iface 156 (.pointer (some ⟨x2, 0, none⟩))]) := by show Row _ _ _ _; simpa using ((Q2.out.set 0 (.slice a n c)).set 1 (.int .i64 0)).set 2 (.iface 156 (.pointer (some ⟨x2, 0, none⟩)))
    refine bodyPost_ret (results_cell_row rfl _ _ w.heap.size 148 #[.slice a n c, .int .i64 0, .iface 156 (.pointer (some ⟨x2, 0, none⟩))] (0, 0) _ rfl HROW.out Tryz.underlying148 rfl info79) rfl ?_
    refine ⟨_, rfl, I2.out.kept Q2.out (by decide) ((((Kept.refl _ _ _).set 0 _).set 1 _).set 2 _), ?_⟩
    exact ((B2.out.setCell (Nat.le_refl _) _).setCell (Nat.le_refl _) _).setCell (Nat.le_refl _) _
  · have HO : Hid (opn b = (0, .ok)) := by show _ = _; rw [opn, if_neg (by omega)]
    have d1 : decide (512 < (n : Int)) = false := decide_eq_false (by omega)
    have d1' : decide (512 < n) = false := decide_eq_false hbig
    rw [HO.out]
    clear h hr r1 b1 hbig hW1 hW0 r0 b0 r01
    go_enter Tryz.func82, Tryz.ntmps82
    go_wp2_with fail
    go_returns
    exact ⟨_, rfl, rfl, ((Below.refl _ _).alloc (Nat.le_refl _) _).alloc (by simp) _⟩
end Go.Proofs.YtabkelhipmijfaaGreatDoor
