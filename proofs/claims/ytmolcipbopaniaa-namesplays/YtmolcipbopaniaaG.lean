/-
  Used of package names; conditions as each theorem has them.
-/
import Derived.Test.YtmolcipbopaniaaF
set_option linter.unusedSimpArgs false
set_option linter.unusedVariables false
namespace Go.Proofs.Ytmolcipbopaniaa
open Go.RowKit
theorem IsTab.cells {w : World} {r g : Nat} {L : List Sl} (h : IsTab w r g L) : w.cell? ⟨r, 0, none⟩ = some (.bool true) ∧ w.cell? ⟨r, 1, none⟩ = some (.slice (some ⟨g, 0, none⟩) L.length L.length) := thd_cells h.head
theorem IsTab.alloc {w : World} {r g : Nat} {L : List Sl} (h : IsTab w r g L) (o : Obj) : IsTab (w.alloc o) r g L := h.belowS ((Below.refl _ _).alloc (Nat.le_refl _) _)
set_option maxHeartbeats 1000000 in
theorem used_at (r g : Nat) (L : List Sl) (now : Int) (w : World) (h : IsTab w r g L) :
    Calls Try.prog 18 #[.pointer (some ⟨r, 0, none⟩), .int .i64 now] w fun x w' => x = .returned (.int .i64 (used L now : Nat)) ∧ Below w.heap.size w w' := by
  obtain ⟨c0, c1⟩ := h.cells
  obtain ⟨hlr, hlg⟩ := h.lt
  have HI := hide (isNow_at now w)
  have HM := hide (isMade_at r true _ c0)
  obtain ⟨N, hN⟩ : ∃ N, N = L.length := ⟨_, rfl⟩
  rw [← hN] at c1
  by_cases hb : badNow now
  · have HU : Hid (used L now = 0) := by show _ = _; unfold used; rw [if_pos hb]
    rw [show decide (¬ badNow now) = false by simp [hb]] at HI
    clear h hb c0 c1 hN
    go_enter Try.func18, Try.ntmps18
    go_wp2_with fail
    refine HM.out.mono ?_
    rintro e w1 ⟨rfl, rfl⟩
    go_wp2_with fail
    refine HI.out.mono ?_
    rintro e w1 ⟨rfl, rfl⟩
    go_wp2_with fail
    go_ret
    exact ⟨by rw [HU.out]; rfl, Below.refl _ _⟩
  · have HU : Hid (used L now = cnt L now N) := by show _ = _; unfold used; rw [if_neg hb, ← hN]
    rw [show decide (¬ badNow now) = true by simp [hb]] at HI
    have b1 : Below w.heap.size w (w.alloc (boxI now)) := (Below.refl _ _).alloc (Nat.le_refl _) _
    have HC : Hid (∀ n, Calls Try.prog 37 #[.slice (some ⟨g, 0, none⟩) N N, .func (.func 42) #[] #[.pointer (some ⟨w.heap.size, 0, none⟩)]] ((w.alloc (boxI now)).drewN n) fun e w' => e = .returned (.int .i64 (cnt L now N : Nat)) ∧ Below (w.heap.size + 1) (w.alloc (boxI now)) w') := fun n => by
      have := count_at g w.heap.size N L now ((w.alloc (boxI now)).drewN n) hN.symm (h.alloc _).row h.ok (by rw [hN]; exact h.max) (box_cell (alloc_new w _))
      refine this.mono ?_
      rintro e w' ⟨rfl, k⟩
      exact ⟨rfl, (below_drewN (Below.refl _ _) n).trans (k.mono (by simp))⟩
    have B1 := hide b1
    clear h hb c0 hN b1
    go_enter Try.func18, Try.ntmps18
    go_wp2_with fail
    refine HM.out.mono ?_
    rintro e w1 ⟨rfl, rfl⟩
    go_wp2_with fail
    refine HI.out.mono ?_
    rintro e w1 ⟨rfl, rfl⟩
    go_wp2_with fail
    go_region_with (first | (go_at_call 38; refine (holdsAt_at now _).mono ?_; rintro e w1 ⟨rfl, rfl⟩) | (go_at_call 37; refine (HC.out _).mono ?_; rintro e w2 ⟨rfl, k2⟩; have K2 := hide k2; clear k2))
    all_goals
      go_wp2_with fail
      go_ret
      exact ⟨by rw [HU.out]; rfl, by first | exact B1.out.trans (K2.out.mono (by omega)) | exact below_drewN (B1.out.trans (K2.out.mono (by omega))) _⟩
end Go.Proofs.Ytmolcipbopaniaa
