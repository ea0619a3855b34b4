/-
  The statements' own function told: where the ring and the reference ring hold the same it answers true; conditions as the theorem has them.
-/
import Derived.Test.YtfijoienicjilaaQ
set_option linter.unusedSimpArgs false
set_option linter.unusedVariables false
namespace Go.Proofs.Ytfijoienicjilaa
open Go.RowKit

set_option maxRecDepth 100000 in
set_option maxHeartbeats 2000000 in
theorem told_true (r g y n : Nat) (ic oc : Int) (q : List Int) (h : Nat) (v : Value) (w : World) (hr : IsRing w r g n ic oc q) (hy : IsRef w y n ic oc q h v) :
    Calls Try.prog 22 #[.pointer (some ⟨r, 0, none⟩), .pointer (some ⟨y, 0, none⟩)] w fun e w' => e = .returned (.bool true) ∧ ∃ k, w' = w.drewN k := by
  obtain ⟨a, cap, ev, _, _⟩ := hy.own.form
  subst ev
  have hmx := hy.max
  have hft := hy.fits
  have HR := hide hr
  have HY := hide hy
  clear hr hy
  go_enter Try.func22, Try.ntmps22
  go_wp2_with fail
  refine (moved_ring _ _ _ _ _ _ w HR.out).mono ?_
  rintro e w1 ⟨rfl, k1, hw1⟩
  have HW1 := hide hw1
  have HR1 : Hid (IsRing w1 r g n ic oc q) := HR.out.keep (by rw [hw1]; rfl) (by rw [hw1]; rfl)
  obtain ⟨c0, c1, c2, c3⟩ := rhd_cells (w := w1) (by rw [hw1]; exact HY.out.head)
  clear hw1
  go_wp2_with fail
  go_quiet (first
    | (go_at_call 24; exact len_ringD _ _ _ _ _ _ w1 HR1.out _)
    | (go_at_call 26; exact cap_ringD _ _ _ _ _ _ w1 HR1.out _)
    | (go_at_call 27; exact free_ringD _ _ _ _ _ _ w1 HR1.out _))
  go_wp2
  go_ret
  exact ⟨rfl, _, by rw [HW1.out, World.drewN_drewN]⟩

end Go.Proofs.Ytfijoienicjilaa
