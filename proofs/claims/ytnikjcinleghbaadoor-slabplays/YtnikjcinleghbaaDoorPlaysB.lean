/-
  SlabPlays where New refuses: the call answers true; no conditions but those in the theorem.
-/
import Derived.Test.YtnikjcinleghbaaDoorQ
set_option linter.unusedSimpArgs false
set_option linter.unusedVariables false
namespace Go.Proofs.YtnikjcinleghbaaDoor
open Go.RowKit

set_option maxRecDepth 100000 in
set_option maxHeartbeats 1000000 in
theorem plays_bad (a0 a1 : Int) (v2 : Value) (w : World) (h : a0 < 0 ∨ 4096 < a0 ∨ a1 < 0 ∨ 65536 < a1) :
    Calls Tryd.prog 3 #[.int .i64 a0, .int .i64 a1, v2] w fun e w' => e = .returned (.bool true) ∧ Below w.heap.size w w' := by
  have H := hide h
  clear h
  go_enter Tryd.func3, Tryd.ntmps3
  go_wp2_with fail
  refine (new_bad a0 a1 _ H.out).mono ?_
  rintro e u2 ⟨rfl, rfl⟩
  go_wp2_with fail
  refine (refnew_bad a0 a1 _ H.out).mono ?_
  rintro e u2 ⟨rfl, rfl⟩
  go_wp2_with fail
  go_ret
  exact ⟨rfl, Below.refl _ _⟩

set_option maxRecDepth 100000 in
set_option maxHeartbeats 1000000 in
theorem plays_great (b s : Nat) (v2 : Value) (w : World) (hb : b ≤ 4096) (hs : s ≤ 65536) (hg : 4194304 < b * s) :
    Calls Tryd.prog 3 #[.int .i64 b, .int .i64 s, v2] w fun e w' => e = .returned (.bool true) ∧ Below w.heap.size w w' := by
  have hm : b * s ≤ 4096 * 65536 := Nat.mul_le_mul hb hs
  have HG := hide hg
  have HM := hide hm
  clear hg hm
  go_enter Tryd.func3, Tryd.ntmps3
  go_wp2_with fail
  refine (new_great b s (b * s) _ hb hs (by simp) HG.out (by have := HM.out; omega)).mono ?_
  rintro e u2 ⟨rfl, rfl⟩
  go_wp2_with fail
  refine (refnew_great b s (b * s) _ hb hs (by simp) HG.out (by have := HM.out; omega)).mono ?_
  rintro e u2 ⟨rfl, rfl⟩
  go_wp2_with fail
  go_ret
  exact ⟨rfl, Below.refl _ _⟩

end Go.Proofs.YtnikjcinleghbaaDoor
