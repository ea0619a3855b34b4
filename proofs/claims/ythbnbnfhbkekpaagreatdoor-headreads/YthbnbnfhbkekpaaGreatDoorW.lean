/-
  Wrap of the reference's base; conditions as each theorem has them.
-/
import Derived.Test.YthbnbnfhbkekpaaGreatDoorC
set_option linter.unusedSimpArgs false
set_option linter.unusedVariables false
namespace Go.Proofs.YthbnbnfhbkekpaaGreatDoor
open Go.RowKit

set_option maxRecDepth 100000 in
set_option maxHeartbeats 4000000 in
theorem wrapB_at (a b c : Nat) (w : World) : Calls Tryz.prog 53 #[.string ⟨#[104, 111, 115, 116]⟩, .int .i64 a, badV (.one b c)] w fun e w' => e = .returned (badV (.two a b c)) ∧ Below w.heap.size w w' := by
  simp only [badV]
  go_enter Tryz.func53, Tryz.ntmps53
  go_wp2_with fail
  refine wp_loop_rounds 2 ?_
  rw [rounds_succ]
  go_wp2_with fail
  go_region
  all_goals (try go_wp2_with fail)
  all_goals rw [rounds_succ]
  all_goals go_wp2_with fail
  all_goals go_returns
  all_goals refine ⟨rfl, ?_⟩
  all_goals (repeat (first | exact Below.refl _ _ | refine Below.drew ?_ | refine Below.setCell ?_ (by simp) _ | refine Below.alloc ?_ (by simp <;> omega) _))
end Go.Proofs.YthbnbnfhbkekpaaGreatDoor
