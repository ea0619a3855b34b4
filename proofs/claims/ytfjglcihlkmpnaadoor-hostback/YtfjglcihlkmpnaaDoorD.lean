/-
  Whether an error is what the reference tells; conditions as each theorem has them.
-/
import Derived.Test.YtfjglcihlkmpnaaDoorC
set_option linter.unusedSimpArgs false
set_option linter.unusedVariables false
namespace Go.Proofs.YtfjglcihlkmpnaaDoor
open Go.RowKit

theorem ta1 (v : Value) (w : World) : (Instr.typeAssert (.iface 96 v) 25 30 true).run Tryd.prog w = .ok (.tuple #[.int .i64 0, .bool false]) w := by kernel_rfl
theorem ta2 (v : Value) (w : World) : (Instr.typeAssert (.iface 96 v) 25 96 true).run Tryd.prog w = .ok (.tuple #[v, .bool true]) w := by kernel_rfl
theorem ta3 (v : Value) (w : World) : (Instr.typeAssert (.iface 30 v) 25 30 true).run Tryd.prog w = .ok (.tuple #[v, .bool true]) w := by kernel_rfl
theorem flt_cells {w : World} {b a : Nat} {e : Value} (h : w.heap[b]? = some (flt a e)) : w.cell? ⟨b, 0, none⟩ = some (.string ⟨#[104, 111, 115, 116]⟩) ∧ w.cell? ⟨b, 1, none⟩ = some (.int .i64 a) ∧ w.cell? ⟨b, 2, none⟩ = some e := by
  refine ⟨?_, ?_, ?_⟩ <;> simp [World.cell?, h, flt]

set_option maxRecDepth 100000 in
set_option maxHeartbeats 1000000 in
theorem of_nil (w : World) : Calls Tryd.prog 43 #[.nilIface] w fun e w' => e = .returned (.tuple #[badV .ok, .bool true]) ∧ Below w.heap.size w w' := by
  go_enter Tryd.func43, Tryd.ntmps43
  go_wp2_with fail
  refine wp_loop_rounds 1 ?_
  rw [rounds_succ]
  go_wp2_with fail
  go_region
  all_goals (try go_wp2)
  all_goals go_returns
  all_goals exact ⟨rfl, (((Below.refl _ _).alloc (Nat.le_refl _) _).alloc (by simp) _).drew⟩

set_option maxRecDepth 100000 in
set_option maxHeartbeats 2000000 in
theorem of_one (a c b : Nat) (w : World) (h : w.heap[b]? = some (flt a (.iface 30 (.int .i64 c)))) : Calls Tryd.prog 43 #[.iface 96 (.pointer (some ⟨b, 0, none⟩))] w fun e w' => e = .returned (.tuple #[badV (.one a c), .bool true]) ∧ Below w.heap.size w w' := by
  obtain ⟨c0, c1, c2⟩ := flt_cells h
  have hb := lt_of_some h
  have t1 := ta1
  have t2 := ta2
  have t3 := ta3
  clear h
  go_enter Tryd.func43, Tryd.ntmps43
  go_wp2_with fail
  refine wp_loop_rounds 2 ?_
  rw [rounds_succ]
  go_wp2_with fail
  go_region
  all_goals (try go_wp2_with fail)
  all_goals rw [rounds_succ]
  all_goals go_wp2_with fail
  go_region
  all_goals (try go_wp2)
  all_goals go_returns
  all_goals refine ⟨rfl, ?_⟩
  all_goals (repeat (first | exact Below.refl _ _ | refine Below.drew ?_ | refine Below.setCell ?_ (by simp) _ | refine Below.alloc ?_ (by simp) _))

set_option maxRecDepth 100000 in
set_option maxHeartbeats 4000000 in
theorem of_two (a a2 c b b2 : Nat) (w : World) (h : w.heap[b]? = some (flt a (.iface 96 (.pointer (some ⟨b2, 0, none⟩))))) (h2 : w.heap[b2]? = some (flt a2 (.iface 30 (.int .i64 c)))) : Calls Tryd.prog 43 #[.iface 96 (.pointer (some ⟨b, 0, none⟩))] w fun e w' => e = .returned (.tuple #[badV (.two a a2 c), .bool true]) ∧ Below w.heap.size w w' := by
  obtain ⟨c0, c1, c2⟩ := flt_cells h
  obtain ⟨e0, e1, e2⟩ := flt_cells h2
  have hb := lt_of_some h
  have hb2 := lt_of_some h2
  have t1 := ta1
  have t2 := ta2
  have t3 := ta3
  clear h h2
  go_enter Tryd.func43, Tryd.ntmps43
  go_wp2_with fail
  refine wp_loop_rounds 3 ?_
  rw [rounds_succ]
  go_wp2_with fail
  go_region
  all_goals (try go_wp2_with fail)
  all_goals rw [rounds_succ]
  all_goals go_wp2_with fail
  go_region
  all_goals (try go_wp2_with fail)
  all_goals rw [rounds_succ]
  all_goals go_wp2_with fail
  go_region
  all_goals (try go_wp2)
  all_goals go_returns
  all_goals refine ⟨rfl, ?_⟩
  all_goals (repeat (first | exact Below.refl _ _ | refine Below.drew ?_ | refine Below.setCell ?_ (by simp) _ | refine Below.alloc ?_ (by simp) _))

/-- 'Of' of an error that tells e. -/
theorem of_at (e : Er) (v : Value) (w : World) (h : IsEr w e v) : Calls Tryd.prog 43 #[v] w fun x w' => x = .returned (.tuple #[badV e, .bool true]) ∧ Below w.heap.size w w' := by
  cases e with
  | ok => subst h; exact of_nil w
  | one a c => obtain ⟨b, rfl, hb⟩ := h; exact of_one a c b w hb
  | two a a2 c => obtain ⟨b, b2, rfl, hb, hb2⟩ := h; exact of_two a a2 c b b2 w hb hb2
end Go.Proofs.YtfjglcihlkmpnaaDoor
