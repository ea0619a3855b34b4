/-
  Faults of package dns in memory, and what the reference's base tells of an error; conditions as each theorem has them.
-/
import Derived.Test.YtelfikbahcckaaaDoorC
import Derived.ChangeKeysEq
set_option linter.unusedSimpArgs false
set_option linter.unusedVariables false
namespace Go.Proofs.YtelfikbahcckaaaDoor
open Go.RowKit

/-- A fault of a layer in memory. -/
def fltL (L : ByteArray) (a : Nat) (e : Value) : Obj := .cells #[.string L, .int .i64 a, e] 89
theorem flt_L (a : Nat) (e : Value) : flt a e = fltL ⟨#[104, 111, 115, 116]⟩ a e := rfl
/-- The error value v tells e: a fault of package dns, with a fault of package host within. -/
def IsF (w : World) : Er → Value → Prop
  | .ok, v => v = .nilIface
  | .one a c, v => ∃ b, v = .iface 87 (.pointer (some ⟨b, 0, none⟩)) ∧ w.heap[b]? = some (fltL ⟨#[100, 110, 115]⟩ a (.iface 30 (.int .i64 c)))
  | .two a a2 c, v => ∃ b b2, v = .iface 87 (.pointer (some ⟨b, 0, none⟩)) ∧ w.heap[b]? = some (fltL ⟨#[100, 110, 115]⟩ a (.iface 87 (.pointer (some ⟨b2, 0, none⟩)))) ∧ w.heap[b2]? = some (fltL ⟨#[104, 111, 115, 116]⟩ a2 (.iface 30 (.int .i64 c)))
theorem IsF.keep {w w' : World} {e : Er} {v : Value} (h : IsF w e v) (k : ∀ (b : Nat) (C : Array Value), w.heap[b]? = some (.cells C 89) → w'.heap[b]? = w.heap[b]?) : IsF w' e v := by
  cases e with
  | ok => exact h
  | one a c =>
    obtain ⟨b, hv, hb⟩ := h
    exact ⟨b, hv, (k b _ hb).trans hb⟩
  | two a a2 c =>
    obtain ⟨b, b2, hv, hb, hb2⟩ := h
    exact ⟨b, b2, hv, (k b _ hb).trans hb, (k b2 _ hb2).trans hb2⟩
theorem IsF.below {w w' : World} {e : Er} {v : Value} (h : IsF w e v) (k : Below w.heap.size w w') : IsF w' e v := h.keep fun b C hb => k.block b (lt_of_some hb)
theorem IsF.nil {w : World} {e : Er} {v : Value} (h : IsF w e v) (he : e = .ok) : v = .nilIface := by subst he; exact h
theorem IsF.ptr {w : World} {e : Er} {v : Value} (h : IsF w e v) (he : e ≠ .ok) : ∃ b, v = .iface 87 (.pointer (some ⟨b, 0, none⟩)) := by
  cases e with
  | ok => exact absurd rfl he
  | one a c => obtain ⟨b, hv, _⟩ := h; exact ⟨b, hv⟩
  | two a a2 c => obtain ⟨b, b2, hv, _⟩ := h; exact ⟨b, hv⟩
/-- What the reference tells of it. -/
def badF : Er → Value
  | .ok => badV .ok
  | .one a c => .agg #[.int .i64 1, .string ⟨#[100, 110, 115]⟩, .string ⟨#[]⟩, .string ⟨#[]⟩, .string ⟨#[]⟩, .int .i64 a, .int .i64 0, .int .i64 0, .int .i64 0, .int .i64 c]
  | .two a b c => .agg #[.int .i64 2, .string ⟨#[100, 110, 115]⟩, .string ⟨#[104, 111, 115, 116]⟩, .string ⟨#[]⟩, .string ⟨#[]⟩, .int .i64 a, .int .i64 b, .int .i64 0, .int .i64 0, .int .i64 c]
def badG : Er → Array Value
  | e => match badF e with
    | .agg c => c
    | _ => #[]
theorem badF_badG (e : Er) : badF e = .agg (badG e) := by cases e <;> rfl
theorem badG_size (e : Er) : (badG e).size = 10 := by cases e <;> rfl
theorem badG_one (e : Er) : (badG e).all (·.oneCell') = true := by cases e <;> simp [badG, badF, badV, Value.oneCell']
theorem badG_ok : badG .ok = badC .ok := rfl
theorem badGI (e : Er) : (Tryd.prog.info? 32).map (·.size) = some (badG e).size := by rw [badG_size]; exact info32

theorem ta1 (v : Value) (w : World) : (Instr.typeAssert (.iface 87 v) 25 30 true).run Tryd.prog w = .ok (.tuple #[.int .i64 0, .bool false]) w := by kernel_rfl
theorem ta2 (v : Value) (w : World) : (Instr.typeAssert (.iface 87 v) 25 87 true).run Tryd.prog w = .ok (.tuple #[v, .bool true]) w := by kernel_rfl
theorem ta3 (v : Value) (w : World) : (Instr.typeAssert (.iface 30 v) 25 30 true).run Tryd.prog w = .ok (.tuple #[v, .bool true]) w := by kernel_rfl
theorem fltL_cells {w : World} {b a : Nat} {L : ByteArray} {e : Value} (h : w.heap[b]? = some (fltL L a e)) : w.cell? ⟨b, 0, none⟩ = some (.string L) ∧ w.cell? ⟨b, 1, none⟩ = some (.int .i64 a) ∧ w.cell? ⟨b, 2, none⟩ = some e := by
  refine ⟨?_, ?_, ?_⟩ <;> simp [World.cell?, h, fltL]

set_option maxRecDepth 100000 in
set_option maxHeartbeats 1000000 in
theorem of_nil (w : World) : Calls Tryd.prog 31 #[.nilIface] w fun e w' => e = .returned (.tuple #[badF .ok, .bool true]) ∧ Below w.heap.size w w' := by
  go_enter Tryd.func31, Tryd.ntmps31
  go_wp2_with fail
  refine wp_loop_rounds 1 ?_
  rw [rounds_succ]
  go_wp2_with fail
  go_region
  all_goals (try go_wp2)
  all_goals go_returns
  all_goals exact ⟨rfl, (((Below.refl _ _).alloc (Nat.le_refl _) _).alloc (by simp) _).drew⟩

set_option maxRecDepth 100000 in
set_option maxHeartbeats 2000000 in
theorem of_one (a c b : Nat) (w : World) (h : w.heap[b]? = some (fltL ⟨#[100, 110, 115]⟩ a (.iface 30 (.int .i64 c)))) : Calls Tryd.prog 31 #[.iface 87 (.pointer (some ⟨b, 0, none⟩))] w fun e w' => e = .returned (.tuple #[badF (.one a c), .bool true]) ∧ Below w.heap.size w w' := by
  obtain ⟨c0, c1, c2⟩ := fltL_cells h
  have hb := lt_of_some h
  have t1 := ta1
  have t2 := ta2
  have t3 := ta3
  clear h
  go_enter Tryd.func31, Tryd.ntmps31
  go_wp2_with fail
  refine wp_loop_rounds 2 ?_
  rw [rounds_succ]
  go_wp2_with fail
  go_region
  all_goals (try go_wp2_with fail)
  all_goals rw [rounds_succ]
  all_goals go_wp2_with fail
  go_region
  all_goals (try go_wp2)
  all_goals go_returns
  all_goals refine ⟨rfl, ?_⟩
  all_goals (repeat (first | exact Below.refl _ _ | refine Below.drew ?_ | refine Below.setCell ?_ (by simp) _ | refine Below.alloc ?_ (by simp) _))

set_option maxRecDepth 100000 in
set_option maxHeartbeats 4000000 in
theorem of_two (a a2 c b b2 : Nat) (w : World) (h : w.heap[b]? = some (fltL ⟨#[100, 110, 115]⟩ a (.iface 87 (.pointer (some ⟨b2, 0, none⟩))))) (h2 : w.heap[b2]? = some (fltL ⟨#[104, 111, 115, 116]⟩ a2 (.iface 30 (.int .i64 c)))) : Calls Tryd.prog 31 #[.iface 87 (.pointer (some ⟨b, 0, none⟩))] w fun e w' => e = .returned (.tuple #[badF (.two a a2 c), .bool true]) ∧ Below w.heap.size w w' := by
  obtain ⟨c0, c1, c2⟩ := fltL_cells h
  obtain ⟨e0, e1, e2⟩ := fltL_cells h2
  have hb := lt_of_some h
  have hb2 := lt_of_some h2
  have t1 := ta1
  have t2 := ta2
  have t3 := ta3
  clear h h2
  go_enter Tryd.func31, Tryd.ntmps31
  go_wp2_with fail
  refine wp_loop_rounds 3 ?_
  rw [rounds_succ]
  go_wp2_with fail
  go_region
  all_goals (try go_wp2_with fail)
  all_goals rw [rounds_succ]
  all_goals go_wp2_with fail
  go_region
  all_goals (try go_wp2_with fail)
  all_goals rw [rounds_succ]
  all_goals go_wp2_with fail
  go_region
  all_goals (try go_wp2)
  all_goals go_returns
  all_goals refine ⟨rfl, ?_⟩
  all_goals (repeat (first | exact Below.refl _ _ | refine Below.drew ?_ | refine Below.setCell ?_ (by simp) _ | refine Below.alloc ?_ (by simp) _))

/-- 'Of' of an error that tells e. -/
theorem of_at (e : Er) (v : Value) (w : World) (h : IsF w e v) : Calls Tryd.prog 31 #[v] w fun x w' => x = .returned (.tuple #[badF e, .bool true]) ∧ Below w.heap.size w w' := by
  cases e with
  | ok => subst h; exact of_nil w
  | one a c => obtain ⟨b, rfl, hb⟩ := h; exact of_one a c b w hb
  | two a a2 c => obtain ⟨b, b2, rfl, hb, hb2⟩ := h; exact of_two a a2 c b b2 w hb hb2
end Go.Proofs.YtelfikbahcckaaaDoor
