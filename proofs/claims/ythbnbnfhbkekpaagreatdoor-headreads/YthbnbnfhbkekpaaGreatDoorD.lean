/-
  Faults of package head in memory, and what the reference's base tells of an error; conditions as each theorem has them.
-/
import Derived.Test.YthbnbnfhbkekpaaGreatDoorU2
import Derived.Test.YthbnbnfhbkekpaaGreatDoorN2
import Derived.ChangeKeysEq
set_option linter.unusedSimpArgs false
set_option linter.unusedVariables false
namespace Go.Proofs.YthbnbnfhbkekpaaGreatDoor
open Go.RowKit

/-- A fault of a layer in memory. -/
def fltL (L : ByteArray) (a : Nat) (e : Value) : Obj := .cells #[.string L, .int .i64 a, e] 122
theorem flt_L (a : Nat) (e : Value) : flt a e = fltL ⟨#[104, 111, 115, 116]⟩ a e := rfl
/-- The error value v tells e: a fault of package head, with a fault of package host within. -/
def IsH (w : World) : Hr → Value → Prop
  | .ok, v => v = .nilIface
  | .one a c, v => ∃ b, v = .iface 120 (.pointer (some ⟨b, 0, none⟩)) ∧ w.heap[b]? = some (fltL ⟨#[104, 101, 97, 100]⟩ a (.iface 30 (.int .i64 c)))
  | .wr a e, v => e ≠ .ok ∧ ∃ b u, v = .iface 120 (.pointer (some ⟨b, 0, none⟩)) ∧ w.heap[b]? = some (fltL ⟨#[104, 101, 97, 100]⟩ a u) ∧ IsEr w e u
theorem IsH.below {w w' : World} {e : Hr} {v : Value} (h : IsH w e v) (k : Below w.heap.size w w') : IsH w' e v := by
  cases e with
  | ok => exact h
  | one a c =>
    obtain ⟨b, hv, hb⟩ := h
    exact ⟨b, hv, (k.block b (lt_of_some hb)).trans hb⟩
  | wr a e =>
    obtain ⟨he, b, u, hv, hb, hu⟩ := h
    exact ⟨he, b, u, hv, (k.block b (lt_of_some hb)).trans hb, hu.below k⟩
theorem IsH.nil {w : World} {e : Hr} {v : Value} (h : IsH w e v) (he : e = .ok) : v = .nilIface := by subst he; exact h
theorem IsH.ptr {w : World} {e : Hr} {v : Value} (h : IsH w e v) (he : e ≠ .ok) : ∃ b, v = .iface 120 (.pointer (some ⟨b, 0, none⟩)) := by
  cases e with
  | ok => exact absurd rfl he
  | one a c => obtain ⟨b, hv, _⟩ := h; exact ⟨b, hv⟩
  | wr a e => obtain ⟨_, b, u, hv, _⟩ := h; exact ⟨b, hv⟩
/-- What the reference tells of it. -/
def badH : Hr → Value
  | .ok => badV .ok
  | .one a c => .agg #[.int .i64 1, .string ⟨#[104, 101, 97, 100]⟩, .string ⟨#[]⟩, .string ⟨#[]⟩, .string ⟨#[]⟩, .int .i64 a, .int .i64 0, .int .i64 0, .int .i64 0, .int .i64 c]
  | .wr a (.one b c) => .agg #[.int .i64 2, .string ⟨#[104, 101, 97, 100]⟩, .string ⟨#[104, 111, 115, 116]⟩, .string ⟨#[]⟩, .string ⟨#[]⟩, .int .i64 a, .int .i64 b, .int .i64 0, .int .i64 0, .int .i64 c]
  | .wr a (.two b b2 c) => .agg #[.int .i64 3, .string ⟨#[104, 101, 97, 100]⟩, .string ⟨#[104, 111, 115, 116]⟩, .string ⟨#[104, 111, 115, 116]⟩, .string ⟨#[]⟩, .int .i64 a, .int .i64 b, .int .i64 b2, .int .i64 0, .int .i64 c]
  | .wr _ .ok => badV .ok
def badG : Hr → Array Value
  | e => match badH e with
    | .agg c => c
    | _ => #[]
theorem badH_badG (e : Hr) : badH e = .agg (badG e) := by
  cases e with
  | wr a e => cases e <;> rfl
  | _ => rfl
theorem badG_size (e : Hr) : (badG e).size = 10 := by
  cases e with
  | wr a e => cases e <;> rfl
  | _ => rfl
theorem badG_one (e : Hr) : (badG e).all (·.oneCell') = true := by
  cases e with
  | wr a e => cases e <;> simp [badG, badH, badV, Value.oneCell']
  | _ => simp [badG, badH, badV, Value.oneCell']
theorem badG_ok : badG .ok = badC .ok := rfl
theorem badGI (e : Hr) : (Tryz.prog.info? 32).map (·.size) = some (badG e).size := by rw [badG_size]; exact info32

theorem ta1 (v : Value) (w : World) : (Instr.typeAssert (.iface 120 v) 25 30 true).run Tryz.prog w = .ok (.tuple #[.int .i64 0, .bool false]) w := by kernel_rfl
theorem ta2 (v : Value) (w : World) : (Instr.typeAssert (.iface 120 v) 25 120 true).run Tryz.prog w = .ok (.tuple #[v, .bool true]) w := by kernel_rfl
theorem ta3 (v : Value) (w : World) : (Instr.typeAssert (.iface 30 v) 25 30 true).run Tryz.prog w = .ok (.tuple #[v, .bool true]) w := by kernel_rfl
theorem fltL_cells {w : World} {b a : Nat} {L : ByteArray} {e : Value} (h : w.heap[b]? = some (fltL L a e)) : w.cell? ⟨b, 0, none⟩ = some (.string L) ∧ w.cell? ⟨b, 1, none⟩ = some (.int .i64 a) ∧ w.cell? ⟨b, 2, none⟩ = some e := by
  refine ⟨?_, ?_, ?_⟩ <;> simp [World.cell?, h, fltL]

set_option maxRecDepth 100000 in
set_option maxHeartbeats 1000000 in
theorem of_nil (w : World) : Calls Tryz.prog 40 #[.nilIface] w fun e w' => e = .returned (.tuple #[badH .ok, .bool true]) ∧ Below w.heap.size w w' := by
  go_enter Tryz.func40, Tryz.ntmps40
  go_wp2_with fail
  refine wp_loop_rounds 1 ?_
  rw [rounds_succ]
  go_wp2_with fail
  go_region
  all_goals (try go_wp2)
  all_goals go_returns
  all_goals exact ⟨rfl, (((Below.refl _ _).alloc (Nat.le_refl _) _).alloc (by simp) _).drew⟩

set_option maxRecDepth 100000 in
set_option maxHeartbeats 2000000 in
theorem of_one (a c b : Nat) (w : World) (h : w.heap[b]? = some (fltL ⟨#[104, 101, 97, 100]⟩ a (.iface 30 (.int .i64 c)))) : Calls Tryz.prog 40 #[.iface 120 (.pointer (some ⟨b, 0, none⟩))] w fun e w' => e = .returned (.tuple #[badH (.one a c), .bool true]) ∧ Below w.heap.size w w' := by
  obtain ⟨c0, c1, c2⟩ := fltL_cells h
  have hb := lt_of_some h
  clear h
  have t1 := ta1
  have t2 := ta2
  have t3 := ta3
  go_enter Tryz.func40, Tryz.ntmps40
  go_wp2_with fail
  refine wp_loop_rounds 2 ?_
  rw [rounds_succ]
  go_wp2_with fail
  go_region
  all_goals (try go_wp2_with fail)
  all_goals rw [rounds_succ]
  all_goals go_wp2_with fail
  go_region
  all_goals (try go_wp2)
  all_goals go_returns
  all_goals refine ⟨rfl, ?_⟩
  all_goals (repeat (first | exact Below.refl _ _ | refine Below.drew ?_ | refine Below.setCell ?_ (by simp) _ | refine Below.alloc ?_ (by simp) _))

set_option maxRecDepth 100000 in
set_option maxHeartbeats 4000000 in
theorem of_two (a a2 c b b2 : Nat) (w : World) (h : w.heap[b]? = some (fltL ⟨#[104, 101, 97, 100]⟩ a (.iface 120 (.pointer (some ⟨b2, 0, none⟩))))) (h2 : w.heap[b2]? = some (fltL ⟨#[104, 111, 115, 116]⟩ a2 (.iface 30 (.int .i64 c)))) : Calls Tryz.prog 40 #[.iface 120 (.pointer (some ⟨b, 0, none⟩))] w fun e w' => e = .returned (.tuple #[badH (.wr a (.one a2 c)), .bool true]) ∧ Below w.heap.size w w' := by
  obtain ⟨c0, c1, c2⟩ := fltL_cells h
  obtain ⟨e0, e1, e2⟩ := fltL_cells h2
  have hb := lt_of_some h
  have hb2 := lt_of_some h2
  clear h h2
  have t1 := ta1
  have t2 := ta2
  have t3 := ta3
  go_enter Tryz.func40, Tryz.ntmps40
  go_wp2_with fail
  refine wp_loop_rounds 3 ?_
  rw [rounds_succ]
  go_wp2_with fail
  go_region
  all_goals (try go_wp2_with fail)
  all_goals rw [rounds_succ]
  all_goals go_wp2_with fail
  go_region
  all_goals (try go_wp2_with fail)
  all_goals rw [rounds_succ]
  all_goals go_wp2_with fail
  go_region
  all_goals (try go_wp2)
  all_goals go_returns
  all_goals refine ⟨rfl, ?_⟩
  all_goals (repeat (first | exact Below.refl _ _ | refine Below.drew ?_ | refine Below.setCell ?_ (by simp) _ | refine Below.alloc ?_ (by simp) _))

attribute [local go_sem ↓] run_op32 run_opst32 Go.wp_at_zero Go.wp_at_succ
attribute [local go_sem] rowOf_drew isRow_drew arrAt_ptr isAt_ptr putAt_ptr canPut_drew setRow_drew
/-- The box of what is told, behind j faults. -/
def rowA (a a2 a3 : Nat) : Nat → Array Value
  | 0 => badC .ok
  | 1 => #[.int .i64 1, .string ⟨#[104, 101, 97, 100]⟩, .string ⟨#[]⟩, .string ⟨#[]⟩, .string ⟨#[]⟩, .int .i64 a, .int .i64 0, .int .i64 0, .int .i64 0, .int .i64 0]
  | 2 => #[.int .i64 2, .string ⟨#[104, 101, 97, 100]⟩, .string ⟨#[104, 111, 115, 116]⟩, .string ⟨#[]⟩, .string ⟨#[]⟩, .int .i64 a, .int .i64 a2, .int .i64 0, .int .i64 0, .int .i64 0]
  | _ => #[.int .i64 3, .string ⟨#[104, 101, 97, 100]⟩, .string ⟨#[104, 111, 115, 116]⟩, .string ⟨#[104, 111, 115, 116]⟩, .string ⟨#[]⟩, .int .i64 a, .int .i64 a2, .int .i64 a3, .int .i64 0, .int .i64 0]
def valA (b b2 b3 c : Nat) : Nat → Value
  | 0 => .iface 120 (.pointer (some ⟨b, 0, none⟩))
  | 1 => .iface 120 (.pointer (some ⟨b2, 0, none⟩))
  | 2 => .iface 120 (.pointer (some ⟨b3, 0, none⟩))
  | _ => .iface 30 (.int .i64 c)
def numA (w : World) (S : Nat) : Nat := match w.cell? ⟨S, 0, none⟩ with
  | some (.int _ n) => 3 - n.toNat
  | _ => 0
theorem keep3 {w : World} {S o1 o2 o3 : Nat} {v1 v2 v3 : Value} {x : Obj} (h : w.heap[S]? = some x) : (((w.setCell ⟨S + 1, o1, none⟩ v1).setCell ⟨S + 1, o2, none⟩ v2).setCell ⟨S + 1, o3, none⟩ v3).heap[S]? = some x := by
  rw [Below.heap_setCell _ _ _ _ (by simp), Below.heap_setCell _ _ _ _ (by simp), Below.heap_setCell _ _ _ _ (by simp)]; exact h
theorem numA_row {w : World} {S a a2 a3 j : Nat} (hj : j ≤ 3) (h : w.heap[S]? = some (.cells (rowA a a2 a3 j) 32)) : numA w S = 3 - j := by
  rcases (show j = 0 ∨ j = 1 ∨ j = 2 ∨ j = 3 by omega) with rfl | rfl | rfl | rfl <;> simp [numA, World.cell?, h, rowA, badC, badV]
theorem rowA_next {w : World} {S a a2 a3 j : Nat} (hj : j < 3) (L : ByteArray) (x : Nat) (hL : L = if j = 0 then ⟨#[104, 101, 97, 100]⟩ else ⟨#[104, 111, 115, 116]⟩) (hx : x = if j = 0 then a else if j = 1 then a2 else a3) (h : w.heap[S]? = some (.cells (rowA a a2 a3 j) 32)) :
    (((w.setCell ⟨S, 1 + j, none⟩ (.string L)).setCell ⟨S, 5 + j, none⟩ (.int .i64 (x : Nat))).setCell ⟨S, 0, none⟩ (.int .i64 ((j : Int) + 1))).heap[S]? = some (.cells (rowA a a2 a3 (j + 1)) 32) := by
  have := heap_setCell_same (heap_setCell_same (heap_setCell_same h (1 + j) (.string L)) (5 + j) (.int .i64 (x : Nat))) 0 (.int .i64 ((j : Int) + 1))
  rw [this, hL, hx]
  rcases (show j = 0 ∨ j = 1 ∨ j = 2 by omega) with rfl | rfl | rfl <;> rfl
set_option maxRecDepth 100000 in
set_option maxHeartbeats 6000000 in
theorem of_three (a a2 a3 c b b2 b3 : Nat) (w : World) (h : w.heap[b]? = some (fltL ⟨#[104, 101, 97, 100]⟩ a (.iface 120 (.pointer (some ⟨b2, 0, none⟩))))) (h2 : w.heap[b2]? = some (fltL ⟨#[104, 111, 115, 116]⟩ a2 (.iface 120 (.pointer (some ⟨b3, 0, none⟩))))) (h3 : w.heap[b3]? = some (fltL ⟨#[104, 111, 115, 116]⟩ a3 (.iface 30 (.int .i64 c)))) : Calls Tryz.prog 40 #[.iface 120 (.pointer (some ⟨b, 0, none⟩))] w fun e w' => e = .returned (.tuple #[badH (.wr a (.two a2 a3 c)), .bool true]) ∧ Below w.heap.size w w' := by
  have H1 := hide h
  have H2 := hide h2
  have H3 := hide h3
  have t1 := ta1
  have t2 := ta2
  have t3 := ta3
  obtain ⟨S, hS⟩ : ∃ S, S = w.heap.size := ⟨_, rfl⟩
  obtain ⟨W0, hW0⟩ : ∃ W, W = (w.alloc (.cells (badC .ok) 32)).alloc (.cells (badC .ok) 32) := ⟨_, rfl⟩
  have i1 : W0.heap[S + 1]? = some (.cells (rowA a a2 a3 0) 32) := by rw [hW0, hS]; exact alloc_new2 _ _ _
  have i2 : W0.heap[S]? = some (.cells (badC .ok) 32) := by rw [hW0, hS]; exact alloc_old _ (alloc_new _ _)
  have i3 : Below S w W0 := by rw [hW0, hS]; exact ((Below.refl _ _).alloc (Nat.le_refl _) _).alloc (by simp) _
  have HI : Hid (W0.heap[S + 1]? = some (.cells (rowA a a2 a3 0) 32) ∧ W0.heap[S]? = some (.cells (badC .ok) 32) ∧ Below S w W0) := ⟨i1, i2, i3⟩
  have HS := hide hS
  have HW0 : Hid ((w.alloc (.cells #[.int .i64 0, .string ⟨#[]⟩, .string ⟨#[]⟩, .string ⟨#[]⟩, .string ⟨#[]⟩, .int .i64 0, .int .i64 0, .int .i64 0, .int .i64 0, .int .i64 0] 32)).alloc (.cells #[.int .i64 0, .string ⟨#[]⟩, .string ⟨#[]⟩, .string ⟨#[]⟩, .string ⟨#[]⟩, .int .i64 0, .int .i64 0, .int .i64 0, .int .i64 0, .int .i64 0] 32) = W0) := hW0.symm
  clear h h2 h3 i1 i2 i3 hW0 hS
  go_enter Tryz.func40, Tryz.ntmps40
  go_wp2_with fail
  rw [HW0.out, ← HS.out]
  go_loopw [0] (fun got wr => ∃ j : Nat, j ≤ 3 ∧ got = valA b b2 b3 c j ∧ Hid (wr.heap[S + 1]? = some (.cells (rowA a a2 a3 j) 32) ∧ wr.heap[S]? = some (.cells (badC .ok) 32) ∧ Below S w wr)) (fun _ wr => numA wr (S + 1))
  case atStart => exact ⟨0, by omega, rfl, HI.out⟩
  case round =>
    obtain ⟨j, hj, rfl, HJ⟩ := hrel
    obtain ⟨j1, j2, j3⟩ := HJ.out
    have g1 : wr.heap[b]? = some (fltL ⟨#[104, 101, 97, 100]⟩ a (.iface 120 (.pointer (some ⟨b2, 0, none⟩)))) := (j3.block b (by rw [HS.out]; exact lt_of_some H1.out)).trans H1.out
    have g2 : wr.heap[b2]? = some (fltL ⟨#[104, 111, 115, 116]⟩ a2 (.iface 120 (.pointer (some ⟨b3, 0, none⟩)))) := (j3.block b2 (by rw [HS.out]; exact lt_of_some H2.out)).trans H2.out
    have g3 : wr.heap[b3]? = some (fltL ⟨#[104, 111, 115, 116]⟩ a3 (.iface 30 (.int .i64 c))) := (j3.block b3 (by rw [HS.out]; exact lt_of_some H3.out)).trans H3.out
    have fz : ∀ k, wr.frozen? ⟨S + 1, k, none⟩ = false := fun k => by simp [World.frozen?, j1]
    have hr : ∀ k, wr.cell? ⟨S + 1, k, none⟩ = (rowA a a2 a3 j)[k]? := fun k => by simp [World.cell?, j1]
    have fz' : ∀ k, wr.frozen? ⟨S, k, none⟩ = false := fun k => by simp [World.frozen?, j2]
    have k0 := hr 0
    have k1 := hr 1
    have k2 := hr 2
    have k3 := hr 3
    have k4 := hr 4
    have k5 := hr 5
    have k6 := hr 6
    have k7 := hr 7
    have k8 := hr 8
    have k9 := hr 9
    have J1 := hide j1
    have J2 := hide j2
    have J3 := hide j3
    have hb1 : b < S := by rw [HS.out]; exact lt_of_some H1.out
    have hb2 : b2 < S := by rw [HS.out]; exact lt_of_some H2.out
    have hb3 : b3 < S := by rw [HS.out]; exact lt_of_some H3.out
    clear hr j1 j2 j3
    rcases (show j = 0 ∨ j = 1 ∨ j = 2 ∨ j = 3 by omega) with rfl | rfl | rfl | rfl
    · obtain ⟨c0, c1, c2⟩ := fltL_cells g1
      simp only [rowA, badC, badV] at k0 k1 k2 k3 k4 k5 k6 k7 k8 k9
      simp only [valA]
      simp at k0 k1 k2 k3 k4 k5 k6 k7 k8 k9
      clear g1 g2 g3
      go_wp2_with fail
      go_region
      all_goals go_wp2_with fail
      all_goals go_roundw
      case rel => exact ⟨1, by omega, rfl, rowA_next (j := 0) (by omega) _ _ rfl rfl J1.out, keep3 J2.out, (by repeat (first | exact J3.out | refine Below.drew ?_ | refine Below.setCell ?_ (by simp) _))⟩
      case measure => (have e1 := numA_row (by omega) J1.out; have e2 := numA_row (by omega) (rowA_next (j := 0) (a := a) (a2 := a2) (a3 := a3) (by omega) _ _ rfl rfl J1.out); rw [e1]; exact Nat.lt_of_le_of_lt (Nat.le_of_eq e2) (by omega))
    · obtain ⟨c0, c1, c2⟩ := fltL_cells g2
      simp only [rowA, badC, badV] at k0 k1 k2 k3 k4 k5 k6 k7 k8 k9
      simp only [valA]
      simp at k0 k1 k2 k3 k4 k5 k6 k7 k8 k9
      clear g1 g2 g3
      go_wp2_with fail
      go_region
      all_goals go_wp2_with fail
      all_goals go_roundw
      case rel => exact ⟨2, by omega, rfl, rowA_next (j := 1) (by omega) _ _ rfl rfl J1.out, keep3 J2.out, (by repeat (first | exact J3.out | refine Below.drew ?_ | refine Below.setCell ?_ (by simp) _))⟩
      case measure => (have e1 := numA_row (by omega) J1.out; have e2 := numA_row (by omega) (rowA_next (j := 1) (a := a) (a2 := a2) (a3 := a3) (by omega) _ _ rfl rfl J1.out); rw [e1]; exact Nat.lt_of_le_of_lt (Nat.le_of_eq e2) (by omega))
    · obtain ⟨c0, c1, c2⟩ := fltL_cells g3
      simp only [rowA, badC, badV] at k0 k1 k2 k3 k4 k5 k6 k7 k8 k9
      simp only [valA]
      simp at k0 k1 k2 k3 k4 k5 k6 k7 k8 k9
      clear g1 g2 g3
      go_wp2_with fail
      go_region
      all_goals go_wp2_with fail
      all_goals go_roundw
      case rel => exact ⟨3, by omega, rfl, rowA_next (j := 2) (by omega) _ _ rfl rfl J1.out, keep3 J2.out, (by repeat (first | exact J3.out | refine Below.drew ?_ | refine Below.setCell ?_ (by simp) _))⟩
      case measure => (have e1 := numA_row (by omega) J1.out; have e2 := numA_row (by omega) (rowA_next (j := 2) (a := a) (a2 := a2) (a3 := a3) (by omega) _ _ rfl rfl J1.out); rw [e1]; exact Nat.lt_of_le_of_lt (Nat.le_of_eq e2) (by omega))
    · obtain ⟨W1, hW1⟩ : ∃ W1, W1 = wr.setCell ⟨S + 1, 9, none⟩ (.int .i64 (c : Nat)) := ⟨_, rfl⟩
      obtain ⟨FIN, hF⟩ : ∃ F : Array Value, F = #[.int .i64 3, .string ⟨#[104, 101, 97, 100]⟩, .string ⟨#[104, 111, 115, 116]⟩, .string ⟨#[104, 111, 115, 116]⟩, .string ⟨#[]⟩, .int .i64 (a : Nat), .int .i64 (a2 : Nat), .int .i64 (a3 : Nat), .int .i64 0, .int .i64 (c : Nat)] := ⟨_, rfl⟩
      have p1 : W1.heap[S + 1]? = some (.cells FIN 32) := by rw [hW1, heap_setCell_same J1.out 9 (.int .i64 (c : Nat)), hF]; rfl
      have r1 : W1.heap[S]? = some (.cells (badC .ok) 32) := by rw [hW1, Below.heap_setCell _ _ _ _ (by simp)]; exact J2.out
      have b1 : Below S w W1 := by rw [hW1]; exact J3.out.setCell (by simp) _
      have s1 : isRow W1 (S + 1) 10 = true := isRow_of p1 (by rw [hF]; rfl)
      have s2 : rowOf W1 (S + 1) = FIN := rowOf_of p1
      have s3 : canPut 10 32 W1 (.pointer (some ⟨S, 0, none⟩)) (.agg FIN) = true := canPut_row r1 rfl (by rw [hF]; rfl) (by rw [hF]; simp [Value.oneCell'])
      have s4 : W1.cell? ⟨S + 1, 0, none⟩ = some (.int .i64 3) := by simp [World.cell?, p1, hF]
      obtain ⟨W2, hW2⟩ : ∃ W2, W2 = W1.setRow S FIN := ⟨_, rfl⟩
      have F2 : Hid (W2.heap[S]? = some (.cells FIN 32)) := by rw [hW2]; exact setRow_heap _ _ _ _ _ r1
      have F5 : Hid (Below S w W2) := by rw [hW2]; exact below_setRow b1 (Nat.le_refl _) _
      have p2 : W2.heap[S + 1]? = some (.cells FIN 32) := by rw [hW2, setRow_ne _ _ _ _ (by omega)]; exact p1
      have s7 : isRow W2 (S + 1) 10 = true := isRow_of p2 (by rw [hF]; rfl)
      have s8 : rowOf W2 (S + 1) = FIN := rowOf_of p2
      have s9 : W2.cell? ⟨S + 1, 0, none⟩ = some (.int .i64 3) := by simp [World.cell?, p2, hF]
      have s5 : W1.setRow S FIN = W2 := hW2.symm
      have s6 : wr.setCell ⟨S + 1, 9, none⟩ (.int .i64 (c : Nat)) = W1 := hW1.symm
      have HF := hide hF
      have FI : Hid ((Tryz.prog.info? 32).map (·.size) = some FIN.size) := by show _ = _; rw [hF]; exact info32
      have k9' := k9
      simp only [rowA] at k0 k9
      simp only [valA]
      simp at k0 k9
      clear g1 g2 g3 k1 k2 k3 k4 k5 k6 k7 k8 k9' p1 p2 r1 b1 hW1 hW2 hF hb1 hb2 hb3
      go_wp2_with fail
      go_region
      all_goals (try go_wp2_with fail)
      all_goals refine bodyPost_ret (res_cell_tmp rfl _ _ S 32 FIN (0, 0) _ rfl (by exact F2.out) Tryz.underlying32 rfl FI.out) rfl ⟨?_, ?_⟩
      all_goals first
        | (rw [HF.out]; rfl)
        | (rw [← HS.out]; first | exact F5.out | exact F5.out.drew)

/-- 'Of' of an error that tells e. -/
theorem of_at (e : Hr) (v : Value) (w : World) (h : IsH w e v) : Calls Tryz.prog 40 #[v] w fun x w' => x = .returned (.tuple #[badH e, .bool true]) ∧ Below w.heap.size w w' := by
  cases e with
  | ok => subst h; exact of_nil w
  | one a c => obtain ⟨b, rfl, hb⟩ := h; exact of_one a c b w hb
  | wr a e =>
    obtain ⟨he, b, u, rfl, hb, hu⟩ := h
    cases e with
    | ok => exact absurd rfl he
    | one a2 c => obtain ⟨b2, rfl, hb2⟩ := hu; exact of_two a a2 c b b2 w hb hb2
    | two a2 a3 c => obtain ⟨b2, b3, rfl, hb2, hb3⟩ := hu; exact of_three a a2 a3 c b b2 b3 w hb hb2 hb3
end Go.Proofs.YthbnbnfhbkekpaaGreatDoor
