/-
  Heads in numbers, further: which faults tell that a head is short, and what a list of lines is read as; no program.; errors.Is of what a head's readers tell; errors.Is of what a head's readers tell; conditions as each theorem has them.
-/
import Derived.Test.YtccoddmdlbdfjaaGreatDoorJoinedFN
import Derived.Test.YtccoddmdlbdfjaaGreatDoorJoinedD
import Derived.LaidEql
import Derived.Stop.Asserts
import Derived.RowKitTokens
set_option linter.unusedSimpArgs false
set_option linter.unusedVariables false
namespace Go.Proofs.YtccoddmdlbdfjaaGreatDoor

def six : Er → Bool
  | .ok => false
  | .one _ c => decide (c = 6)
  | .two _ _ c => decide (c = 6)
def is6 : Hr → Bool
  | .ok => false
  | .one _ c => decide (c = 6)
  | .wr _ e => six e
theorem octs_six : ∀ (ps : List (List Nat)) (i a : Nat) (acc : List Nat), six (octs i a ps acc).2 = false
  | [], _, _, _ => rfl
  | p :: ps, i, a, acc => by
    unfold octs
    split
    · rfl
    · split
      · rfl
      · exact octs_six ps _ _ _
theorem addr_six (l : List Nat) : six (addr l).2 = false := by
  unfold addr
  split
  · rfl
  · split
    · rfl
    · exact octs_six _ _ _ _
theorem name_six (l : List Nat) : six (name l).2 = false := by
  unfold name
  split
  · rfl
  · split
    · rfl
    · split <;> rfl
theorem host_six (l : List Nat) : six (host l).2 = false := by
  unfold host
  split
  · rfl
  · split
    · exact addr_six l
    · exact name_six l
theorem dest_six (l : List Nat) : six (dest l).2 = false := by
  unfold dest
  split
  · rfl
  · split
    · rfl
    · rename_i c hc
      have hh := host_six (l.take c)
      generalize host (l.take c) = H at hh
      obtain ⟨h, e⟩ := H
      cases e with
      | ok =>
        simp only
        split <;> rfl
      | one a c => exact hh
      | two a b c => exact hh
theorem goTo_six (t : List Nat) : six (goTo t).2 = false := by
  unfold goTo
  split
  · exact dest_six t
  · have hh := host_six t
    generalize host t = H at hh
    obtain ⟨h, e⟩ := H
    cases e with
    | ok => rfl
    | one a c => exact hh
    | two a b c => exact hh
theorem targ_six (m t : List Nat) : is6 (targ m t).2 = false := by
  unfold targ
  split
  · have hh := dest_six t
    generalize dest t = H at hh
    obtain ⟨h, e⟩ := H
    cases e with
    | ok => rfl
    | one a c => exact hh
    | two a b c => exact hh
  · split
    · rfl
    · have hh := goTo_six (cutT t).1
      generalize goTo (cutT t).1 = H at hh
      obtain ⟨h, e⟩ := H
      cases e with
      | ok => rfl
      | one a c => exact hh
      | two a b c => exact hh
theorem rline_six (x : List Nat) : is6 (rline x).2 = false := by
  unfold rline
  split
  · split
    · rfl
    · split
      · rfl
      · exact targ_six _ _
  · rfl
theorem fld_six (x : List Nat) : (fld x).2 ≠ 6 := by
  unfold fld
  repeat' split
  all_goals simp
theorem flds_six : ∀ (ls : List (List Nat)) (a : Nat) (acc : List Fd), is6 (flds a ls acc).2 = false
  | [], _, _ => rfl
  | x :: r, a, acc => by
    unfold flds
    split
    · rfl
    · split
      · exact decide_eq_false (fld_six x)
      · exact flds_six r _ _
theorem req_six (ls : List (List Nat)) : is6 (req ls).2 = false := by
  cases ls with
  | nil => rfl
  | cons x r =>
    have hh := rline_six x
    rcases hr : rline x with ⟨q, e⟩
    rw [hr] at hh
    cases e with
    | ok =>
      have hf := flds_six r (x.length + 2) []
      rcases hg : flds (x.length + 2) r [] with ⟨f, e⟩
      rw [hg] at hf
      cases e <;> simp only [req, hr, hg] <;> first | rfl | exact hf
    | one a c => simp only [req, hr]; exact hh
    | wr a e => simp only [req, hr]; exact hh
theorem request_hd {l : List Nat} {ls : List (List Nat)} (h : hd l = some ls) : (request l).2.2 = (req ls).2 ∧ ((req ls).2 = .ok → request l = ((req ls).1, tot ls, .ok)) ∧ ((req ls).2 ≠ .ok → request l = ((noR, []), 0, (req ls).2)) := by
  unfold request
  rw [h]
  simp only
  generalize req ls = R
  obtain ⟨q, e⟩ := R
  cases e <;> simp
theorem request_none {l : List Nat} (h : hd l = none) : request l = ((noR, []), 0, if l.length < 8192 then .one l.length 6 else .one 8192 3) := by
  unfold request
  rw [h]
  simp only
  unfold enE
  rw [h]
  simp only
  split <;> rfl
theorem request_is6 (l : List Nat) : is6 (request l).2.2 = decide (hd l = none ∧ l.length < 8192) := by
  cases h : hd l with
  | none =>
    rw [request_none h]
    simp only
    split
    · rename_i h1; simp [is6, h1]
    · rename_i h1; simp [is6, h1]
  | some ls =>
    rw [(request_hd h).1, req_six]
    simp
theorem request_short6 (l : List Nat) : is6 (request l).2.2 = decide ((request l).2.2 = .one l.length 6) := by
  rw [request_is6]
  cases h : hd l with
  | none =>
    rw [request_none h]
    simp only
    split
    · rename_i h1; simp [h1]
    · rename_i h1
      rw [decide_eq_false (by simp [h1]), decide_eq_false]
      intro e
      simp at e
  | some ls =>
    rw [(request_hd h).1]
    have hs := req_six ls
    rw [decide_eq_false (by simp), decide_eq_false]
    intro e
    rw [e] at hs
    simp [is6] at hs
/-- Fields that are read are no more than there may be. -/
theorem flds_len : ∀ (ls : List (List Nat)) (a : Nat) (acc r : List Fd), flds a ls acc = (r, .ok) → acc.length ≤ 64 → acc.length + ls.length ≤ 64
  | [], _, acc, r, _, h => by simpa using h
  | x :: ls, a, acc, r, hf, h => by
    unfold flds at hf
    split at hf
    · cases hf
    · split at hf
      · cases hf
      · have := flds_len ls _ _ r hf (by simp; omega)
        simp at this ⊢
        omega
/-- A list of lines is a head just if it is short enough. -/
theorem hd_fl {ls : List (List Nat)} (g : ∀ x ∈ ls, Ln x) : hd (fl ls) = if tot ls ≤ 8192 then some ls else none := by
  split
  · rename_i h
    have := hd_of [] g h
    rwa [List.append_nil] at this
  · rename_i h
    cases hh : hd (fl ls) with
    | none => rfl
    | some ls' =>
      obtain ⟨⟨r, hr⟩, hL, h1, h2⟩ := hd_some hh
      have e1 := lns_fl ls [] g
      have e2 := lns_fl ls' r hL
      rw [List.append_nil, hr, e2] at e1
      cases e1
      exact absurd h1 h
theorem hd_none_take {l : List Nat} (h : hd l = none) (k : Nat) : hd (l.take k) = none := by
  cases hh : hd (l.take k) with
  | none => rfl
  | some ls =>
    obtain ⟨⟨r, hr⟩, hL, h1, h2⟩ := hd_some hh
    have : l = fl ls ++ (r ++ l.drop k) := by rw [← List.append_assoc, ← hr, List.take_append_drop]
    rw [this, hd_of _ hL h1] at h
    cases h
theorem hd_take_eq {l : List Nat} {ls : List (List Nat)} (h : hd l = some ls) {k : Nat} (hk : tot ls ≤ k) : hd (l.take k) = some ls := by
  obtain ⟨⟨r, hr⟩, hL, h1, h2⟩ := hd_some h
  have hf : (fl ls).length = tot ls := rfl
  have : l.take k = fl ls ++ r.take (k - tot ls) := by rw [hr, List.take_append, List.take_of_length_le (by omega), hf]
  rw [this]
  exact hd_of _ hL h1
end Go.Proofs.YtccoddmdlbdfjaaGreatDoor

set_option linter.unusedSimpArgs false
set_option linter.unusedVariables false
namespace Go.Proofs.YtccoddmdlbdfjaaGreatDoor
open Go.RowKit Go.Extern.Stop Go.Stop Go.Extern

theorem tO31 (v : Value) (w : World) : (ReflectliteType.typeOf #[.iface 44 v]).run Tryz.prog w = .ok (.iface 164 (.agg #[.pointer (some ⟨7, 44, none⟩)])) w := by kernel_rfl
theorem cT31 (w : World) : (callFunc 241 #[.agg #[.pointer (some ⟨7, 44, none⟩)]]).run Tryz.prog w = .ok (.value (.bool true)) w := by
  rw [@run_callFunc_extern Tryz.prog 241 _ (ReflectliteType.method fun t => do Rtype.noPackHeld "Comparable" t; pure (.bool (← typeInfo t).comparable)) Tryz.func241 (by kernel_rfl) (by kernel_rfl) (by kernel_rfl) (by kernel_rfl)]
  kernel_rfl
theorem nE1 (v : Value) (xT : TypeId) (w : World) : (Instr.typeAssert (.iface 44 v) xT 166 true).run Tryz.prog w = .ok (.tuple #[.nilIface, .bool false]) w := run_typeAssert_lacksB Tryz.underlying166 (by kernel_rfl) (by kernel_rfl) v xT w
theorem nE2 (v : Value) (xT : TypeId) (w : World) : (Instr.typeAssert (.iface 44 v) xT 169 true).run Tryz.prog w = .ok (.tuple #[.nilIface, .bool false]) w := run_typeAssert_lacksB Tryz.underlying169 (by kernel_rfl) (by kernel_rfl) v xT w
theorem nE3 (v : Value) (xT : TypeId) (w : World) : (Instr.typeAssert (.iface 44 v) xT 171 true).run Tryz.prog w = .ok (.tuple #[.nilIface, .bool false]) w := run_typeAssert_lacksB Tryz.underlying171 (by kernel_rfl) (by kernel_rfl) v xT w
theorem nF1 (v : Value) (xT : TypeId) (w : World) : (Instr.typeAssert (.iface 145 v) xT 166 true).run Tryz.prog w = .ok (.tuple #[.nilIface, .bool false]) w := run_typeAssert_lacksB Tryz.underlying166 (by kernel_rfl) (by kernel_rfl) v xT w
theorem hF2 (v : Value) (xT : TypeId) (w : World) : (Instr.typeAssert (.iface 145 v) xT 169 true).run Tryz.prog w = .ok (.tuple #[.iface 145 v, .bool true]) w := run_typeAssert_hasB Tryz.underlying169 (by kernel_rfl) v xT w
theorem eqn_6 (c : Nat) (h6 : c ≠ 6) (w : World) : (binOp .eql 59 (.iface 44 (.int .i64 c)) (.iface 44 (.int .i64 6))).run Tryz.prog w = .ok (.bool false) w := by
  have h31 : (Tryz.prog.info? 44).map (·.comparable) = some true := by kernel_rfl
  obtain ⟨i, hi, hcmp⟩ := Option.map_eq_some_iff.1 h31
  have hc : ((c : Int) == 6) = false := by simp; omega
  have h : ∀ d : Nat, (Op.equalIn (d + 2) 59 (.iface 44 (.int .i64 c)) (.iface 44 (.int .i64 6))).run Tryz.prog w = .ok false w := fun d => by
    simp [Op.equalIn, run_underlying Tryz.underlying59, run_underlying Tryz.underlying44, typeInfo, hi, hcmp, hc]
  simp only [binOp]
  simp [Op.equal, Op.maxDepth, h 9998]
theorem eqn_6' (c : Nat) (w : World) : (binOp .eql 59 (.iface 44 (.int .i64 c)) (.iface 44 (.int .i64 6))).run Tryz.prog w = .ok (.bool (decide (c = 6))) w := by
  by_cases h : c = 6
  · subst h
    rw [decide_eq_true rfl]
    kernel_rfl
  · rw [decide_eq_false h]
    exact eqn_6 c h w
theorem eis0 (w : World) : Calls Tryz.prog 37 #[.nilIface, .iface 44 (.int .i64 6)] w fun e w' => e = .returned (.bool false) ∧ w' = w := by
  have heq : ∀ w, (binOp .eql 59 .nilIface (.iface 44 (.int .i64 6))).run Tryz.prog w = .ok (.bool false) w := fun w => by kernel_rfl
  go_enter Tryz.func37, Tryz.ntmps37
  go_wp2_with fail
  go_ret
  exact ⟨rfl, rfl⟩
set_option maxRecDepth 100000 in
set_option maxHeartbeats 2000000 in
theorem eis1 (L : ByteArray) (a c b : Nat) (w : World) (h : w.heap[b]? = some (fltL L a (.iface 44 (.int .i64 c)))) : Calls Tryz.prog 37 #[.iface 145 (.pointer (some ⟨b, 0, none⟩)), .iface 44 (.int .i64 6)] w fun e w' => e = .returned (.bool (decide (c = 6))) ∧ w' = w := by
  have h8 := @run_callFunc_extern Tryz.prog 61 _ ReflectliteType.typeOf Tryz.func61 (by kernel_rfl) (by kernel_rfl) (by kernel_rfl) (by kernel_rfl)
  have tT := tO31
  have cT := cT31
  have n1 := nE1
  have n2 := nE2
  have n3 := nE3
  have f1 := nF1
  have f2 := hF2
  obtain ⟨_, _, c2⟩ := fltL_cells h
  have hty := run_eql_iface_types (P := Tryz.prog) 145 44 (.pointer (some ⟨b, 0, none⟩)) (.int .i64 6) Tryz.underlying59 (by decide) w
  by_cases hc : c = 6
  · subst hc
    have heq : ∀ w, (binOp .eql 59 (.iface 44 (.int .i64 6)) (.iface 44 (.int .i64 6))).run Tryz.prog w = .ok (.bool true) w := fun w => by kernel_rfl
    clear h
    go_enter Tryz.func37, Tryz.ntmps37
    go_wp2
    refine wp_loop_rounds 2 ?_
    rw [rounds_succ]
    go_wp2
    rw [rounds_succ]
    go_wp2
    go_ret
    exact ⟨rfl, rfl⟩
  · rw [decide_eq_false hc]
    have heq : ∀ w, (binOp .eql 59 (.iface 44 (.int .i64 c)) (.iface 44 (.int .i64 6))).run Tryz.prog w = .ok (.bool false) w := fun w => eqn_6 c hc w
    clear h hc
    go_enter Tryz.func37, Tryz.ntmps37
    go_wp2
    refine wp_loop_rounds 2 ?_
    rw [rounds_succ]
    go_wp2
    rw [rounds_succ]
    go_wp2
    go_ret
    exact ⟨rfl, rfl⟩
end Go.Proofs.YtccoddmdlbdfjaaGreatDoor

set_option linter.unusedSimpArgs false
set_option linter.unusedVariables false
namespace Go.Proofs.YtccoddmdlbdfjaaGreatDoor
open Go.RowKit Go.Extern.Stop Go.Stop Go.Extern

set_option maxRecDepth 100000 in
set_option maxHeartbeats 2000000 in
theorem eis2 (L L2 : ByteArray) (a a2 c b b2 : Nat) (w : World) (h : w.heap[b]? = some (fltL L a (.iface 145 (.pointer (some ⟨b2, 0, none⟩))))) (h2 : w.heap[b2]? = some (fltL L2 a2 (.iface 44 (.int .i64 c)))) : Calls Tryz.prog 37 #[.iface 145 (.pointer (some ⟨b, 0, none⟩)), .iface 44 (.int .i64 6)] w fun e w' => e = .returned (.bool (decide (c = 6))) ∧ w' = w := by
  have h8 := @run_callFunc_extern Tryz.prog 61 _ ReflectliteType.typeOf Tryz.func61 (by kernel_rfl) (by kernel_rfl) (by kernel_rfl) (by kernel_rfl)
  have tT := tO31
  have cT := cT31
  have n1 := nE1
  have n2 := nE2
  have n3 := nE3
  have f1 := nF1
  have f2 := hF2
  obtain ⟨_, _, c2⟩ := fltL_cells h
  obtain ⟨_, _, d2⟩ := fltL_cells h2
  have hty := run_eql_iface_types (P := Tryz.prog) 145 44 (.pointer (some ⟨b, 0, none⟩)) (.int .i64 6) Tryz.underlying59 (by decide) w
  have hty2 := run_eql_iface_types (P := Tryz.prog) 145 44 (.pointer (some ⟨b2, 0, none⟩)) (.int .i64 6) Tryz.underlying59 (by decide) w
  by_cases hc : c = 6
  · subst hc
    have heq : ∀ w, (binOp .eql 59 (.iface 44 (.int .i64 6)) (.iface 44 (.int .i64 6))).run Tryz.prog w = .ok (.bool true) w := fun w => by kernel_rfl
    clear h h2
    go_enter Tryz.func37, Tryz.ntmps37
    go_wp2
    refine wp_loop_rounds 3 ?_
    rw [rounds_succ]
    go_wp2
    rw [rounds_succ]
    go_wp2
    rw [rounds_succ]
    go_wp2
    go_ret
    exact ⟨rfl, rfl⟩
  · rw [decide_eq_false hc]
    have heq : ∀ w, (binOp .eql 59 (.iface 44 (.int .i64 c)) (.iface 44 (.int .i64 6))).run Tryz.prog w = .ok (.bool false) w := fun w => eqn_6 c hc w
    clear h h2 hc
    go_enter Tryz.func37, Tryz.ntmps37
    go_wp2
    refine wp_loop_rounds 3 ?_
    rw [rounds_succ]
    go_wp2
    rw [rounds_succ]
    go_wp2
    rw [rounds_succ]
    go_wp2
    go_ret
    exact ⟨rfl, rfl⟩
end Go.Proofs.YtccoddmdlbdfjaaGreatDoor
