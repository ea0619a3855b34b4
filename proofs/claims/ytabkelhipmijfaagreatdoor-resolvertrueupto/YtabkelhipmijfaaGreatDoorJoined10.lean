/-
  The small functions of package resolver; errors.Is of what Match tells; conditions as each theorem has them.
-/
import Derived.Test.YtabkelhipmijfaaGreatDoorGA
import Derived.Test.YtabkelhipmijfaaGreatDoorJoined3
set_option linter.unusedSimpArgs false
set_option linter.unusedVariables false
namespace Go.Proofs.YtabkelhipmijfaaGreatDoor
open Go.RowKit

theorem isMade_at {w : World} {S : Nat → Prop} {r t g : Nat} {qv pv : Value} {V : List Value} {R : Rs} (h : IsRs w S r t g qv pv V R) : Calls Tryz.prog 30 #[.pointer (some ⟨r, 0, none⟩)] w fun e w' => e = .returned (.bool true) ∧ w = w' := by
  obtain ⟨c0, c1, c2, c3⟩ := h.cells
  clear h
  go_enter Tryz.func30, Tryz.ntmps30
  go_wp2
  go_ret
  exact ⟨rfl, rfl⟩
theorem isNow_at (now : Int) (w : World) : Calls Tryz.prog 31 #[.int .i64 now] w fun e w' => e = .returned (.bool (decide (nowOk now))) ∧ w = w' := by
  by_cases h1 : now < 0
  · rw [show decide (nowOk now) = false from decide_eq_false (by unfold nowOk; omega)]
    have d1 : decide (now ≥ 0) = false := decide_eq_false (by omega)
    have d1' : decide (0 ≤ now) = false := decide_eq_false (by omega)
    go_enter Tryz.func31, Tryz.ntmps31
    go_wp2
    go_ret
    exact ⟨rfl, rfl⟩
  · have d1 : decide (now ≥ 0) = true := decide_eq_true (by omega)
    have d1' : decide (0 ≤ now) = true := decide_eq_true (by omega)
    by_cases h2 : now ≤ 1099510579200
    · rw [show decide (nowOk now) = true from decide_eq_true (by unfold nowOk; omega)]
      go_enter Tryz.func31, Tryz.ntmps31
      go_wp2
      go_ret
      exact ⟨rfl, rfl⟩
    · rw [show decide (nowOk now) = false from decide_eq_false (by unfold nowOk; omega)]
      have d2 : decide (now ≤ 1099510579200) = false := decide_eq_false h2
      go_enter Tryz.func31, Tryz.ntmps31
      go_wp2
      go_ret
      exact ⟨rfl, rfl⟩
theorem putQr_code (id : Int) (n : List Nat) : (putQr id n).2 = if qry id n = true then 0 else 2 := by
  unfold putQr
  split <;> rfl
theorem isName_at (t : ByteArray) (w : World) (ht : t.size ≤ maxLen) (hV : Vars w) : Calls Tryz.prog 32 #[.string t] w fun e w' => e = .returned (.bool (nameOk t)) ∧ Below w.heap.size w w' := by
  have HP := hide (pputQuestion_at 0 t w ht hV)
  have hc := putQr_code 0 (byt t)
  unfold nameOk
  obtain ⟨C, hC⟩ : ∃ C : Nat, C = (putQr 0 (byt t)).2 := ⟨_, rfl⟩
  rw [← hC] at hc
  have HC := hide hC
  clear hV hC
  cases hq : qry 0 (byt t)
  · rw [hq] at hc
    rw [if_neg (by simp)] at hc
    have e1 : ((C : Int) == 0) = false := by rw [hc]; rfl
    clear hq hc
    go_enter Tryz.func32, Tryz.ntmps32
    go_wp2_with fail
    refine HP.out.mono ?_
    rintro e w1 ⟨v, rfl, o, b, k⟩
    rw [← HC.out]
    have K := hide k
    clear o b k
    go_wp2_with fail
    go_ret
    exact ⟨rfl, K.out⟩
  · rw [hq] at hc
    rw [if_pos rfl] at hc
    have e1 : ((C : Int) == 0) = true := by rw [hc]; rfl
    clear hq hc
    go_enter Tryz.func32, Tryz.ntmps32
    go_wp2_with fail
    refine HP.out.mono ?_
    rintro e w1 ⟨v, rfl, o, b, k⟩
    rw [← HC.out]
    have K := hide k
    clear o b k
    go_wp2_with fail
    go_ret
    exact ⟨rfl, K.out⟩
theorem qbox_below (q : Qn) (w : World) : Below w.heap.size w (w.alloc (.cells (qC q).toArray 87)) := (Below.refl _ _).alloc (Nat.le_refl _) _
theorem eq_ba (a b : ByteArray) : (a.toList == b.toList) = decide (a = b) := Nm.eq_ba a b
theorem isNameOf_at (t : ByteArray) (q : Qn) (w : World) : Calls Tryz.prog 35 #[.string t, .agg (qC q).toArray] w fun e w' => e = .returned (.bool (hasN t q)) ∧ Below w.heap.size w w' := by
  have HB := hide (qbox_below q w)
  have he : (t.toList == q.nm.toList) = hasN t q := by rw [eq_ba]; unfold hasN; exact decide_eq_decide.2 eq_comm
  obtain ⟨R, hR⟩ : ∃ R, R = hasN t q := ⟨_, rfl⟩
  rw [← hR] at he ⊢
  clear hR
  obtain ⟨id, nm, sent, again⟩ := q
  unfold qC at HB ⊢
  go_enter Tryz.func35, Tryz.ntmps35
  go_wp2
  go_ret
  exact ⟨rfl, HB.out⟩
theorem isTimeOf_at (now : Int) (q : Qn) (w : World) : Calls Tryz.prog 43 #[.int .i64 now, .agg (qC q).toArray] w fun e w' => e = .returned (.bool (isT now q)) ∧ Below w.heap.size w w' := by
  have HB := hide (qbox_below q w)
  obtain ⟨R, hR⟩ : ∃ R, R = isT now q := ⟨_, rfl⟩
  rw [← hR]
  obtain ⟨id, nm, sent, again⟩ := q
  have he : decide (again ≤ now) = R := hR.symm
  unfold qC at HB ⊢
  clear hR
  go_enter Tryz.func43, Tryz.ntmps43
  go_wp2
  go_ret
  exact ⟨rfl, HB.out⟩

end Go.Proofs.YtabkelhipmijfaaGreatDoor

set_option linter.unusedSimpArgs false
set_option linter.unusedVariables false
namespace Go.Proofs.YtabkelhipmijfaaGreatDoor
open Go.RowKit Go.Extern.Stop Go.Stop Go.Extern

theorem eqn_102 (c : Nat) (h6 : c ≠ 102) (w : World) : (binOp .eql 67 (.iface 24 (.int .i64 c)) (.iface 24 (.int .i64 102))).run Tryz.prog w = .ok (.bool false) w := by
  have h31 : (Tryz.prog.info? 24).map (·.comparable) = some true := by kernel_rfl
  obtain ⟨i, hi, hcmp⟩ := Option.map_eq_some_iff.1 h31
  have hc : ((c : Int) == 102) = false := by simp; omega
  have h : ∀ d : Nat, (Op.equalIn (d + 2) 67 (.iface 24 (.int .i64 c)) (.iface 24 (.int .i64 102))).run Tryz.prog w = .ok false w := fun d => by
    simp [Op.equalIn, run_underlying Tryz.underlying67, run_underlying Tryz.underlying24, typeInfo, hi, hcmp, hc]
  simp only [binOp]
  simp [Op.equal, Op.maxDepth, h 9998]
theorem eqn_102' (c : Nat) (w : World) : (binOp .eql 67 (.iface 24 (.int .i64 c)) (.iface 24 (.int .i64 102))).run Tryz.prog w = .ok (.bool (decide (c = 102))) w := by
  by_cases h : c = 102
  · subst h
    rw [decide_eq_true rfl]
    kernel_rfl
  · rw [decide_eq_false h]
    exact eqn_102 c h w
theorem eis0 (w : World) : Calls Tryz.prog 77 #[.nilIface, .iface 24 (.int .i64 102)] w fun e w' => e = .returned (.bool false) ∧ w' = w := by
  have heq : ∀ w, (binOp .eql 67 .nilIface (.iface 24 (.int .i64 102))).run Tryz.prog w = .ok (.bool false) w := fun w => by kernel_rfl
  go_enter Tryz.func77, Tryz.ntmps77
  go_wp2_with fail
  go_ret
  exact ⟨rfl, rfl⟩
set_option maxRecDepth 100000 in
set_option maxHeartbeats 2000000 in
theorem eis1 (L : ByteArray) (a c b : Nat) (w : World) (h : w.heap[b]? = some (fltL L a (.iface 24 (.int .i64 c)))) : Calls Tryz.prog 77 #[.iface 156 (.pointer (some ⟨b, 0, none⟩)), .iface 24 (.int .i64 102)] w fun e w' => e = .returned (.bool (decide (c = 102))) ∧ w' = w := by
  have h8 := @run_callFunc_extern Tryz.prog 98 _ ReflectliteType.typeOf Tryz.func98 (by kernel_rfl) (by kernel_rfl) (by kernel_rfl) (by kernel_rfl)
  have tT := tO31
  have cT := cT31
  have n1 := nE1
  have n2 := nE2
  have n3 := nE3
  have f1 := nF1
  have f2 := hF2
  obtain ⟨_, _, c2⟩ := fltL_cells h
  have hty := run_eql_iface_types (P := Tryz.prog) 156 24 (.pointer (some ⟨b, 0, none⟩)) (.int .i64 102) Tryz.underlying67 (by decide) w
  by_cases hc : c = 102
  · subst hc
    have heq : ∀ w, (binOp .eql 67 (.iface 24 (.int .i64 102)) (.iface 24 (.int .i64 102))).run Tryz.prog w = .ok (.bool true) w := fun w => by kernel_rfl
    clear h
    go_enter Tryz.func77, Tryz.ntmps77
    go_wp2
    refine wp_loop_rounds 2 ?_
    rw [rounds_succ]
    go_wp2
    rw [rounds_succ]
    go_wp2
    go_ret
    exact ⟨rfl, rfl⟩
  · rw [decide_eq_false hc]
    have heq : ∀ w, (binOp .eql 67 (.iface 24 (.int .i64 c)) (.iface 24 (.int .i64 102))).run Tryz.prog w = .ok (.bool false) w := fun w => eqn_102 c hc w
    clear h hc
    go_enter Tryz.func77, Tryz.ntmps77
    go_wp2
    refine wp_loop_rounds 2 ?_
    rw [rounds_succ]
    go_wp2
    rw [rounds_succ]
    go_wp2
    go_ret
    exact ⟨rfl, rfl⟩
set_option maxRecDepth 100000 in
set_option maxHeartbeats 2000000 in
theorem eis2 (L L2 : ByteArray) (a a2 c b b2 : Nat) (w : World) (h : w.heap[b]? = some (fltL L a (.iface 156 (.pointer (some ⟨b2, 0, none⟩))))) (h2 : w.heap[b2]? = some (fltL L2 a2 (.iface 24 (.int .i64 c)))) : Calls Tryz.prog 77 #[.iface 156 (.pointer (some ⟨b, 0, none⟩)), .iface 24 (.int .i64 102)] w fun e w' => e = .returned (.bool (decide (c = 102))) ∧ w' = w := by
  have h8 := @run_callFunc_extern Tryz.prog 98 _ ReflectliteType.typeOf Tryz.func98 (by kernel_rfl) (by kernel_rfl) (by kernel_rfl) (by kernel_rfl)
  have tT := tO31
  have cT := cT31
  have n1 := nE1
  have n2 := nE2
  have n3 := nE3
  have f1 := nF1
  have f2 := hF2
  obtain ⟨_, _, c2⟩ := fltL_cells h
  obtain ⟨_, _, d2⟩ := fltL_cells h2
  have hty := run_eql_iface_types (P := Tryz.prog) 156 24 (.pointer (some ⟨b, 0, none⟩)) (.int .i64 102) Tryz.underlying67 (by decide) w
  have hty2 := run_eql_iface_types (P := Tryz.prog) 156 24 (.pointer (some ⟨b2, 0, none⟩)) (.int .i64 102) Tryz.underlying67 (by decide) w
  by_cases hc : c = 102
  · subst hc
    have heq : ∀ w, (binOp .eql 67 (.iface 24 (.int .i64 102)) (.iface 24 (.int .i64 102))).run Tryz.prog w = .ok (.bool true) w := fun w => by kernel_rfl
    clear h h2
    go_enter Tryz.func77, Tryz.ntmps77
    go_wp2
    refine wp_loop_rounds 3 ?_
    rw [rounds_succ]
    go_wp2
    rw [rounds_succ]
    go_wp2
    rw [rounds_succ]
    go_wp2
    go_ret
    exact ⟨rfl, rfl⟩
  · rw [decide_eq_false hc]
    have heq : ∀ w, (binOp .eql 67 (.iface 24 (.int .i64 c)) (.iface 24 (.int .i64 102))).run Tryz.prog w = .ok (.bool false) w := fun w => eqn_102 c hc w
    clear h h2 hc
    go_enter Tryz.func77, Tryz.ntmps77
    go_wp2
    refine wp_loop_rounds 3 ?_
    rw [rounds_succ]
    go_wp2
    rw [rounds_succ]
    go_wp2
    rw [rounds_succ]
    go_wp2
    go_ret
    exact ⟨rfl, rfl⟩
/-- errors.Is of what a reader of messages tells. -/
theorem eis_er (e : Er) (v : Value) (w : World) (h : IsF w e v) : Calls Tryz.prog 77 #[v, .iface 24 (.int .i64 102)] w fun x w' => x = .returned (.bool (is102 e)) ∧ w' = w := by
  cases e with
  | ok =>
    obtain rfl : v = .nilIface := h
    exact eis0 w
  | one a c =>
    obtain ⟨b, rfl, hb⟩ := h
    exact eis1 _ a c b w hb
  | two a a2 c =>
    obtain ⟨b, b2, rfl, hb, hb2⟩ := h
    exact eis2 _ _ a a2 c b b2 w hb hb2

end Go.Proofs.YtabkelhipmijfaaGreatDoor
