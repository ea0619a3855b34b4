/-
  errors.Is of a fault of package host and ErrLabel, and isLabel; conditions as each theorem has them.
-/
import Derived.Test.YtelfikbahcckaaaDoorR
import Derived.Test.YtelfikbahcckaaaDoorQ
set_option linter.unusedSimpArgs false
set_option linter.unusedVariables false
namespace Go.Proofs.YtelfikbahcckaaaDoor
open Go.RowKit Go.Extern.Stop Go.Stop Go.Extern

/-- Is it a fault of ErrLabel? -/
def is61 : Er → Bool
  | .one _ c => decide (c = 61)
  | _ => false
set_option maxHeartbeats 1000000 in
theorem eis_61 (L : ByteArray) (a b : Nat) (w : World) (h : w.heap[b]? = some (fltL L a (.iface 30 (.int .i64 (61 : Nat))))) : Calls Tryd.prog 71 #[.iface 87 (.pointer (some ⟨b, 0, none⟩)), .iface 30 (.int .i64 61)] w fun e w' => e = .returned (.bool true) ∧ w' = w := by
  have h8 := @run_callFunc_extern Tryd.prog 77 _ ReflectliteType.typeOf Tryd.func77 (by kernel_rfl) (by kernel_rfl) (by kernel_rfl) (by kernel_rfl)
  have tT := tO31
  have cT := cT31
  have n1 := nE1
  have n2 := nE2
  have n3 := nE3
  have f1 := nF1
  have f2 := hF2
  obtain ⟨_, _, c2⟩ := fltL_cells h
  have heq : ∀ w, (binOp .eql 25 (.iface 30 (.int .i64 61)) (.iface 30 (.int .i64 61))).run Tryd.prog w = .ok (.bool true) w := fun w => by kernel_rfl
  have hty := run_eql_iface_types (P := Tryd.prog) 87 30 (.pointer (some ⟨b, 0, none⟩)) (.int .i64 61) Tryd.underlying25 (by decide) w
  clear h
  go_enter Tryd.func71, Tryd.ntmps71
  go_wp2
  refine wp_loop_rounds 2 ?_
  rw [rounds_succ]
  go_wp2
  rw [rounds_succ]
  go_wp2
  go_ret
  exact ⟨rfl, rfl⟩
set_option maxRecDepth 100000 in
set_option maxHeartbeats 1000000 in
theorem eis_nil (w : World) : Calls Tryd.prog 71 #[.nilIface, .iface 30 (.int .i64 61)] w fun e w' => e = .returned (.bool false) ∧ w' = w := by
  have heq : ∀ w, (binOp .eql 25 .nilIface (.iface 30 (.int .i64 61))).run Tryd.prog w = .ok (.bool false) w := fun w => by kernel_rfl
  go_enter Tryd.func71, Tryd.ntmps71
  go_wp2_with fail
  go_ret
  exact ⟨rfl, rfl⟩
/-- errors.Is of what a name's reader tells. -/
theorem eis_name (e : Er) (v : Value) (w : World) (h : IsEr w e v) (he : e = .ok ∨ ∃ a c, e = .one a c) : Calls Tryd.prog 71 #[v, .iface 30 (.int .i64 61)] w fun x w' => x = .returned (.bool (is61 e)) ∧ w' = w := by
  rcases he with rfl | ⟨a, c, rfl⟩
  · obtain rfl : v = .nilIface := h
    refine (eis_nil w).mono ?_
    rintro x w' ⟨rfl, rfl⟩
    exact ⟨by simp [is61], rfl⟩
  · obtain ⟨b, rfl, hb⟩ := h
    by_cases hc : c = 61
    · subst hc
      refine (eis_61 _ a b w hb).mono ?_
      rintro x w' ⟨rfl, rfl⟩
      exact ⟨by simp [is61], rfl⟩
    · refine (eis_flt _ a c b w hb hc).mono ?_
      rintro x w' ⟨rfl, rfl⟩
      exact ⟨by simp [is61, hc], rfl⟩
theorem name_er (l : List Nat) : (name l).2 = .ok ∨ ∃ a c, (name l).2 = .one a c := by
  unfold name
  split
  · exact Or.inr ⟨_, _, rfl⟩
  · split
    · exact Or.inr ⟨_, _, rfl⟩
    · split
      · exact Or.inr ⟨_, _, rfl⟩
      · exact Or.inl rfl
/-- A label, as isLabel tells it. -/
theorem lab_is (l : List Nat) (hl : l.length ≤ 253) : labB l = (!decide (46 ∈ l) && !is61 (name l).2) := by
  by_cases h46 : 46 ∈ l
  · have : labB l = false := by
      rw [Bool.eq_false_iff]
      intro h
      have h3 := ((labB_iff l).1 h).2.2
      obtain ⟨i, hi, e⟩ := List.getElem_of_mem h46
      have := h3 i hi
      rw [show l.getD i 0 = 46 by simp [List.getD, List.getElem?_eq_getElem hi, e]] at this
      simp [lbAt, lb, dig] at this
    simp [this, h46]
  · have hp := pcs_one l h46
    cases hb : labB l with
    | true =>
      have : (name l).2 = .ok ∨ (name l).2 = .one (l.length - l.length) 63 := by
        unfold name
        rw [if_neg (by omega), hp]
        simp only [labs, hb, if_true]
        split
        · exact Or.inr (by simp)
        · exact Or.inl rfl
      rcases this with h | h <;> simp [h46, h, is61]
    | false =>
      have : (name l).2 = .one 0 61 := by
        unfold name
        rw [if_neg (by omega), hp]
        simp [labs, hb]
      simp [h46, this, is61]
theorem dot_ix : ∀ l : List UInt8, -1 ≤ Lib.indexByte l 46 ∧ (0 ≤ Lib.indexByte l 46 ↔ 46 ∈ l.map UInt8.toNat)
  | [] => by simp [Lib.indexByte]
  | c :: r => by
    obtain ⟨h1, h2⟩ := dot_ix r
    have hc : (46 = c.toNat) ↔ c = 46 := ⟨fun e => UInt8.toNat_inj.1 e.symm, fun e => by rw [e]; rfl⟩
    rw [Lib.indexByte, List.map_cons, List.mem_cons, hc, ← h2]
    by_cases e : c = 46
    · simp [e]
    · simp only [beq_iff_eq, e, if_false, false_or]
      by_cases e2 : Lib.indexByte r 46 = -1
      · rw [if_pos e2]; omega
      · rw [if_neg e2]; omega
theorem dot_in (t : ByteArray) : decide (0 ≤ Lib.indexByte t.data.toList 46) = decide (46 ∈ byt t) := decide_eq_decide.2 (dot_ix _).2
set_option maxHeartbeats 1000000 in
theorem isLabel_at (t : ByteArray) (w : World) (hm : t.size ≤ 253) (hV : Vars w) : Calls Tryd.prog 64 #[.string t] w fun e w' => e = .returned (.bool (labB (byt t))) ∧ Below w.heap.size w w' := by
  have HP := hide (parseName_at t w (by unfold maxLen; omega) hV)
  have HC := hide (fun w => Tryd.strings_Contains_one t 46 w)
  have HD := hide (dot_in t)
  have HL := hide (lab_is (byt t) (by rw [byt_length]; omega))
  have HE := hide (name_er (byt t))
  obtain ⟨E, hE⟩ : ∃ E, E = (name (byt t)).2 := ⟨_, rfl⟩
  rw [← hE] at HP HL HE
  clear hV hE
  go_enter Tryd.func64, Tryd.ntmps64
  go_wp2_with fail
  refine HP.out.mono ?_
  rintro e w1 ⟨v, rfl, hv, hb⟩
  have HV := hide hv
  have HB := hide hb
  clear hv hb
  go_wp2_with fail
  refine (HC.out w1).mono ?_
  rintro e w2 ⟨rfl, rfl⟩
  rw [HD.out]
  by_cases h46 : 46 ∈ byt t
  · have q : decide (46 ∈ byt t) = true := decide_eq_true h46
    have HR : Hid (labB (byt t) = false) := by show _ = _; rw [HL.out, q]; rfl
    rw [q]
    clear h46 q
    go_wp2_with fail
    go_ret
    exact ⟨by rw [HR.out]; rfl, HB.out⟩
  · have q : decide (46 ∈ byt t) = false := decide_eq_false h46
    have HR : Hid (labB (byt t) = !is61 E) := by show _ = _; rw [HL.out, q]; rfl
    rw [q]
    clear h46 q
    go_wp2_with fail
    refine (eis_name E v w2 HV.out HE.out).mono ?_
    rintro e w3 ⟨rfl, rfl⟩
    go_wp2_with fail
    go_ret
    exact ⟨by rw [HR.out]; rfl, HB.out⟩
end Go.Proofs.YtelfikbahcckaaaDoor
