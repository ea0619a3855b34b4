/-
  Whole numbers, labels' bytes, and faults of package host and of the reference; Wrap of the reference's base; conditions as each theorem has them.
-/
import Derived.Test.YtccoddmdlbdfjaaGreatDoorB
set_option linter.unusedSimpArgs false
set_option linter.unusedVariables false
namespace Go.Proofs.YtccoddmdlbdfjaaGreatDoor
open Go.RowKit

theorem rd_none {l : List Nat} {m : Nat} (h : isNum l = false) : rd l m = none := by simp [rd, h]
theorem isNum_of (l : List Nat) : isNum l = (decide (l ≠ []) && l.all dig && !(decide (1 < l.length) && decide (l.headD 0 = 48))) := rfl
theorem headD_getD (l : List Nat) : l.headD 0 = l.getD 0 0 := by cases l <;> rfl
theorem all_getD {l : List Nat} (h : l.all dig = true) {k : Nat} (hk : k < l.length) : 48 ≤ l.getD k 0 ∧ l.getD k 0 ≤ 57 := by
  rw [List.getD, List.getElem?_eq_getElem hk]
  exact (dig_iff _).1 (List.all_eq_true.1 h _ (List.getElem_mem _))
theorem val_snoc (l : List Nat) (c : Nat) : val 0 (l ++ [c]) = step (val 0 l) c := by rw [val_append, val_cons, val_nil]
theorem val_take_le (l : List Nat) (k : Nat) : val 0 (l.take k) ≤ val 0 l := by
  conv => rhs; rw [← List.take_append_drop k l, val_append]
  exact val_ge _ _

set_option maxHeartbeats 2000000 in
theorem readNumber_at (t : ByteArray) (m : Nat) (w : World) (hm : t.size ≤ maxLen) (hm2 : m ≤ 65535) : Calls Tryz.prog 162 #[.string t, .int .i64 m] w fun e w' => e = .returned (two (rd (byt t) m)) ∧ w = w' := by
  obtain ⟨l, hl⟩ : ∃ l, l = byt t := ⟨_, rfl⟩
  have hix : ∀ i, i < t.size → ∀ w, (Instr.index 9 (.string t) (.int .i64 (i : Nat))).run Tryz.prog w = .ok (.int .u8 (l.getD i 0 : Nat)) w := fun i hi w => by rw [hl]; exact run_ixstr t i hi w
  have hlt : ∀ k, l.getD k 0 < 256 := fun k => by rw [hl]; exact getD_lt (byt_lt t) k
  have hsz : t.size = l.length := by rw [hl, byt_length]
  rw [← hl]
  have HL : Hid (byt t = l) := hl.symm
  have HIX := hide hix
  have HLT := hide hlt
  have HSZ := hide hsz
  obtain ⟨N, hN⟩ : ∃ N, N = t.size := ⟨_, rfl⟩
  have HN := hide hN
  have HMX := hide hm
  rw [← hN] at hm
  unfold maxLen at hm
  have hNI : (t.size : Int) = (N : Int) := by rw [hN]
  have HNL : Hid (N = l.length) := by show _ = _; rw [hN, hsz]
  clear hix hlt hl hsz hN
  cases hA : (decide (l ≠ []) && l.all dig) with
  | false =>
    have HR : Hid (rd l m = none) := rd_none (by rw [isNum_of, hA]; rfl)
    have HA := hide hA
    clear hA
    go_enter Tryz.func162, Tryz.ntmps162
    go_wp2_with fail
    refine (alone_at t _ HMX.out).mono ?_
    rintro e w' ⟨rfl, rfl⟩
    rw [HL.out, HA.out]
    go_wp2_with fail
    go_ret2
    refine ⟨?_, rfl⟩
    rw [HR.out]; rfl
  | true =>
  have HA0 := hide hA
  have HA : Hid (l.all dig = true) := by simp at hA; show _ = _; simpa using hA.2
  have hN0 : 0 < N := by
    simp at hA
    have := List.length_pos_iff.2 hA.1
    have := HNL.out
    omega
  clear hA
  have hx0 := HIX.out 0 (by rw [← HN.out]; exact hN0)
  have hc0 := HLT.out 0
  obtain ⟨c0, hc00⟩ : ∃ c, c = l.getD 0 0 := ⟨_, rfl⟩
  rw [← hc00] at hx0 hc0
  have hx0' : ∀ w, (Instr.index 9 (.string t) (.int .i64 0)).run Tryz.prog w = .ok (.int .u8 (c0 : Nat)) w := hx0
  have HC0 := hide hc00
  clear hc00 hx0
  by_cases h1N : 1 < N
  · have hd1 : decide (1 < (N : Int)) = true := decide_eq_true (by omega)
    have hd1' : decide (1 < N) = true := decide_eq_true (by omega)
    by_cases h48 : c0 = 48
    · have hb : ((c0 : Int) == 48) = true := by simp; omega
      have HR : Hid (rd l m = none) := rd_none (by
        rw [isNum_of, HA0.out, headD_getD, ← HC0.out, h48, ← HNL.out]; simp [h1N])
      clear h48
      go_enter Tryz.func162, Tryz.ntmps162
      go_wp2_with fail
      refine (alone_at t _ HMX.out).mono ?_
      rintro e w' ⟨rfl, rfl⟩
      rw [HL.out, HA0.out]
      go_wp2_with fail
      go_ret2
      refine ⟨?_, rfl⟩
      rw [HR.out]; rfl
    · have hb : ((c0 : Int) == 48) = false := by simp; omega
      have HP : Hid (isNum l = true) := by show _ = _; rw [isNum_of, HA0.out, headD_getD, ← HC0.out]; simp [h48]
      clear h48
      go_enter Tryz.func162, Tryz.ntmps162
      go_wp2_with fail
      refine (alone_at t _ HMX.out).mono ?_
      rintro e w' ⟨rfl, rfl⟩
      rw [HL.out, HA0.out]
      go_wp2_with fail
      clear hb hx0' hc0 hd1 hd1'
      go_loop [6, 23] (fun n i => ∃ k : Nat, k ≤ N ∧ i = .int .i64 k ∧ ∃ v : Nat, n = .int .i64 v ∧ v ≤ m ∧ Hid (v = val 0 (l.take k))) (fun _ i => N - (intOf i).toNat)
      case atStart => exact ⟨0, by omega, rfl, 0, rfl, by omega, rfl⟩
      case round =>
        obtain ⟨k, hk, rfl, v, rfl, hvm, HI⟩ := hrel
        by_cases h1 : k < N
        · have hx := HIX.out k (by rw [← HN.out]; exact h1)
          have hl : k < l.length := by rw [← HSZ.out, ← HN.out]; exact h1
          obtain ⟨hc1, hc2⟩ := all_getD HA.out hl
          have HT : Hid (val 0 (l.take (k + 1)) = step v (l.getD k 0)) := by show _ = _; rw [take_snoc l k hl, val_snoc, ← HI.out]
          obtain ⟨c, hcc⟩ : ∃ c, c = l.getD k 0 := ⟨_, rfl⟩
          rw [← hcc] at hx hc1 hc2 HT
          obtain ⟨V, hV⟩ : ∃ V, V = step v c := ⟨_, rfl⟩
          rw [← hV] at HT
          have hVI : (v : Int) * 10 + ((c : Int) - 48) = (V : Int) := by rw [hV, step]; omega
          clear hV hcc hl
          have hd : decide ((k : Int) < (N : Int)) = true := decide_eq_true (by omega)
          by_cases h2 : V ≤ m
          · have hd2 : decide ((m : Int) < (V : Int)) = false := decide_eq_false (by omega)
            have hd3 : decide (m < V) = false := decide_eq_false (by omega)
            go_wp2_with fail
            go_round
            case rel => exact ⟨k + 1, by omega, by go_num, V, by first | rfl | go_num, h2, HT.out.symm⟩
            case measure => simp [intOf]; omega
          · have hd2 : decide ((m : Int) < (V : Int)) = true := decide_eq_true (by omega)
            have hd3 : decide (m < V) = true := decide_eq_true (by omega)
            have HR : Hid (rd l m = none) := by
              have := val_take_le l (k + 1)
              rw [HT.out] at this
              show rd l m = none
              rw [rd, if_neg (by omega)]
            go_wp2_with fail
            go_ret2
            refine ⟨?_, rfl⟩
            rw [HR.out]; rfl
        · have hd : decide ((k : Int) < (N : Int)) = false := decide_eq_false (by omega)
          have HR : Hid (rd l m = some v) := by
            have := HI.out
            rw [List.take_of_length_le (by rw [← HSZ.out, ← HN.out]; omega)] at this
            show rd l m = some v
            rw [rd, ← this, if_pos ⟨HP.out, hvm⟩]
          go_wp2_with fail
          go_ret2
          refine ⟨?_, rfl⟩
          rw [HR.out]; rfl
  · have hd1 : decide (1 < (N : Int)) = false := decide_eq_false (by omega)
    have hd1' : decide (1 < N) = false := decide_eq_false (by omega)
    have HP : Hid (isNum l = true) := by show _ = _; rw [isNum_of, HA0.out, ← HNL.out]; simp [h1N]
    go_enter Tryz.func162, Tryz.ntmps162
    go_wp2_with fail
    refine (alone_at t _ HMX.out).mono ?_
    rintro e w' ⟨rfl, rfl⟩
    rw [HL.out, HA0.out]
    go_wp2_with fail
    clear hx0' hc0 hd1 hd1'
    go_loop [6, 23] (fun n i => ∃ k : Nat, k ≤ N ∧ i = .int .i64 k ∧ ∃ v : Nat, n = .int .i64 v ∧ v ≤ m ∧ Hid (v = val 0 (l.take k))) (fun _ i => N - (intOf i).toNat)
    case atStart => exact ⟨0, by omega, rfl, 0, rfl, by omega, rfl⟩
    case round =>
      obtain ⟨k, hk, rfl, v, rfl, hvm, HI⟩ := hrel
      by_cases h1 : k < N
      · have hx := HIX.out k (by rw [← HN.out]; exact h1)
        have hl : k < l.length := by rw [← HSZ.out, ← HN.out]; exact h1
        obtain ⟨hc1, hc2⟩ := all_getD HA.out hl
        have HT : Hid (val 0 (l.take (k + 1)) = step v (l.getD k 0)) := by show _ = _; rw [take_snoc l k hl, val_snoc, ← HI.out]
        obtain ⟨c, hcc⟩ : ∃ c, c = l.getD k 0 := ⟨_, rfl⟩
        rw [← hcc] at hx hc1 hc2 HT
        obtain ⟨V, hV⟩ : ∃ V, V = step v c := ⟨_, rfl⟩
        rw [← hV] at HT
        have hVI : (v : Int) * 10 + ((c : Int) - 48) = (V : Int) := by rw [hV, step]; omega
        clear hV hcc hl
        have hd : decide ((k : Int) < (N : Int)) = true := decide_eq_true (by omega)
        by_cases h2 : V ≤ m
        · have hd2 : decide ((m : Int) < (V : Int)) = false := decide_eq_false (by omega)
          have hd3 : decide (m < V) = false := decide_eq_false (by omega)
          go_wp2_with fail
          go_round
          case rel => exact ⟨k + 1, by omega, by go_num, V, by first | rfl | go_num, h2, HT.out.symm⟩
          case measure => simp [intOf]; omega
        · have hd2 : decide ((m : Int) < (V : Int)) = true := decide_eq_true (by omega)
          have hd3 : decide (m < V) = true := decide_eq_true (by omega)
          have HR : Hid (rd l m = none) := by
            have := val_take_le l (k + 1)
            rw [HT.out] at this
            show rd l m = none
            rw [rd, if_neg (by omega)]
          go_wp2_with fail
          go_ret2
          refine ⟨?_, rfl⟩
          rw [HR.out]; rfl
      · have hd : decide ((k : Int) < (N : Int)) = false := decide_eq_false (by omega)
        have HR : Hid (rd l m = some v) := by
          have := HI.out
          rw [List.take_of_length_le (by rw [← HSZ.out, ← HN.out]; omega)] at this
          show rd l m = some v
          rw [rd, ← this, if_pos ⟨HP.out, hvm⟩]
        go_wp2_with fail
        go_ret2
        refine ⟨?_, rfl⟩
        rw [HR.out]; rfl

/-- What 'labelByte' tells of a byte that may be so within, or not. -/
def lbOk (c : Nat) (b : Bool) : Bool := lb c && (!decide (c = 45) || b)
def lbV (c : Nat) (b : Bool) : Nat := if lbOk c b = true then lo c else 0

set_option maxHeartbeats 1000000 in
theorem labelByte_at (c : Nat) (b : Bool) (w : World) (hc : c < 256) : Calls Tryz.prog 212 #[.int .u8 c, .bool b] w fun e w' => e = .returned (.tuple #[.int .u8 (lbV c b : Nat), .bool (lbOk c b)]) ∧ w = w' := by
  by_cases hU : 65 ≤ c ∧ c ≤ 90
  · have hok : lbOk c b = true := by simp [lbOk, lb, dig]; omega
    have hv : (lbV c b : Nat) = c + 32 := by rw [lbV, if_pos hok, lo, if_pos hU]
    rw [hok, hv]
    have d1 : decide (65 ≤ (c : Int)) = true := decide_eq_true (by omega)
    have d2 : decide ((c : Int) ≤ 90) = true := decide_eq_true (by omega)
    have hU1 := hU.1
    have hU2 := hU.2
    clear hok hv
    go_enter Tryz.func212, Tryz.ntmps212
    go_wp2
    go_ret2
    exact ⟨by simp, rfl⟩
  by_cases hS : 97 ≤ c ∧ c ≤ 122
  · have hok : lbOk c b = true := by simp [lbOk, lb, dig]; omega
    have hv : (lbV c b : Nat) = c := by rw [lbV, if_pos hok, lo, if_neg hU]
    rw [hok, hv]
    have hS1 := hS.1
    have hS2 := hS.2
    have hU1 : ¬ c ≤ 90 := by omega
    clear hok hv hU
    go_enter Tryz.func212, Tryz.ntmps212
    go_wp2
    go_ret2
    exact ⟨by simp, rfl⟩
  by_cases hD : dig c = true
  · have hok : lbOk c b = true := by simp [lbOk, lb, hD, dig] at hD ⊢; omega
    have hv : (lbV c b : Nat) = c := by rw [lbV, if_pos hok, lo, if_neg hU]
    rw [hok, hv]
    have hD' := (dig_iff c).1 hD
    have hU1 : c < 65 := by omega
    have HD := hide hD
    clear hok hv hU hS hD' hD
    go_enter Tryz.func212, Tryz.ntmps212
    go_wp2_with fail
    refine (isDigit_at c _ hc).mono ?_
    rintro e w' ⟨rfl, rfl⟩
    rw [HD.out]
    go_wp2_with fail
    go_ret2
    exact ⟨by simp, rfl⟩
  have HD : Hid (dig c = false) := by show _ = _; simpa using hD
  by_cases h45 : c = 45
  · subst h45
    clear hU hS hD
    cases b
    · go_enter Tryz.func212, Tryz.ntmps212
      go_wp2_with fail
      refine (isDigit_at 45 _ (by omega)).mono ?_
      rintro e w' ⟨rfl, rfl⟩
      rw [HD.out]
      go_wp2_with fail
      go_ret2
      exact ⟨rfl, rfl⟩
    · go_enter Tryz.func212, Tryz.ntmps212
      go_wp2_with fail
      refine (isDigit_at 45 _ (by omega)).mono ?_
      rintro e w' ⟨rfl, rfl⟩
      rw [HD.out]
      go_wp2_with fail
      go_ret2
      exact ⟨rfl, rfl⟩
  · have hok : lbOk c b = false := by
      have := HD.out
      simp [lbOk, lb, this]; omega
    have hv : (lbV c b : Nat) = 0 := by rw [lbV, if_neg (by simp [hok])]
    rw [hok, hv]
    have hb : ((c : Int) == 45) = false := by simp; omega
    clear hok hv hD h45
    by_cases h65 : 65 ≤ c
    · have h90 : ¬ c ≤ 90 := fun h => hU ⟨h65, h⟩
      clear hU
      by_cases h97 : 97 ≤ c
      · have h122 : ¬ c ≤ 122 := fun h => hS ⟨h97, h⟩
        clear hS
        go_enter Tryz.func212, Tryz.ntmps212
        go_wp2_with fail
        refine (isDigit_at c _ hc).mono ?_
        rintro e w' ⟨rfl, rfl⟩
        rw [HD.out]
        go_wp2_with fail
        go_ret2
        exact ⟨rfl, rfl⟩
      · clear hS
        go_enter Tryz.func212, Tryz.ntmps212
        go_wp2_with fail
        refine (isDigit_at c _ hc).mono ?_
        rintro e w' ⟨rfl, rfl⟩
        rw [HD.out]
        go_wp2_with fail
        go_ret2
        exact ⟨rfl, rfl⟩
    · clear hU hS
      go_enter Tryz.func212, Tryz.ntmps212
      go_wp2_with fail
      refine (isDigit_at c _ hc).mono ?_
      rintro e w' ⟨rfl, rfl⟩
      rw [HD.out]
      go_wp2_with fail
      go_ret2
      exact ⟨rfl, rfl⟩

/-- The layer's name. -/
def hs : ByteArray := ⟨#[104, 111, 115, 116]⟩
/-- A fault in memory. -/
def flt (a : Nat) (e : Value) : Obj := .cells #[.string ⟨#[104, 111, 115, 116]⟩, .int .i64 a, e] 147
/-- The error value v tells e. -/
def IsEr (w : World) : Er → Value → Prop
  | .ok, v => v = .nilIface
  | .one a c, v => ∃ b, v = .iface 145 (.pointer (some ⟨b, 0, none⟩)) ∧ w.heap[b]? = some (flt a (.iface 44 (.int .i64 c)))
  | .two a a2 c, v => ∃ b b2, v = .iface 145 (.pointer (some ⟨b, 0, none⟩)) ∧ w.heap[b]? = some (flt a (.iface 145 (.pointer (some ⟨b2, 0, none⟩)))) ∧ w.heap[b2]? = some (flt a2 (.iface 44 (.int .i64 c)))
theorem IsEr.below {w w' : World} {e : Er} {v : Value} (h : IsEr w e v) (k : Below w.heap.size w w') : IsEr w' e v := by
  cases e with
  | ok => exact h
  | one a c =>
    obtain ⟨b, hv, hb⟩ := h
    exact ⟨b, hv, (k.block b (lt_of_some hb)).trans hb⟩
  | two a a2 c =>
    obtain ⟨b, b2, hv, hb, hb2⟩ := h
    exact ⟨b, b2, hv, (k.block b (lt_of_some hb)).trans hb, (k.block b2 (lt_of_some hb2)).trans hb2⟩
theorem refuse_at (a c : Nat) (w : World) : Calls Tryz.prog 127 #[.int .i64 a, .int .i64 c] w fun e w' => e = .returned (.iface 145 (.pointer (some ⟨w.heap.size, 0, none⟩))) ∧ w' = w.alloc (flt a (.iface 44 (.int .i64 c))) := by
  go_enter Tryz.func127, Tryz.ntmps127
  go_wp2
  go_ret
  exact ⟨rfl, rfl⟩
theorem refuse_er (a c : Nat) (w : World) : Calls Tryz.prog 127 #[.int .i64 a, .int .i64 c] w fun e w' => ∃ v, e = .returned v ∧ IsEr w' (.one a c) v ∧ Below w.heap.size w w' := by
  refine (refuse_at a c w).mono ?_
  rintro e w' ⟨rfl, rfl⟩
  exact ⟨_, rfl, ⟨_, rfl, alloc_new _ _⟩, (Below.refl _ _).alloc (Nat.le_refl _) _⟩

/-- What the reference tells of it. -/
def badV : Er → Value
  | .ok => .agg #[.int .i64 0, .string ⟨#[]⟩, .string ⟨#[]⟩, .string ⟨#[]⟩, .string ⟨#[]⟩, .int .i64 0, .int .i64 0, .int .i64 0, .int .i64 0, .int .i64 0]
  | .one a c => .agg #[.int .i64 1, .string ⟨#[104, 111, 115, 116]⟩, .string ⟨#[]⟩, .string ⟨#[]⟩, .string ⟨#[]⟩, .int .i64 a, .int .i64 0, .int .i64 0, .int .i64 0, .int .i64 c]
  | .two a b c => .agg #[.int .i64 2, .string ⟨#[104, 111, 115, 116]⟩, .string ⟨#[104, 111, 115, 116]⟩, .string ⟨#[]⟩, .string ⟨#[]⟩, .int .i64 a, .int .i64 b, .int .i64 0, .int .i64 0, .int .i64 c]
set_option maxHeartbeats 1000000 in
theorem fail_at (a c : Nat) (w : World) : Calls Tryz.prog 41 #[.string ⟨#[104, 111, 115, 116]⟩, .int .i64 a, .int .i64 c] w fun e w' => e = .returned (badV (.one a c)) ∧ Below w.heap.size w w' := by
  go_enter Tryz.func41, Tryz.ntmps41
  go_wp2
  go_returns
  exact ⟨rfl, ((Below.refl _ _).alloc (Nat.le_refl _) _).alloc (by simp) _⟩
/-- A store of a row, the world behind it named. -/
theorem wpList_store_rowW {P : Program} {ops : Array Oper} {rest : List Oper} {o : Oper} {a : Act} {w : World} {Q : Exit → Act → World → Prop} (hgd : o.guard = none) (ty : TypeId) (x y : Operand) (ho : o.op = .store ty x y)
    (g : Nat) (cells : Array Value) (hx : a.eval x = .pointer (some ⟨g, 0, none⟩)) (hy : a.eval y = .agg cells)
    (t : TypeId) (old : Array Value) (hg : w.heap[g]? = some (.cells old t (0, 0))) (hi : (P.info? ty).map (·.size) = some cells.size)
    (hold : old.size = cells.size) (h1 : cells.all (·.oneCell') = true) (W2 : World) (hW : W2 = w.setRow g cells)
    (h : wpList P ops Q rest (a.put o.dst undef) W2) : wpList P ops Q (o :: rest) a w :=
  wpList_store_row hgd ty x y ho g cells hx hy t old hg hi hold h1 (by rw [← hW]; exact h)
theorem res_cell_tmp {P : Program} {fn : Func} {p u : Tmp} {ty : TypeId} (h : fn.results = #[.cell p ty, .tmp u]) (tmps : Array Value) (w : World) (g : Nat) (t : TypeId) (cs : Array Value) (fr : Nat × Nat) (d : TypeDesc)
    (hp : tmps.getD p undef = .pointer (some ⟨g, 0, none⟩)) (hg : w.heap[g]? = some (.cells cs t fr))
    (hu : P.underlying ty = some d) (hd : (match d with | .struct _ | .array _ _ => true | _ => false) = true) (hi : (P.info? ty).map (·.size) = some cs.size) :
    (results fn tmps).run P w = .ok (.tuple #[.agg cs, tmps.getD u undef]) w := by
  have hp' : tmps[p]?.getD undef = .pointer (some ⟨g, 0, none⟩) := by simpa using hp
  rw [results_cell_tmp h]
  simp [hp', asAddr, run_loadVar_row w g t ty cs fr d hg hu hd hi, Result.andThen]
theorem info32 : (Tryz.prog.info? 89).map (·.size) = some 10 := by kernel_rfl
theorem info37 : (Tryz.prog.info? 27).map (·.size) = some 4 := by kernel_rfl
theorem info39 : (Tryz.prog.info? 29).map (·.size) = some 5 := by kernel_rfl
theorem info41 : (Tryz.prog.info? 31).map (·.size) = some 6 := by kernel_rfl
theorem setRow_heap (w : World) (g : Nat) (cs old : Array Value) (t : TypeId) (h : w.heap[g]? = some (.cells old t)) : (w.setRow g cs).heap[g]? = some (.cells cs t) := by
  have hg := lt_of_some h
  have e : w.heap[g] = .cells old t := by rw [Array.getElem?_eq_getElem hg] at h; exact Option.some.inj h
  simp [World.setRow, hg, Array.getElem_modify, e]
theorem below_setRow {w w' : World} {B : Nat} (h : Below B w w') {g : Nat} (hg : B ≤ g) (cs : Array Value) : Below B w (w'.setRow g cs) :=
  ⟨h.os, h.tape, h.output, by simp [World.setRow]; exact h.size, fun k hk => by
    rw [← h.block k hk]
    simp [World.setRow, Array.getElem?_modify]
    intro e; omega⟩
/-- The cells that the reference tells. -/
def badC : Er → Array Value
  | e => match badV e with
    | .agg c => c
    | _ => #[]
theorem badV_badC (e : Er) : badV e = .agg (badC e) := by cases e <;> rfl
theorem badC_size (e : Er) : (badC e).size = 10 := by cases e <;> rfl
theorem badC_one (e : Er) : (badC e).all (·.oneCell') = true := by cases e <;> simp [badC, badV, Value.oneCell']
set_option maxHeartbeats 1000000 in
theorem fault_at (a c : Nat) (w : World) : Calls Tryz.prog 143 #[.int .i64 a, .int .i64 c] w fun e w' => e = .returned (badV (.one a c)) ∧ Below w.heap.size w w' := by
  go_enter Tryz.func143, Tryz.ntmps143
  go_wp2_with fail
  refine (fail_at a c _).mono ?_
  rintro e w' ⟨rfl, hbel⟩
  have hr : w'.heap[w.heap.size]? = some (.cells (badC .ok) 89) := (hbel.block w.heap.size (by simp)).trans (alloc_new _ _)
  obtain ⟨W2, hW2⟩ : ∃ W2, W2 = w'.setRow w.heap.size (badC (.one a c)) := ⟨_, rfl⟩
  have hrow : W2.heap[w.heap.size]? = some (.cells (badC (.one a c)) 89) := by rw [hW2]; exact setRow_heap _ _ _ _ _ hr
  have hB : Below w.heap.size w W2 := by
    have h1 : Below w.heap.size w w' := ((Below.refl _ w).alloc (Nat.le_refl _) _).trans (hbel.mono (by simp))
    rw [hW2]; exact below_setRow h1 (Nat.le_refl _) _
  have HR := hide hr
  have HW := hide hW2
  have HROW := hide hrow
  have HB := hide hB
  clear hr hW2 hrow hB hbel
  rw [badV_badC]
  go_wp2_with (first | (refine wpList_store_rowW rfl 89 _ _ rfl w.heap.size (badC (.one a c)) rfl rfl 89 (badC .ok) HR.out info32 rfl (badC_one _) W2 HW.out ?_))
  refine bodyPost_ret (results_cell_row rfl _ _ w.heap.size 89 (badC (.one a c)) (0, 0) _ rfl HROW.out Tryz.underlying89 rfl info32) rfl ⟨rfl, HB.out⟩
end Go.Proofs.YtccoddmdlbdfjaaGreatDoor

set_option linter.unusedSimpArgs false
set_option linter.unusedVariables false
namespace Go.Proofs.YtccoddmdlbdfjaaGreatDoor
open Go.RowKit

set_option maxRecDepth 100000 in
set_option maxHeartbeats 4000000 in
theorem wrapB_at (a b c : Nat) (w : World) : Calls Tryz.prog 107 #[.string ⟨#[104, 111, 115, 116]⟩, .int .i64 a, badV (.one b c)] w fun e w' => e = .returned (badV (.two a b c)) ∧ Below w.heap.size w w' := by
  simp only [badV]
  go_enter Tryz.func107, Tryz.ntmps107
  go_wp2_with fail
  refine wp_loop_rounds 2 ?_
  rw [rounds_succ]
  go_wp2_with fail
  go_region
  all_goals (try go_wp2_with fail)
  all_goals rw [rounds_succ]
  all_goals go_wp2_with fail
  all_goals go_returns
  all_goals refine ⟨rfl, ?_⟩
  all_goals (repeat (first | exact Below.refl _ _ | refine Below.drew ?_ | refine Below.setCell ?_ (by simp) _ | refine Below.alloc ?_ (by simp <;> omega) _))
end Go.Proofs.YtccoddmdlbdfjaaGreatDoor
