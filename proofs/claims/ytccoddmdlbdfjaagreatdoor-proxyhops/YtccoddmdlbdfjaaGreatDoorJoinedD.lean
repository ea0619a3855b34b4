/-
  Faults of package head in memory, and what the reference's base tells of an error; Rows that are loaded where a guard is met; refuse, wrap and readField of package head; conditions as each theorem has them.
-/
import Derived.Test.YtccoddmdlbdfjaaGreatDoorU2
import Derived.Test.YtccoddmdlbdfjaaGreatDoorN2
import Derived.ChangeKeysEq
import Derived.Test.YtccoddmdlbdfjaaGreatDoorJoinedHB
import Derived.Test.YtccoddmdlbdfjaaGreatDoorJoinedF
set_option linter.unusedSimpArgs false
set_option linter.unusedVariables false
namespace Go.Proofs.YtccoddmdlbdfjaaGreatDoor
open Go.RowKit

/-- A fault of a layer in memory. -/
def fltL (L : ByteArray) (a : Nat) (e : Value) : Obj := .cells #[.string L, .int .i64 a, e] 147
theorem flt_L (a : Nat) (e : Value) : flt a e = fltL ⟨#[104, 111, 115, 116]⟩ a e := rfl
/-- The error value v tells e: a fault of package head, with a fault of package host within. -/
def IsH (w : World) : Hr → Value → Prop
  | .ok, v => v = .nilIface
  | .one a c, v => ∃ b, v = .iface 145 (.pointer (some ⟨b, 0, none⟩)) ∧ w.heap[b]? = some (fltL ⟨#[104, 101, 97, 100]⟩ a (.iface 44 (.int .i64 c)))
  | .wr a e, v => e ≠ .ok ∧ ∃ b u, v = .iface 145 (.pointer (some ⟨b, 0, none⟩)) ∧ w.heap[b]? = some (fltL ⟨#[104, 101, 97, 100]⟩ a u) ∧ IsEr w e u
theorem IsH.below {w w' : World} {e : Hr} {v : Value} (h : IsH w e v) (k : Below w.heap.size w w') : IsH w' e v := by
  cases e with
  | ok => exact h
  | one a c =>
    obtain ⟨b, hv, hb⟩ := h
    exact ⟨b, hv, (k.block b (lt_of_some hb)).trans hb⟩
  | wr a e =>
    obtain ⟨he, b, u, hv, hb, hu⟩ := h
    exact ⟨he, b, u, hv, (k.block b (lt_of_some hb)).trans hb, hu.below k⟩
theorem IsH.nil {w : World} {e : Hr} {v : Value} (h : IsH w e v) (he : e = .ok) : v = .nilIface := by subst he; exact h
theorem IsH.ptr {w : World} {e : Hr} {v : Value} (h : IsH w e v) (he : e ≠ .ok) : ∃ b, v = .iface 145 (.pointer (some ⟨b, 0, none⟩)) := by
  cases e with
  | ok => exact absurd rfl he
  | one a c => obtain ⟨b, hv, _⟩ := h; exact ⟨b, hv⟩
  | wr a e => obtain ⟨_, b, u, hv, _⟩ := h; exact ⟨b, hv⟩
/-- What the reference tells of it. -/
def badH : Hr → Value
  | .ok => badV .ok
  | .one a c => .agg #[.int .i64 1, .string ⟨#[104, 101, 97, 100]⟩, .string ⟨#[]⟩, .string ⟨#[]⟩, .string ⟨#[]⟩, .int .i64 a, .int .i64 0, .int .i64 0, .int .i64 0, .int .i64 c]
  | .wr a (.one b c) => .agg #[.int .i64 2, .string ⟨#[104, 101, 97, 100]⟩, .string ⟨#[104, 111, 115, 116]⟩, .string ⟨#[]⟩, .string ⟨#[]⟩, .int .i64 a, .int .i64 b, .int .i64 0, .int .i64 0, .int .i64 c]
  | .wr a (.two b b2 c) => .agg #[.int .i64 3, .string ⟨#[104, 101, 97, 100]⟩, .string ⟨#[104, 111, 115, 116]⟩, .string ⟨#[104, 111, 115, 116]⟩, .string ⟨#[]⟩, .int .i64 a, .int .i64 b, .int .i64 b2, .int .i64 0, .int .i64 c]
  | .wr _ .ok => badV .ok
def badG : Hr → Array Value
  | e => match badH e with
    | .agg c => c
    | _ => #[]
theorem badH_badG (e : Hr) : badH e = .agg (badG e) := by
  cases e with
  | wr a e => cases e <;> rfl
  | _ => rfl
theorem badG_size (e : Hr) : (badG e).size = 10 := by
  cases e with
  | wr a e => cases e <;> rfl
  | _ => rfl
theorem badG_one (e : Hr) : (badG e).all (·.oneCell') = true := by
  cases e with
  | wr a e => cases e <;> simp [badG, badH, badV, Value.oneCell']
  | _ => simp [badG, badH, badV, Value.oneCell']
theorem badG_ok : badG .ok = badC .ok := rfl
theorem badGI (e : Hr) : (Tryz.prog.info? 89).map (·.size) = some (badG e).size := by rw [badG_size]; exact info32

theorem fltL_cells {w : World} {b a : Nat} {L : ByteArray} {e : Value} (h : w.heap[b]? = some (fltL L a e)) : w.cell? ⟨b, 0, none⟩ = some (.string L) ∧ w.cell? ⟨b, 1, none⟩ = some (.int .i64 a) ∧ w.cell? ⟨b, 2, none⟩ = some e := by
  refine ⟨?_, ?_, ?_⟩ <;> simp [World.cell?, h, fltL]

attribute [local go_sem ↓] run_op32 run_opst32 Go.wp_at_zero Go.wp_at_succ
attribute [local go_sem] rowOf_drew isRow_drew arrAt_ptr isAt_ptr putAt_ptr canPut_drew setRow_drew
/-- The box of what is told, behind j faults. -/
def rowA (a a2 a3 : Nat) : Nat → Array Value
  | 0 => badC .ok
  | 1 => #[.int .i64 1, .string ⟨#[104, 101, 97, 100]⟩, .string ⟨#[]⟩, .string ⟨#[]⟩, .string ⟨#[]⟩, .int .i64 a, .int .i64 0, .int .i64 0, .int .i64 0, .int .i64 0]
  | 2 => #[.int .i64 2, .string ⟨#[104, 101, 97, 100]⟩, .string ⟨#[104, 111, 115, 116]⟩, .string ⟨#[]⟩, .string ⟨#[]⟩, .int .i64 a, .int .i64 a2, .int .i64 0, .int .i64 0, .int .i64 0]
  | _ => #[.int .i64 3, .string ⟨#[104, 101, 97, 100]⟩, .string ⟨#[104, 111, 115, 116]⟩, .string ⟨#[104, 111, 115, 116]⟩, .string ⟨#[]⟩, .int .i64 a, .int .i64 a2, .int .i64 a3, .int .i64 0, .int .i64 0]
def valA (b b2 b3 c : Nat) : Nat → Value
  | 0 => .iface 145 (.pointer (some ⟨b, 0, none⟩))
  | 1 => .iface 145 (.pointer (some ⟨b2, 0, none⟩))
  | 2 => .iface 145 (.pointer (some ⟨b3, 0, none⟩))
  | _ => .iface 44 (.int .i64 c)
def numA (w : World) (S : Nat) : Nat := match w.cell? ⟨S, 0, none⟩ with
  | some (.int _ n) => 3 - n.toNat
  | _ => 0
theorem keep3 {w : World} {S o1 o2 o3 : Nat} {v1 v2 v3 : Value} {x : Obj} (h : w.heap[S]? = some x) : (((w.setCell ⟨S + 1, o1, none⟩ v1).setCell ⟨S + 1, o2, none⟩ v2).setCell ⟨S + 1, o3, none⟩ v3).heap[S]? = some x := by
  rw [Below.heap_setCell _ _ _ _ (by simp), Below.heap_setCell _ _ _ _ (by simp), Below.heap_setCell _ _ _ _ (by simp)]; exact h
theorem numA_row {w : World} {S a a2 a3 j : Nat} (hj : j ≤ 3) (h : w.heap[S]? = some (.cells (rowA a a2 a3 j) 89)) : numA w S = 3 - j := by
  rcases (show j = 0 ∨ j = 1 ∨ j = 2 ∨ j = 3 by omega) with rfl | rfl | rfl | rfl <;> simp [numA, World.cell?, h, rowA, badC, badV]
theorem rowA_next {w : World} {S a a2 a3 j : Nat} (hj : j < 3) (L : ByteArray) (x : Nat) (hL : L = if j = 0 then ⟨#[104, 101, 97, 100]⟩ else ⟨#[104, 111, 115, 116]⟩) (hx : x = if j = 0 then a else if j = 1 then a2 else a3) (h : w.heap[S]? = some (.cells (rowA a a2 a3 j) 89)) :
    (((w.setCell ⟨S, 1 + j, none⟩ (.string L)).setCell ⟨S, 5 + j, none⟩ (.int .i64 (x : Nat))).setCell ⟨S, 0, none⟩ (.int .i64 ((j : Int) + 1))).heap[S]? = some (.cells (rowA a a2 a3 (j + 1)) 89) := by
  have := heap_setCell_same (heap_setCell_same (heap_setCell_same h (1 + j) (.string L)) (5 + j) (.int .i64 (x : Nat))) 0 (.int .i64 ((j : Int) + 1))
  rw [this, hL, hx]
  rcases (show j = 0 ∨ j = 1 ∨ j = 2 by omega) with rfl | rfl | rfl <;> rfl
end Go.Proofs.YtccoddmdlbdfjaaGreatDoor

set_option linter.unusedSimpArgs false
set_option linter.unusedVariables false
namespace Go.Proofs.YtccoddmdlbdfjaaGreatDoor
open Go.RowKit

theorem wpList_load_rowG {P : Program} {ops : Array Oper} {rest : List Oper} {o : Oper} {a : Act} {w : World} {Q : Exit → Act → World → Prop} (hgd : Region.wanted o (yielded ops a.tmps) = true) (ty : TypeId) (x : Operand) (ho : o.op = .load ty x)
    (g : Nat) (hx : a.eval x = .pointer (some ⟨g, 0, none⟩)) (t : TypeId) (cs : Array Value) (fr : Nat × Nat) (d : TypeDesc) (hg : w.heap[g]? = some (.cells cs t fr))
    (hu : P.underlying ty = some d) (hd : (match d with | .struct _ | .array _ _ => true | _ => false) = true) (hi : (P.info? ty).map (·.size) = some cs.size)
    (h : wpList P ops Q rest (a.put o.dst (.agg cs)) w) : wpList P ops Q (o :: rest) a w :=
  BigFrame.wpList_want hgd fun _ hK => wp_load_row ty x ho g hx t cs fr d hg hu hd hi (hK _ _ h)
theorem keepB {w w' : World} {b : Nat} {o : Obj} (k : Below w.heap.size w w') (h : w.heap[b]? = some o) : w'.heap[b]? = some o := (k.block b (lt_of_some h)).trans h
theorem badI (e : Er) : (Tryz.prog.info? 89).map (·.size) = some (badC e).size := by rw [badC_size]; exact info32

theorem lab_of (p : List Nat) (h : 1 ≤ p.length ∧ p.length ≤ 63 ∧ ∀ i, i < p.length → lbAt (p.getD i 0) i p.length = true) : labB p = true := (labB_iff p).2 h
end Go.Proofs.YtccoddmdlbdfjaaGreatDoor

set_option linter.unusedSimpArgs false
set_option linter.unusedVariables false
namespace Go.Proofs.YtccoddmdlbdfjaaGreatDoor
open Go.RowKit

theorem refuseH (a c : Nat) (w : World) : Calls Tryz.prog 53 #[.int .i64 a, .int .i64 c] w fun e w' => e = .returned (.iface 145 (.pointer (some ⟨w.heap.size, 0, none⟩))) ∧ w' = w.alloc (fltL ⟨#[104, 101, 97, 100]⟩ a (.iface 44 (.int .i64 c))) := by
  go_enter Tryz.func53, Tryz.ntmps53
  go_wp2
  go_ret
  exact ⟨rfl, rfl⟩
theorem refuseH_er (a c : Nat) (w : World) : Calls Tryz.prog 53 #[.int .i64 a, .int .i64 c] w fun e w' => ∃ v, e = .returned v ∧ IsH w' (.one a c) v ∧ Below w.heap.size w w' := by
  refine (refuseH a c w).mono ?_
  rintro e w' ⟨rfl, rfl⟩
  exact ⟨_, rfl, ⟨_, rfl, alloc_new _ _⟩, (Below.refl _ _).alloc (Nat.le_refl _) _⟩
theorem wrapH_nil (a : Nat) (w : World) : Calls Tryz.prog 94 #[.int .i64 a, .nilIface] w fun e w' => e = .returned .nilIface ∧ Below w.heap.size w w' := by
  go_enter Tryz.func94, Tryz.ntmps94
  go_wp2_with (first | (go_at_call 132; refine (as_nil _ _).mono ?_; rintro e w' ⟨rfl, rfl⟩))
  go_ret
  exact ⟨rfl, (Below.refl _ _).alloc (Nat.le_refl _) _⟩
theorem isEr_ptr {w : World} {e : Er} {v : Value} (h : IsEr w e v) (he : e ≠ .ok) : ∃ b, v = .iface 145 (.pointer (some ⟨b, 0, none⟩)) := by
  cases e with
  | ok => exact absurd rfl he
  | one a c => obtain ⟨b, hv, _⟩ := h; exact ⟨b, hv⟩
  | two a a2 c => obtain ⟨b, b2, hv, _⟩ := h; exact ⟨b, hv⟩
set_option maxRecDepth 100000 in
set_option maxHeartbeats 2000000 in
theorem wrapH_er (a : Nat) (er : Er) (v : Value) (w : World) (hE : VarE w) (he : er ≠ .ok) (h : IsEr w er v) : Calls Tryz.prog 94 #[.int .i64 a, v] w fun e w' => ∃ u, e = .returned u ∧ IsH w' (.wr a er) u ∧ Below w.heap.size w w' := by
  obtain ⟨b, rfl⟩ := isEr_ptr h he
  have H := hide h
  have HN := hide he
  have HE := hide (hE.below ((Below.refl _ w).alloc (Nat.le_refl _) (.cells #[.pointer none] 145)))
  clear h hE he
  go_enter Tryz.func94, Tryz.ntmps94
  go_wp2_with fail
  refine (as_hit ⟨b, 0, none⟩ ⟨w.heap.size, 0, none⟩ (.pointer none) _ HE.out (by simp) (by simp)).mono ?_
  rintro e w1 ⟨rfl, hw1⟩
  have hc : w1.cell? ⟨w.heap.size, 0, none⟩ = some (.pointer (some ⟨b, 0, none⟩)) := by
    rw [hw1]
    refine World.cell?_setCell_same' _ _ _ ?_
    rw [World.cell?_alloc_lt _ _ ⟨w.heap.size, 0, none⟩ (by simp; omega), World.cell?_alloc_lt _ _ ⟨w.heap.size, 0, none⟩ (by simp; omega), World.cell?_alloc_lt _ _ ⟨w.heap.size, 0, none⟩ (by simp; omega), World.cell?_alloc_lt _ _ ⟨w.heap.size, 0, none⟩ (by simp)]
    have hq : (w.alloc (.cells #[.pointer none] 145)).cell? ⟨w.heap.size, 0, none⟩ = some (.pointer none) := by simp
    rw [hq]; rfl
  have hbel : Below w.heap.size w w1 := by
    rw [hw1]
    repeat (first | exact Below.refl _ _ | refine Below.setCell ?_ (by simp) _ | refine Below.alloc ?_ (by simp; try omega) _)
  have HB := hide hbel
  have hz : w.heap.size ≤ w1.heap.size := hbel.size
  clear hw1 hbel
  go_wp2_with fail
  go_ret
  refine ⟨_, rfl, ⟨HN.out, _, _, rfl, alloc_new _ _, ?_⟩, HB.out.alloc hz _⟩
  exact H.out.below (HB.out.alloc hz _)

theorem idx_fst (d : UInt8) : ∀ l : List UInt8, Lib.index l [d] = match fst d.toNat (l.map UInt8.toNat) with | none => -1 | some k => (k : Int)
  | [] => rfl
  | c :: r => by
    have ih := idx_fst d r
    rw [Lib.index, List.map_cons, fst]
    by_cases h : c = d
    · subst h
      simp [List.isPrefixOf]
    · have hn : ¬ c.toNat = d.toNat := fun e => h (UInt8.toNat_inj.1 e)
      have hp : ([d] : List UInt8).isPrefixOf (c :: r) = false := by simp [List.isPrefixOf, Ne.symm h]
      rw [hp, if_neg hn, ih]
      cases fst d.toNat (r.map UInt8.toNat) with
      | none => simp
      | some k => simp
theorem cut_none (d : UInt8) (t : ByteArray) (h : fst d.toNat (byt t) = none) : Lib.cut t.data.toList [d] = (t.data.toList, [], false) := by
  have := idx_fst d t.data.toList
  unfold byt at h
  rw [h] at this
  unfold Lib.cut
  rw [this]; rfl
theorem cut_some (d : UInt8) (t : ByteArray) {k : Nat} (h : fst d.toNat (byt t) = some k) : Lib.cut t.data.toList [d] = (t.data.toList.take k, t.data.toList.drop (k + 1), true) := by
  have := idx_fst d t.data.toList
  unfold byt at h
  rw [h] at this
  unfold Lib.cut
  rw [this, if_pos (by simp)]
  simp
theorem strN_take (t : ByteArray) (k : Nat) : (⟨(t.data.toList.take k).toArray⟩ : ByteArray) = strN ((byt t).take k) := by
  rw [strN_mk, List.map_take]; rfl
theorem strN_drop (t : ByteArray) (k : Nat) : (⟨(t.data.toList.drop k).toArray⟩ : ByteArray) = strN ((byt t).drop k) := by
  rw [strN_mk, List.map_drop]; rfl
theorem info76 : (Tryz.prog.info? 68).map (·.size) = some 2 := by kernel_rfl
def z2 : Array Value := #[.string ⟨#[]⟩, .string ⟨#[]⟩]
/-- A field as cells. -/
def fdC (f : Fd) : Array Value := #[.string (strN f.1), .string (strN f.2)]
theorem fdC_one (f : Fd) : (fdC f).all (·.oneCell') = true := by simp [fdC, Value.oneCell']
theorem Vars.drewN {w : World} (h : Vars w) (n : Nat) : Vars (w.drewN n) := h
set_option maxRecDepth 100000 in
set_option maxHeartbeats 4000000 in
theorem readField_at (t : ByteArray) (w : World) (hm : t.size ≤ 8192) (hV : Vars w) : Calls Tryz.prog 97 #[.string t] w fun e w' => e = .returned (.tuple #[.agg (fdC (fld (byt t)).1), .int .i64 ((fld (byt t)).2 : Nat)]) ∧ Below w.heap.size w w' := by
  have HLT := hide (byt_lt t)
  have hsz := byt_length t
  have b0 : Below w.heap.size w (w.alloc (.cells z2 68)) := (Below.refl _ _).alloc (Nat.le_refl _) _
  obtain ⟨m, hmv⟩ := hV.below b0
  obtain ⟨W0, hW0⟩ : ∃ W0, W0 = w.alloc (.cells z2 68) := ⟨_, rfl⟩
  rw [← hW0] at hmv b0
  have HR0 : Hid (W0.heap[w.heap.size]? = some (.cells z2 68)) := by rw [hW0]; exact alloc_new _ _
  have HW0 : Hid (w.alloc (.cells #[.string ⟨#[]⟩, .string ⟨#[]⟩] 68) = W0) := hW0.symm
  have B0 := hide b0
  have HCU := hide (Tryz.strings_Cut t ⟨#[58]⟩ m W0 (by omega) hmv)
  rw [show (⟨#[58]⟩ : ByteArray).data.toList = [58] from rfl] at HCU
  have HM := hide hm
  have HSZ := hide hsz
  clear b0 hmv hW0 hV hm hsz
  have fin : Hid (∀ (cs : Fd) (c : Nat) (wN : World), fld (byt t) = (cs, c) → wN.heap[w.heap.size]? = some (.cells z2 68) → Below w.heap.size w wN → ∃ W2, W2 = wN.setRow w.heap.size (fdC cs) ∧ W2.heap[w.heap.size]? = some (.cells (fdC cs) 68) ∧ Below w.heap.size w W2) := fun cs c wN _ h1 h2 => ⟨_, rfl, setRow_heap _ _ _ _ _ h1, below_setRow h2 (Nat.le_refl _) _⟩
  cases hf : fst 58 (byt t) with
  | none =>
    rw [cut_none 58 t hf] at HCU
    have HR : Hid (fld (byt t) = (([], []), 80)) := by show _ = _; unfold fld; rw [hf]
    clear hf
    go_enter Tryz.func97, Tryz.ntmps97
    go_wp2_with fail
    rw [HW0.out]
    refine HCU.out.mono ?_
    rintro e w1 ⟨rfl, n, rfl⟩
    have HT := hide (trimmed_at ⟨#[]⟩ (W0.drewN n) (by decide))
    rw [show strN (trim (byt ⟨#[]⟩)) = ⟨#[]⟩ from rfl] at HT
    clear HCU
    go_wp2_with fail
    refine HT.out.mono ?_
    rintro e w2 ⟨rfl, hb2⟩
    have r2 : w2.heap[w.heap.size]? = some (.cells z2 68) := keepB hb2 (show (W0.drewN n).heap[w.heap.size]? = _ from HR0.out)
    have bb : Below w.heap.size w w2 := (below_drewN B0.out n).trans (hb2.mono (below_drewN B0.out n).size)
    obtain ⟨W2, hW2, f2, f5⟩ := fin.out ([], []) 80 w2 HR.out r2 bb
    have R2 := hide r2
    have F2 := hide f2
    have F5 := hide f5
    have HW2 := hide hW2
    clear hb2 r2 bb f2 f5 hW2 fin HT
    go_wp2_with (first | (refine wpList_store_rowW rfl 68 _ _ rfl w.heap.size (fdC ([], [])) rfl rfl 68 z2 R2.out info76 rfl (fdC_one _) W2 HW2.out ?_))
    refine bodyPost_ret (res_cell_tmp rfl _ _ w.heap.size 68 (fdC ([], [])) (0, 0) _ rfl F2.out Tryz.underlying68 rfl info76) rfl ⟨?_, F5.out⟩
    rw [HR.out]; rfl
  | some k =>
    rw [cut_some 58 t hf, strN_take, strN_drop] at HCU
    obtain ⟨x, hx⟩ : ∃ x, x = (byt t).take k := ⟨_, rfl⟩
    obtain ⟨y, hy⟩ : ∃ y, y = (byt t).drop (k + 1) := ⟨_, rfl⟩
    have hxb : ∀ c ∈ x, c < 256 := fun c hc => HLT.out c (by rw [hx] at hc; exact List.mem_of_mem_take hc)
    have hyb : ∀ c ∈ y, c < 256 := fun c hc => HLT.out c (by rw [hy] at hc; exact List.mem_of_mem_drop hc)
    have hxl : x.length ≤ 8192 := by have h1 := HM.out; have h2 := HSZ.out; rw [hx, List.length_take]; omega
    have hyl : y.length ≤ 8192 := by have h1 := HM.out; have h2 := HSZ.out; rw [hy, List.length_drop]; omega
    have HF : Hid (fld (byt t) = if lone (byt t) = true then (([], []), 80) else if tok x = false then (([], []), 81) else if value (trim y) = false then (([], []), 83) else ((x, trim y), 0)) := by
      show _ = _
      unfold fld
      rw [hf, hx, hy]
    rw [← hx, ← hy] at HCU
    obtain ⟨z, hz⟩ : ∃ z, z = trim y := ⟨_, rfl⟩
    have hzb : ∀ c ∈ z, c < 256 := fun c hc => hyb c (by rw [hz] at hc; exact trim_mem hc)
    have hzl : z.length ≤ 8192 := by
      rw [hz]
      have h1 : (trimR y).length ≤ y.length := by unfold trimR; rw [List.length_reverse]; have := dw_len bk y.reverse; rw [List.length_reverse] at this; exact this
      have h2 : (trim y).length ≤ (trimR y).length := dw_len bk _
      omega
    have HT : Hid (∀ W, Calls Tryz.prog 137 #[.string (strN y)] W fun e w' => e = .returned (.string (strN z)) ∧ Below W.heap.size W w') := fun W => by
      have := trimmed_at (strN y) W (by rw [strN_size]; unfold maxLen; omega)
      rw [byt_strN y hyb, ← hz] at this
      exact this
    have HLO : Hid (∀ W, Calls Tryz.prog 91 #[.string t] W fun e w' => e = .returned (.bool (lone (byt t))) ∧ Below W.heap.size W w') := fun W => loneEnd_at t W (by have := HM.out; omega)
    have HTO : Hid (∀ W, Calls Tryz.prog 92 #[.string (strN x)] W fun e w' => e = .returned (.bool (tok x)) ∧ Below W.heap.size W w') := fun W => by
      have := token_at (strN x) W (by rw [strN_size]; unfold maxLen; omega)
      rw [byt_strN x hxb] at this
      exact this
    have HVA : Hid (∀ W, Calls Tryz.prog 115 #[.string (strN z)] W fun e w' => e = .returned (.bool (value z)) ∧ Below W.heap.size W w') := fun W => by
      have := value_at (strN z) W (by rw [strN_size]; unfold maxLen; omega)
      rw [byt_strN z hzb] at this
      exact this
    rw [← hz] at HF
    obtain ⟨X, hX⟩ : ∃ X, X = strN x := ⟨_, rfl⟩
    obtain ⟨Y, hY⟩ : ∃ Y, Y = strN y := ⟨_, rfl⟩
    obtain ⟨Z, hZ⟩ : ∃ Z, Z = strN z := ⟨_, rfl⟩
    have HFD : Hid (fdC (x, z) = #[.string X, .string Z]) := by show _ = _; rw [hX, hZ]; rfl
    rw [← hX, ← hY] at HCU
    rw [← hX] at HTO
    rw [← hY, ← hZ] at HT
    rw [← hZ] at HVA
    clear hf hx hy hxb hyb hxl hyl hz hzb hzl hX hY hZ
    go_enter Tryz.func97, Tryz.ntmps97
    go_wp2_with fail
    rw [HW0.out]
    refine HCU.out.mono ?_
    rintro e w1 ⟨rfl, n, rfl⟩
    have R1 : Hid ((W0.drewN n).heap[w.heap.size]? = some (.cells z2 68)) := HR0.out
    have B1 := hide (below_drewN B0.out n)
    obtain ⟨w1, hw1⟩ : ∃ w1, w1 = W0.drewN n := ⟨_, rfl⟩
    rw [← hw1] at R1 B1
    rw [← hw1]
    clear hw1 HCU HR0 B0 HW0
    go_wp2_with fail
    refine (HT.out _).mono ?_
    rintro e w2 ⟨rfl, hb2⟩
    have R2 := hide (keepB hb2 R1.out)
    have B2 := hide (B1.out.trans (hb2.mono B1.out.size))
    clear hb2 HT R1 B1
    go_wp2_with fail
    refine (HLO.out _).mono ?_
    rintro e w3 ⟨rfl, hb3⟩
    have R3 := hide (keepB hb3 R2.out)
    have B3 := hide (B2.out.trans (hb3.mono B2.out.size))
    clear hb3 HLO R2 B2
    cases hlo : lone (byt t) with
    | true =>
      have HR : Hid (fld (byt t) = (([], []), 80)) := by show _ = _; rw [HF.out, if_pos hlo]
      obtain ⟨W2, hW2, f2, f5⟩ := fin.out ([], []) 80 w3 HR.out R3.out B3.out
      have F2 := hide f2
      have F5 := hide f5
      have HW2 := hide hW2
      clear hlo f2 f5 hW2 fin
      go_wp2_with (first | (refine wpList_store_rowW rfl 68 _ _ rfl w.heap.size (fdC ([], [])) rfl rfl 68 z2 R3.out info76 rfl (fdC_one _) W2 HW2.out ?_))
      refine bodyPost_ret (res_cell_tmp rfl _ _ w.heap.size 68 (fdC ([], [])) (0, 0) _ rfl F2.out Tryz.underlying68 rfl info76) rfl ⟨?_, F5.out⟩
      rw [HR.out]; rfl
    | false =>
      go_wp2_with fail
      refine (HTO.out _).mono ?_
      rintro e w4 ⟨rfl, hb4⟩
      have R4 := hide (keepB hb4 R3.out)
      have B4 := hide (B3.out.trans (hb4.mono B3.out.size))
      clear hb4 HTO R3 B3
      cases hto : tok x with
      | false =>
        have HR : Hid (fld (byt t) = (([], []), 81)) := by show _ = _; rw [HF.out, if_neg (by simp [hlo]), if_pos hto]
        obtain ⟨W2, hW2, f2, f5⟩ := fin.out ([], []) 81 w4 HR.out R4.out B4.out
        have F2 := hide f2
        have F5 := hide f5
        have HW2 := hide hW2
        clear hlo hto f2 f5 hW2 fin
        go_wp2_with (first | (refine wpList_store_rowW rfl 68 _ _ rfl w.heap.size (fdC ([], [])) rfl rfl 68 z2 R4.out info76 rfl (fdC_one _) W2 HW2.out ?_))
        refine bodyPost_ret (res_cell_tmp rfl _ _ w.heap.size 68 (fdC ([], [])) (0, 0) _ rfl F2.out Tryz.underlying68 rfl info76) rfl ⟨?_, F5.out⟩
        rw [HR.out]; rfl
      | true =>
        go_wp2_with fail
        refine (HVA.out _).mono ?_
        rintro e w5 ⟨rfl, hb5⟩
        have R5 := hide (keepB hb5 R4.out)
        have B5 := hide (B4.out.trans (hb5.mono B4.out.size))
        clear hb5 HVA R4 B4
        cases hva : value z with
        | false =>
          have HR : Hid (fld (byt t) = (([], []), 83)) := by show _ = _; rw [HF.out, if_neg (by simp [hlo]), if_neg (by simp [hto]), if_pos hva]
          obtain ⟨W2, hW2, f2, f5⟩ := fin.out ([], []) 83 w5 HR.out R5.out B5.out
          have F2 := hide f2
          have F5 := hide f5
          have HW2 := hide hW2
          clear hlo hto hva f2 f5 hW2 fin
          go_wp2_with (first | (refine wpList_store_rowW rfl 68 _ _ rfl w.heap.size (fdC ([], [])) rfl rfl 68 z2 R5.out info76 rfl (fdC_one _) W2 HW2.out ?_))
          refine bodyPost_ret (res_cell_tmp rfl _ _ w.heap.size 68 (fdC ([], [])) (0, 0) _ rfl F2.out Tryz.underlying68 rfl info76) rfl ⟨?_, F5.out⟩
          rw [HR.out]; rfl
        | true =>
          have HR : Hid (fld (byt t) = ((x, z), 0)) := by show _ = _; rw [HF.out, if_neg (by simp [hlo]), if_neg (by simp [hto]), if_neg (by simp [hva])]
          obtain ⟨W2, hW2, f2, f5⟩ := fin.out (x, z) 0 w5 HR.out R5.out B5.out
          rw [HFD.out] at hW2 f2
          have F2 := hide f2
          have F5 := hide f5
          have HW2 := hide hW2
          clear hlo hto hva f2 f5 hW2 fin
          go_wp2_with (first | (refine wpList_store_rowW rfl 68 _ _ rfl w.heap.size #[.string X, .string Z] rfl rfl 68 z2 R5.out info76 rfl (by simp [Value.oneCell']) W2 HW2.out ?_))
          refine bodyPost_ret (res_cell_tmp rfl _ _ w.heap.size 68 #[.string X, .string Z] (0, 0) _ rfl F2.out Tryz.underlying68 rfl info76) rfl ⟨?_, F5.out⟩
          rw [HR.out, HFD.out]; rfl
end Go.Proofs.YtccoddmdlbdfjaaGreatDoor
