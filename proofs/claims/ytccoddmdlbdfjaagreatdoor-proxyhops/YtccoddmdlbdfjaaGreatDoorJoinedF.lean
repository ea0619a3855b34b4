/-
  A text cut at its points, and what stays in memory where a fault is told; Small facts of texts and addresses; errors.As at a fault of package api, and 'wrap' of package host; conditions as each theorem has them.
-/
import Derived.Test.YtccoddmdlbdfjaaGreatDoorJoinedC
import Derived.LaidEql
import Derived.Stop.Asserts
import Derived.RowKitTokens
set_option linter.unusedSimpArgs false
set_option linter.unusedVariables false
namespace Go.Proofs.YtccoddmdlbdfjaaGreatDoor
open Go.RowKit

theorem index_nil : Lib.index [] [46] = -1 := by simp [Lib.index]
theorem index_dot (l : List UInt8) : Lib.index (46 :: l) [46] = ((0 : Nat) : Int) := by rw [Lib.index]; simp [List.isPrefixOf]
theorem index_ne (b : UInt8) (l : List UInt8) (h : b ≠ 46) : Lib.index (b :: l) [46] = if Lib.index l [46] == -1 then -1 else Lib.index l [46] + 1 := by
  have hp : ([46] : List UInt8).isPrefixOf (b :: l) = false := by simp [List.isPrefixOf, Ne.symm h]
  rw [Lib.index, hp]; simp
theorem splitK_hit (l : List UInt8) (j k : Nat) (h : Lib.index l [46] = j) : Lib.splitK [46] 0 (k + 1) l = l.take j :: Lib.splitK [46] 0 k (l.drop (j + 1)) := by
  have hm : ¬ (Lib.index l [46] == -1) = true := fun e => by have := beq_iff_eq.1 e; omega
  have e : (Lib.index l [46]).toNat = j := by omega
  rw [Lib.splitK, if_neg hm, e]; rfl
theorem splitK_pcs : ∀ l : List UInt8, (Lib.splitK [46] 0 (Lib.count l [46]) l).map (·.map UInt8.toNat) = pcs (l.map UInt8.toNat)
  | [] => by rw [Lib.count_miss index_nil]; rfl
  | b :: r => by
    have ih := splitK_pcs r
    by_cases hb : b = 46
    · subst hb
      rw [Lib.count_cons_eq, Nat.add_comm, splitK_hit _ 0 _ (index_dot r)]
      simp only [List.take_zero, List.map_cons, List.map_nil, Nat.zero_add, List.drop_succ_cons, List.drop_zero]
      rw [ih]
      simp [pcs]
    · have hb' : ¬ b.toNat = 46 := fun e => hb (UInt8.toNat_inj.1 (by simpa using e))
      rw [Lib.count_cons_ne b 46 r hb]
      by_cases hm : Lib.index r [46] = -1
      · rw [Lib.count_miss hm] at ih ⊢
        simp only [Lib.splitK, List.map_cons, List.map_nil] at ih ⊢
        show _ = pcs (b.toNat :: r.map UInt8.toNat)
        rw [pcs, if_neg hb', ← ih]
        rfl
      · have hge := Lib.index_ge r [46]
        obtain ⟨j, hj⟩ : ∃ j : Nat, Lib.index r [46] = j := ⟨(Lib.index r [46]).toNat, by omega⟩
        have hix : Lib.index (b :: r) [46] = ((j + 1 : Nat) : Int) := by rw [index_ne b r hb, if_neg (fun e => hm (beq_iff_eq.1 e)), hj]; omega
        obtain ⟨k, hk⟩ : ∃ k, Lib.count r [46] = k + 1 := ⟨Lib.count (r.drop (j + 1)) [46], by rw [Lib.count_hit (by simp) hj]; simp; omega⟩
        rw [hk] at ih ⊢
        rw [splitK_hit r j k hj] at ih
        rw [splitK_hit _ _ k hix]
        show _ = pcs (b.toNat :: r.map UInt8.toNat)
        rw [pcs, if_neg hb', ← ih]
        simp
theorem splitB_pcs (t : ByteArray) : (Lib.splitB ⟨#[46]⟩ 0 (Lib.countB t ⟨#[46]⟩) t).map byt = pcs (byt t) := by
  have h := Lib.splitB_data ⟨#[46]⟩ 0 (Lib.countB t ⟨#[46]⟩) t
  have h2 := splitK_pcs t.data.toList
  show List.map byt _ = pcs (t.data.toList.map UInt8.toNat)
  rw [← h2]
  show _ = (Lib.splitK [46] 0 (Lib.countB t ⟨#[46]⟩) t.data.toList).map _
  rw [show ([46] : List UInt8) = (⟨#[46]⟩ : ByteArray).data.toList from rfl, ← h, List.map_map]
  rfl
theorem splitB_str (t : ByteArray) : Lib.splitB ⟨#[46]⟩ 0 (Lib.countB t ⟨#[46]⟩) t = (pcs (byt t)).map strN := by
  rw [← splitB_pcs, List.map_map]
  conv => lhs; rw [← List.map_id (Lib.splitB ⟨#[46]⟩ 0 (Lib.countB t ⟨#[46]⟩) t)]
  apply List.map_congr_left
  intro x _
  exact (strN_byt x).symm
theorem count_pcs (t : ByteArray) : Lib.countB t ⟨#[46]⟩ + 1 = (pcs (byt t)).length := by
  rw [← splitB_pcs, List.length_map, Lib.splitB_all ⟨#[46]⟩ (by decide) 0 _ t rfl]

/-- Texts as they lie in memory. -/
def strs (ps : List (List Nat)) : List Value := ps.map fun p => .string (strN p)
theorem strs_get (ps : List (List Nat)) (i : Nat) (h : i < ps.length) : (strs ps)[i]? = some (.string (strN (ps.getD i []))) := by
  simp [strs, List.getElem?_map, List.getElem?_eq_getElem h, List.getD]
theorem split_at (t : ByteArray) (m : Int) (w : World) (B : Nat) (hB : B = w.heap.size) (hs : t.size < 4294967281) (hm : w.cell? ⟨0, 0, none⟩ = some (.int .i64 m)) :
    Calls Tryz.prog 89 #[.string t, .string ⟨#[46]⟩] w fun e w' => e = .returned (.slice (some ⟨B, 0, none⟩) (pcs (byt t)).length (pcs (byt t)).length) ∧ w' = w.alloc (.cells (strs (pcs (byt t))).toArray 9) := by
  subst hB
  refine (Tryz.strings_Split t ⟨#[46]⟩ m w hs hm (by decide)).mono ?_
  rintro e w' ⟨rfl, rfl⟩
  rw [splitB_str, count_pcs]
  refine ⟨rfl, ?_⟩
  rw [strs, List.map_map]; rfl

theorem pcs_len : ∀ (l : List Nat), (pcs l).length ≤ l.length + 1 ∧ ∀ p ∈ pcs l, p.length ≤ l.length
  | [] => by simp [pcs]
  | c :: r => by
    obtain ⟨h1, h2⟩ := pcs_len r
    have hne := pcs_ne r
    unfold pcs
    split
    · refine ⟨by simp; omega, fun p hp => ?_⟩
      simp at hp
      rcases hp with rfl | hp
      · simp
      · have := h2 p hp; simp; omega
    · cases h : pcs r with
      | nil => exact absurd h hne
      | cons q qs =>
        rw [h] at h1 h2
        refine ⟨by simp at h1 ⊢; omega, fun p hp => ?_⟩
        simp at hp
        rcases hp with rfl | hp
        · have := h2 q (by simp); simp; omega
        · have := h2 p (by simp [hp]); simp; omega
theorem pcs_lt {l : List Nat} (h : ∀ x ∈ l, x < 256) : ∀ p ∈ pcs l, ∀ x ∈ p, x < 256 := by
  induction l with
  | nil => simp [pcs]
  | cons c r ih =>
    have ih := ih fun x hx => h x (by simp [hx])
    have hc := h c (by simp)
    have hne := pcs_ne r
    unfold pcs
    split
    · intro p hp x hx
      simp at hp
      rcases hp with rfl | hp
      · simp at hx
      · exact ih p hp x hx
    · cases hq : pcs r with
      | nil => exact absurd hq hne
      | cons q qs =>
        rw [hq] at ih
        intro p hp x hx
        simp at hp
        rcases hp with rfl | hp
        · simp at hx
          rcases hx with rfl | hx
          · exact hc
          · exact ih q (by simp) x hx
        · exact ih p (by simp [hp]) x hx
theorem getD_mem {α : Type} {ps : List α} {k : Nat} {d : α} (h : k < ps.length) : ps.getD k d ∈ ps := by
  rw [List.getD, List.getElem?_eq_getElem h]; exact List.getElem_mem _
theorem drop_getD {α : Type} {ps : List α} {k : Nat} {d : α} (h : k < ps.length) : ps.drop k = ps.getD k d :: ps.drop (k + 1) := by
  rw [List.drop_eq_getElem_cons h, List.getD, List.getElem?_eq_getElem h]; rfl

theorem setRow_ne (w : World) (g k : Nat) (cs : Array Value) (h : k ≠ g) : (w.setRow g cs).heap[k]? = w.heap[k]? := by
  simp [World.setRow, Array.getElem?_modify]
  intro e; omega
/-- What stays where a fault is told and a result's block is written. -/
theorem fin_err {wr : World} {B : Nat} {ty : TypeId} {old : Array Value} (hr : wr.heap[B]? = some (.cells old ty)) (cs : Array Value) (a c : Nat) :
    (wr.alloc (flt a (.iface 44 (.int .i64 c)))).heap[B]? = some (.cells old ty) ∧ ((wr.alloc (flt a (.iface 44 (.int .i64 c)))).setRow B cs).heap[B]? = some (.cells cs ty) ∧
    IsEr ((wr.alloc (flt a (.iface 44 (.int .i64 c)))).setRow B cs) (.one a c) (.iface 145 (.pointer (some ⟨wr.heap.size, 0, none⟩))) ∧
    ∀ w : World, w.heap.size ≤ B → Below w.heap.size w wr → Below w.heap.size w ((wr.alloc (flt a (.iface 44 (.int .i64 c)))).setRow B cs) := by
  have h1 := alloc_old (flt a (.iface 44 (.int .i64 c))) hr
  have hlt := lt_of_some hr
  refine ⟨h1, setRow_heap _ _ _ _ _ h1, ⟨_, rfl, ?_⟩, fun w hB hb => below_setRow (hb.alloc (Nat.le_trans (Nat.le_refl _) hb.size) _) hB _⟩
  rw [setRow_ne _ _ _ _ (by omega)]
  exact alloc_new _ _
end Go.Proofs.YtccoddmdlbdfjaaGreatDoor

set_option linter.unusedSimpArgs false
set_option linter.unusedVariables false
namespace Go.Proofs.YtccoddmdlbdfjaaGreatDoor
open Go.RowKit

def adV (a : Nat × Nat × Nat × Nat) : Value := .agg #[.int .u8 (a.1 : Nat), .int .u8 (a.2.1 : Nat), .int .u8 (a.2.2.1 : Nat), .int .u8 (a.2.2.2 : Nat)]
abbrev Ad := Nat × Nat × Nat × Nat
def Ad.ok (a : Ad) : Prop := a.1 < 256 ∧ a.2.1 < 256 ∧ a.2.2.1 < 256 ∧ a.2.2.2 < 256
theorem byt_drop (s : ByteArray) (i : Nat) : byt (s.extract i s.size) = (byt s).drop i := by
  unfold byt
  rw [ByteArray.data_extract, Array.toList_extract, List.extract_eq_take_drop, List.take_of_length_le (by rw [List.length_drop, Array.length_toList]; exact Nat.le_refl _), List.map_drop]
theorem byt_take (s : ByteArray) (i : Nat) : byt (s.extract 0 i) = (byt s).take i := by
  unfold byt
  rw [Lib.extract_from_zero]
  simp
theorem byt_mk (l : List UInt8) : byt ⟨l.toArray⟩ = l.map UInt8.toNat := by simp [byt]
theorem agg4 {w : World} {b : Nat} {x0 x1 x2 x3 : Value} {t : TypeId} (h : w.heap[b]? = some (.cells #[x0, x1, x2, x3] t)) : w.cell? ⟨b, 0, none⟩ = some x0 ∧ w.cell? ⟨b, 1, none⟩ = some x1 ∧ w.cell? ⟨b, 2, none⟩ = some x2 ∧ w.cell? ⟨b, 3, none⟩ = some x3 := by
  refine ⟨?_, ?_, ?_, ?_⟩ <;> simp [World.cell?, h]
theorem wrap_nat (m : Nat) (h : m ≤ 9223372036854775807) : IntKind.i64.wrap (m : Int) = (m : Int) := by rw [IntKind.wrap_i64]; omega
end Go.Proofs.YtccoddmdlbdfjaaGreatDoor

set_option linter.unusedSimpArgs false
set_option linter.unusedVariables false
namespace Go.Proofs.YtccoddmdlbdfjaaGreatDoor
open Go.RowKit Go.Extern.Stop Go.Stop Go.Extern

theorem as_nil (t : Value) (w : World) : Calls Tryz.prog 132 #[.nilIface, t] w fun e w' => e = .returned (.bool false) ∧ w' = w := by
  go_enter Tryz.func132, Tryz.ntmps132
  go_wp2
  go_ret
  exact ⟨rfl, rfl⟩
theorem v105 (t : Addr) (w : World) : (ReflectliteValue.unpack (.iface 198 (.pointer (some t)))).run Tryz.prog w
    = .ok (.agg #[.pointer (some ⟨7, 198, none⟩), .pointer (some ⟨w.heap.size, 0, none⟩), .int .u64 150]) (w.alloc (.cells #[.pointer (some t)] 198)) := by kernel_rfl
theorem ty105 (a : Addr) (w : World) : (ReflectliteValue.methodAny (ReflectliteValue.valueError "reflectlite.Value.Type" 0) (fun t _ _ _ => ReflectliteType.toType t) #[.agg #[.pointer (some ⟨7, 198, none⟩), .pointer (some a), .int .u64 150]]).run Tryz.prog w
    = .ok (.iface 164 (.agg #[.pointer (some ⟨7, 198, none⟩)])) w := by kernel_rfl
theorem mKind (h : Value) (w : World) : (Go.method 116 164 (.agg #[h]) "Kind").run Tryz.prog w = .ok (232, h) w := by kernel_rfl
theorem k105 (w : World) : ((ReflectliteType.abiMethod fun t => (fun a : Nat => Value.int IntKind.u8 (a : Int)) <$> Rtype.kind t) #[.pointer (some ⟨7, 198, none⟩)]).run Tryz.prog w = .ok (.int .u8 22) w := by kernel_rfl
theorem k96 (w : World) : ((ReflectliteType.abiMethod fun t => (fun a : Nat => Value.int IntKind.u8 (a : Int)) <$> Rtype.kind t) #[.pointer (some ⟨7, 145, none⟩)]).run Tryz.prog w = .ok (.int .u8 22) w := by kernel_rfl
theorem p105 (a : Addr) (w : World) : (ReflectliteValue.parts (.agg #[.pointer (some ⟨7, 198, none⟩), .pointer (some a), .int .u64 150])).run Tryz.prog w = .ok (some (198, a, 150)) w := by kernel_rfl
theorem isNil105' (a : Addr) (W : World) : (ReflectliteValue.method (ReflectliteValue.valueError "reflectlite.Value.IsNil" 0) ReflectliteValue.isNil #[.agg #[.pointer (some ⟨7, 198, none⟩), .pointer (some a), .int .u64 150]]).run Tryz.prog W = (ReflectliteValue.isNil 198 a 150 22).run Tryz.prog W := by kernel_rfl
theorem isNil105 (a p : Addr) (W : World) (ha : W.cell? a = some (.pointer (some p))) :
    (ReflectliteValue.method (ReflectliteValue.valueError "reflectlite.Value.IsNil" 0) ReflectliteValue.isNil #[.agg #[.pointer (some ⟨7, 198, none⟩), .pointer (some a), .int .u64 150]]).run Tryz.prog W = .ok (.bool false) W := by
  rw [isNil105']
  simp [ReflectliteValue.isNil, loadVar, isAgg, underlying, Tryz.underlying198, ha, Result.andThen]
theorem mElem (h : Value) (w : World) : (Go.method 116 164 (.agg #[h]) "Elem").run Tryz.prog w = .ok (242, .agg #[h]) w := by kernel_rfl
theorem mImplements (h : Value) (w : World) : (Go.method 116 164 (.agg #[h]) "Implements").run Tryz.prog w = .ok (243, .agg #[h]) w := by kernel_rfl
theorem mAssignableTo (h : Value) (w : World) : (Go.method 116 164 (.agg #[h]) "AssignableTo").run Tryz.prog w = .ok (240, .agg #[h]) w := by kernel_rfl
theorem el105 (w : World) : (ReflectliteType.method ReflectliteType.elem #[.agg #[.pointer (some ⟨7, 198, none⟩)]]).run Tryz.prog w = .ok (.iface 164 (.agg #[.pointer (some ⟨7, 145, none⟩)])) w := by kernel_rfl
theorem im96 (w : World) : (ReflectliteType.relation "Implements" ReflectliteType.implements_ #[.agg #[.pointer (some ⟨7, 145, none⟩)], .iface 164 (.agg #[.pointer (some ⟨7, 59, none⟩)])]).run Tryz.prog w = .ok (.bool true) w := by kernel_rfl
theorem to96 (v : Value) (w : World) : (ReflectliteType.typeOf #[.iface 145 v]).run Tryz.prog w = .ok (.iface 164 (.agg #[.pointer (some ⟨7, 145, none⟩)])) w := by kernel_rfl
theorem as96 (w : World) : (ReflectliteType.relation "AssignableTo" ReflectliteType.assignableTo #[.agg #[.pointer (some ⟨7, 145, none⟩)], .iface 164 (.agg #[.pointer (some ⟨7, 145, none⟩)])]).run Tryz.prog w = .ok (.bool true) w := by kernel_rfl
theorem v96 (e : Addr) (w : World) : (ReflectliteValue.unpack (.iface 145 (.pointer (some e)))).run Tryz.prog w
    = .ok (.agg #[.pointer (some ⟨7, 145, none⟩), .pointer (some ⟨w.heap.size, 0, none⟩), .int .u64 150]) (w.alloc (.cells #[.pointer (some e)] 145)) := by kernel_rfl
theorem eo105 (w : World) : (Rtype.elem? 198).run Tryz.prog w = .ok (some 145) w := by kernel_rfl
theorem mk96 (p : Addr) (w : World) : (ReflectliteValue.mk 145 p ReflectliteValue.flagAddr).run Tryz.prog w = .ok (.agg #[.pointer (some ⟨7, 145, none⟩), .pointer (some p), .int .u64 406]) w := by kernel_rfl
theorem elemV105' (a : Addr) (W : World) : (ReflectliteValue.method (ReflectliteValue.valueError "reflectlite.Value.Elem" 0) ReflectliteValue.elem #[.agg #[.pointer (some ⟨7, 198, none⟩), .pointer (some a), .int .u64 150]]).run Tryz.prog W = (ReflectliteValue.elem 198 a 150 22).run Tryz.prog W := by kernel_rfl
theorem elemV105 (a p : Addr) (W : World) (ha : W.cell? a = some (.pointer (some p))) :
    (ReflectliteValue.method (ReflectliteValue.valueError "reflectlite.Value.Elem" 0) ReflectliteValue.elem #[.agg #[.pointer (some ⟨7, 198, none⟩), .pointer (some a), .int .u64 150]]).run Tryz.prog W
      = .ok (.agg #[.pointer (some ⟨7, 145, none⟩), .pointer (some p), .int .u64 406]) W := by
  rw [elemV105']
  simp [ReflectliteValue.elem, loadVar, isAgg, underlying, Tryz.underlying198, ha, Result.andThen, eo105, mk96]
theorem p96a (a : Addr) (w : World) : (ReflectliteValue.parts (.agg #[.pointer (some ⟨7, 145, none⟩), .pointer (some a), .int .u64 406])).run Tryz.prog w = .ok (some (145, a, 406)) w := by kernel_rfl
theorem p96 (a : Addr) (w : World) : (ReflectliteValue.parts (.agg #[.pointer (some ⟨7, 145, none⟩), .pointer (some a), .int .u64 150])).run Tryz.prog w = .ok (some (145, a, 150)) w := by kernel_rfl
theorem di96 (w : World) : (Rtype.directlyAssignable 145 145).run Tryz.prog w = .ok true w := by kernel_rfl
theorem sz96 (w : World) : (sizeOf 145).run Tryz.prog w = .ok 1 w := by kernel_rfl
theorem set96 (ta b e : Addr) (old : Value) (W : World) (hb : W.cell? b = some (.pointer (some e))) (ht : W.cell? ta = some old) (hf : W.frozen? ta = false) :
    (ReflectliteValue.set #[.agg #[.pointer (some ⟨7, 145, none⟩), .pointer (some ta), .int .u64 406], .agg #[.pointer (some ⟨7, 145, none⟩), .pointer (some b), .int .u64 150]]).run Tryz.prog W
      = .ok (.tuple #[]) (W.setCell ta (.pointer (some e))) := by
  show Sem.run Tryz.prog (ReflectliteValue.parts (.agg #[.pointer (some ⟨7, 145, none⟩), .pointer (some ta), .int .u64 406]) >>= _) W = _
  rw [Sem.run_bind, p96a, Result.andThen_ok]
  show Sem.run Tryz.prog (ReflectliteValue.parts (.agg #[.pointer (some ⟨7, 145, none⟩), .pointer (some b), .int .u64 150]) >>= _) W = _
  rw [Sem.run_bind, p96, Result.andThen_ok]
  simp [ReflectliteValue.flagAddr, di96, loadVar, isAgg, underlying, Tryz.underlying145, hb, Result.andThen, storeVar, Value.cells, storeCells, Addr.add]
  rw [run_store Tryz.prog W ta _ _ (by rfl)]
  simp [ht, hf]

/-- The variable that holds the type of errors. -/
def VarE (w : World) : Prop := w.cell? ⟨1, 0, none⟩ = some (.iface 164 (.agg #[.pointer (some ⟨7, 59, none⟩)]))
theorem VarE.below {w w' : World} (h : VarE w) (k : Below w.heap.size w w') : VarE w' := (k.cell (p := ⟨1, 0, none⟩) (lt_of_cell h)).trans h

set_option maxRecDepth 100000 in
set_option maxHeartbeats 4000000 in
theorem as_hit (e t : Addr) (old : Value) (w : World) (hg : VarE w) (ht0 : w.cell? t = some old) (hf0 : w.frozen? t = false) :
    Calls Tryz.prog 132 #[.iface 145 (.pointer (some e)), .iface 198 (.pointer (some t))] w fun ev w' => ev = .returned (.bool true) ∧ w' = ((((w.alloc (.cells #[.pointer (some t)] 198)).alloc (.cells #[.pointer (some ⟨7, 198, none⟩), .pointer (some ⟨w.heap.size, 0, none⟩), .int .u64 150] 221)).alloc (.cells #[.pointer (some ⟨7, 198, none⟩), .pointer (some ⟨w.heap.size, 0, none⟩), .int .u64 150] 221)).alloc (.cells #[.pointer (some e)] 145)).setCell t (.pointer (some e)) := by
  have h6 := @run_callFunc_extern Tryz.prog 164 _ (fun args => ReflectliteValue.unpack (args.getD 0 (.tuple #[]))) Tryz.func164 (by kernel_rfl) (by kernel_rfl) (by kernel_rfl) (by kernel_rfl)
  have h7 := @run_callFunc_extern Tryz.prog 165 _ (ReflectliteValue.methodAny (ReflectliteValue.valueError "reflectlite.Value.Type" 0) (fun t _ _ _ => ReflectliteType.toType t)) Tryz.func165 (by kernel_rfl) (by kernel_rfl) (by kernel_rfl) (by kernel_rfl)
  have h8 := @run_callFunc_extern Tryz.prog 166 _ (ReflectliteValue.method (ReflectliteValue.valueError "reflectlite.Value.IsNil" 0) ReflectliteValue.isNil) Tryz.func166 (by kernel_rfl) (by kernel_rfl) (by kernel_rfl) (by kernel_rfl)
  have h27 := @run_callFunc_extern Tryz.prog 232 _ (ReflectliteType.abiMethod fun t => do pure (.int .u8 (← Rtype.kind t))) Tryz.func232 (by kernel_rfl) (by kernel_rfl) (by kernel_rfl) (by kernel_rfl)
  have h37 := @run_callFunc_extern Tryz.prog 242 _ (ReflectliteType.method ReflectliteType.elem) Tryz.func242 (by kernel_rfl) (by kernel_rfl) (by kernel_rfl) (by kernel_rfl)
  have h38 := @run_callFunc_extern Tryz.prog 243 _ (ReflectliteType.relation "Implements" ReflectliteType.implements_) Tryz.func243 (by kernel_rfl) (by kernel_rfl) (by kernel_rfl) (by kernel_rfl)
  have h10 := @run_callFunc_extern Tryz.prog 61 _ ReflectliteType.typeOf Tryz.func61 (by kernel_rfl) (by kernel_rfl) (by kernel_rfl) (by kernel_rfl)
  have h35 := @run_callFunc_extern Tryz.prog 240 _ (ReflectliteType.relation "AssignableTo" ReflectliteType.assignableTo) Tryz.func240 (by kernel_rfl) (by kernel_rfl) (by kernel_rfl) (by kernel_rfl)
  have h11 := @run_callFunc_extern Tryz.prog 194 _ (ReflectliteValue.method (ReflectliteValue.valueError "reflectlite.Value.Elem" 0) ReflectliteValue.elem) Tryz.func194 (by kernel_rfl) (by kernel_rfl) (by kernel_rfl) (by kernel_rfl)
  have h12 := @run_callFunc_extern Tryz.prog 195 _ ReflectliteValue.set Tryz.func195 (by kernel_rfl) (by kernel_rfl) (by kernel_rfl) (by kernel_rfl)
  have tO := to96
  have mA := mAssignableTo
  have a25 := as96
  have v25 := v96
  have f6 := v105
  have f7 := ty105
  have mK := mKind
  have mE := mElem
  have mI := mImplements
  have k27 := k105
  have k25 := k96
  have e27 := el105
  have i25 := im96
  have n8 := isNil105 ⟨w.heap.size, 0, none⟩ t ((w.alloc (.cells #[.pointer (some t)] 198)).alloc (.cells #[.pointer (some ⟨7, 198, none⟩), .pointer (some ⟨w.heap.size, 0, none⟩), .int .u64 150] 221)) (by simp)
  have hlt : 1 < w.heap.size := lt_of_cell hg
  have hg2 : ((w.alloc (.cells #[.pointer (some t)] 198)).alloc (.cells #[.pointer (some ⟨7, 198, none⟩), .pointer (some ⟨w.heap.size, 0, none⟩), .int .u64 150] 221)).cell? ⟨1, 0, none⟩ = some (.iface 164 (.agg #[.pointer (some ⟨7, 59, none⟩)])) := by
    rw [World.cell?_alloc_lt _ _ ⟨1, 0, none⟩ (by simp; omega), World.cell?_alloc_lt _ _ ⟨1, 0, none⟩ hlt]; exact hg
  have htl : t.block < w.heap.size := lt_of_cell ht0
  have el := elemV105 ⟨w.heap.size, 0, none⟩ t (((w.alloc (.cells #[.pointer (some t)] 198)).alloc (.cells #[.pointer (some ⟨7, 198, none⟩), .pointer (some ⟨w.heap.size, 0, none⟩), .int .u64 150] 221)).alloc (.cells #[.pointer (some ⟨7, 198, none⟩), .pointer (some ⟨w.heap.size, 0, none⟩), .int .u64 150] 221)) (by rw [World.cell?_alloc_lt _ _ ⟨w.heap.size, 0, none⟩ (by simp; omega)]; simp)
  have st := set96 t ⟨w.heap.size + 1 + 1 + 1, 0, none⟩ e old ((((w.alloc (.cells #[.pointer (some t)] 198)).alloc (.cells #[.pointer (some ⟨7, 198, none⟩), .pointer (some ⟨w.heap.size, 0, none⟩), .int .u64 150] 221)).alloc (.cells #[.pointer (some ⟨7, 198, none⟩), .pointer (some ⟨w.heap.size, 0, none⟩), .int .u64 150] 221)).alloc (.cells #[.pointer (some e)] 145))
    (by rw [World.cell?_alloc_at _ _ _ _ (by simp)]; rfl)
    (by rw [World.cell?_alloc_lt _ _ t (by simp; omega), World.cell?_alloc_lt _ _ t (by simp; omega), World.cell?_alloc_lt _ _ t (by simp; omega), World.cell?_alloc_lt _ _ t htl]; exact ht0)
    (by rw [World.frozen?_alloc_old _ _ t (by simp; omega), World.frozen?_alloc_old _ _ t (by simp; omega), World.frozen?_alloc_old _ _ t (by simp; omega), World.frozen?_alloc_old _ _ t (Nat.ne_of_lt htl)]; exact hf0)
  unfold VarE at hg
  go_enter Tryz.func132, Tryz.ntmps132
  go_wp2
  refine wp_loop_rounds 1 ?_
  rw [rounds_succ]
  go_wp2
  go_ret
  exact ⟨rfl, rfl⟩

theorem wrap_nil (a : Nat) (w : World) : Calls Tryz.prog 131 #[.int .i64 a, .nilIface] w fun e w' => e = .returned .nilIface ∧ Below w.heap.size w w' := by
  go_enter Tryz.func131, Tryz.ntmps131
  go_wp2_with (first | (go_at_call 132; refine (as_nil _ _).mono ?_; rintro e w' ⟨rfl, rfl⟩))
  go_ret
  exact ⟨rfl, (Below.refl _ _).alloc (Nat.le_refl _) _⟩
set_option maxRecDepth 100000 in
set_option maxHeartbeats 2000000 in
theorem wrap_one (a a2 c : Nat) (v : Value) (w : World) (hE : VarE w) (h : IsEr w (.one a2 c) v) : Calls Tryz.prog 131 #[.int .i64 a, v] w fun e w' => ∃ u, e = .returned u ∧ IsEr w' (.two a a2 c) u ∧ Below w.heap.size w w' := by
  obtain ⟨b, rfl, hb⟩ := h
  have H := hide hb
  have hbl := lt_of_some hb
  have HE := hide (hE.below ((Below.refl _ w).alloc (Nat.le_refl _) (.cells #[.pointer none] 145)))
  clear hb hE
  go_enter Tryz.func131, Tryz.ntmps131
  go_wp2_with fail
  refine (as_hit ⟨b, 0, none⟩ ⟨w.heap.size, 0, none⟩ (.pointer none) _ HE.out (by simp) (by simp)).mono ?_
  rintro e w1 ⟨rfl, hw1⟩
  have hc : w1.cell? ⟨w.heap.size, 0, none⟩ = some (.pointer (some ⟨b, 0, none⟩)) := by
    rw [hw1]
    refine World.cell?_setCell_same' _ _ _ ?_
    rw [World.cell?_alloc_lt _ _ ⟨w.heap.size, 0, none⟩ (by simp; omega), World.cell?_alloc_lt _ _ ⟨w.heap.size, 0, none⟩ (by simp; omega), World.cell?_alloc_lt _ _ ⟨w.heap.size, 0, none⟩ (by simp; omega), World.cell?_alloc_lt _ _ ⟨w.heap.size, 0, none⟩ (by simp)]
    have hq : (w.alloc (.cells #[.pointer none] 145)).cell? ⟨w.heap.size, 0, none⟩ = some (.pointer none) := by simp
    rw [hq]; rfl
  have hbel : Below w.heap.size w w1 := by
    rw [hw1]
    repeat (first | exact Below.refl _ _ | refine Below.setCell ?_ (by simp) _ | refine Below.alloc ?_ (by simp; try omega) _)
  have HB := hide hbel
  have hz : w.heap.size ≤ w1.heap.size := hbel.size
  clear hw1 hbel
  go_wp2_with fail
  go_ret
  refine ⟨_, rfl, ⟨_, b, rfl, alloc_new _ _, alloc_old _ ((HB.out.block b hbl).trans H.out)⟩, HB.out.alloc hz _⟩
end Go.Proofs.YtccoddmdlbdfjaaGreatDoor
