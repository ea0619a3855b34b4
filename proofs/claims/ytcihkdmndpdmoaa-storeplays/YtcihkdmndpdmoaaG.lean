/-
  Get, Drop and Put of package store; conditions as each theorem has them.
-/
import Derived.Test.YtcihkdmndpdmoaaF
import Derived.Test.YtcihkdmndpdmoaaShelf
import Derived.Deep.DrawnRows
import Derived.Lib.ConvBytes
set_option linter.unusedSimpArgs false
set_option linter.unusedVariables false
namespace Go.Proofs.Ytcihkdmndpdmoaa
open Go.RowKit
theorem run_storeVar_slot {w : World} {g i : Nat} {L : List Sl} (x : Sl) (hr : Row w g L) (hi : i < L.length) : (storeVar 62 ⟨g, i * 5, none⟩ (.agg (slC x).toArray)).run Try.prog w = .ok () (w.setRow g (flat (L.set i x)).toArray) := by
  have hf := flat_length L
  have hst := run_storeCells_at Try.prog g (i * 5) 62 (slC x) 0 (flat L).toArray w hr (by rw [slC_length]; simp [hf]; omega) (slC_one x)
  obtain ⟨inf, hinf, hz⟩ := Option.map_eq_some_iff.1 infoS
  rw [Nat.add_zero, List.toList_toArray, slC_length, flat_set hi x] at hst
  have hl := slC_length x
  simp [storeVar, sizeOf, typeInfo, hinf, hz, Value.cells, hl, hst]
/-- A slot's place and what goes there, as one step of a drawn region. -/
def stOk (P : Program) (p v : Value) (w : World) : Bool := match (Instr.storeAt 62 p v).run P w with
  | .ok _ _ => true
  | _ => false
def stW (P : Program) (p v : Value) (w : World) : World := match (Instr.storeAt 62 p v).run P w with
  | .ok _ y => y
  | _ => w
theorem st_of {p v : Value} {w w' : World} (h : (Instr.storeAt 62 p v).run Try.prog w = .ok () w') : stOk Try.prog p v w = true ∧ stW Try.prog p v w = w' := by
  unfold stOk stW
  rw [h]
  exact ⟨rfl, rfl⟩
theorem run_opst (ρ : Operand → Value) (dst : Option Tmp) (x y : Operand) (ty : TypeId) (pos : String) (after : Array Edge) (guard : Option (Nat × Bool)) (w : World) (h : stOk Try.prog (ρ x) (ρ y) w = true) :
    (execOp ρ { dst, op := .store 62 x y, type := ty, pos, after, guard }).run Try.prog w = .ok .skip (stW Try.prog (ρ x) (ρ y) w) := by
  unfold stOk at h
  unfold stW
  unfold execOp
  cases e : (Instr.storeAt 62 (ρ x) (ρ y)).run Try.prog w with
  | ok u y => simp [Sem.run_bind, e]
  | _ => simp [e] at h
theorem slot_store {w w1 : World} {r g K h : Nat} {L : List Sl} (t : IsTab w1 r g K L h) {i : Nat} (hi : i < L.length) (x : Sl) : stOk Try.prog (.pointer (some ⟨g, i * 5, none⟩)) (slV x) w1 = true ∧ stW Try.prog (.pointer (some ⟨g, i * 5, none⟩)) (slV x) w1 = w1.setRow g (flat (L.set i x)).toArray := by
  refine st_of ?_
  rw [slV_eq]
  simp only [Instr.storeAt, Instr.sureAddr, Sem.run_bind, Sem.run_pure, Result.andThen_ok, run_storeVar_slot x t.row hi]
theorem IsTab.put {w : World} {r g K h : Nat} {L : List Sl} (t : IsTab w r g K L h) (i : Nat) (x : Sl) (hI : Inv K (L.set i x) h) : IsTab (w.setRow g (flat (L.set i x)).toArray) r g K (L.set i x) h :=
  ⟨by rw [List.length_set]; exact (setRow_other _ _ _ _ t.ne).trans t.head, setRow_heap _ _ _ _ 62 (0, 0) t.row, t.ne, hI⟩
theorem wpList_store_slot {ops : Array Oper} {rest : List Oper} {op : Oper} {a : Act} {w : World} {Q : Exit → Act → World → Prop} (hgd : op.guard = none) (p v : Operand) (ho : op.op = .store 62 p v)
    {L : List Sl} {g i : Nat} {x : Sl} (hp : a.eval p = .pointer (some ⟨g, i * 5, none⟩)) (hv : a.eval v = slV x) (hr : Row w g L) (hi : i < L.length)
    (h : wpList Try.prog ops Q rest (a.put op.dst undef) (w.setRow g (flat (L.set i x)).toArray)) : wpList Try.prog ops Q (op :: rest) a w := by
  rw [slV_eq] at hv
  refine wpList_plain hgd fun K hK => ?_
  unfold Oper.wp execOp
  simp only [ho, hp, hv, Instr.storeAt, Instr.sureAddr, Sem.run_bind, Sem.run_pure, Result.andThen_ok, run_storeVar_slot x hr hi]
  exact hK _ _ h
theorem isIn_iff {L : List Sl} {key : ByteArray} : isIn L key = true ↔ key.size ≠ 0 ∧ fidx key L < L.length := by simp [isIn]
set_option maxRecDepth 100000 in
set_option maxHeartbeats 2000000 in
theorem drop_at (r g K h : Nat) (L : List Sl) (key : ByteArray) (w : World) (t : IsTab w r g K L h) :
    Calls Try.prog 18 #[.pointer (some ⟨r, 0, none⟩), .string key] w fun e w' => e = .returned (.bool (isIn L key)) ∧ IsTab w' r g K (dropL L key) h ∧ Kept g g w w' := by
  obtain ⟨c0, c1, c2, c3⟩ := t.cells
  obtain ⟨hlr, hlg⟩ := t.lt
  have HM := hide (isMade_at r true w c0)
  have HF := hide (find_at r g K h L key w t)
  obtain ⟨N, hN⟩ : ∃ N, N = L.length := ⟨_, rfl⟩
  rw [← hN] at c3
  have hm := t.inv.max
  rw [← hN] at hm
  have HT := hide t
  have HD := hide (drop_inv t.inv key)
  by_cases hi : isIn L key = true
  · have HE : Hid (dropL L key = L.set (fidx key L) zeroS) := by show _ = _; unfold dropL; rw [if_pos hi]
    rw [hi, HE.out]
    rw [HE.out] at HD
    rw [if_pos hi] at HF
    have hlt := (isIn_iff.1 hi).2
    obtain ⟨P, hP⟩ : ∃ P, P = fidx key L := ⟨_, rfl⟩
    rw [← hP] at HF hlt HD ⊢
    have HL := hide hlt
    rw [← hN] at hlt
    have HN := hide hN
    clear t hN hP hi HE c0 c1 c2
    go_enter Try.func18, Try.ntmps18
    go_wp2_with fail
    refine HM.out.mono ?_
    rintro e w1 ⟨rfl, rfl⟩
    go_wp2_with fail
    refine HF.out.mono ?_
    rintro e w2 ⟨rfl, k2⟩
    have T2 := hide (HT.out.below k2)
    have K2 := hide k2
    obtain ⟨e0, e1, e2, e3⟩ := T2.out.cells
    rw [← HN.out] at e3
    clear k2 c3 e0 e1 e2
    go_wp2_with (refine wpList_store_slot rfl _ _ rfl (L := L) (i := P) (x := zeroS) rfl rfl T2.out.row HL.out ?_)
    go_ret
    exact ⟨rfl, T2.out.put P zeroS HD.out, (Kept.of_below K2.out).setRow (Or.inl rfl) _⟩
  · have hi : isIn L key = false := by simpa using hi
    have HE : Hid (dropL L key = L) := by show _ = _; unfold dropL; rw [hi]; rfl
    rw [hi, HE.out]
    rw [hi] at HF
    simp only [Bool.false_eq_true, if_false] at HF
    clear t hN hi HE c0 c1 c2
    go_enter Try.func18, Try.ntmps18
    go_wp2_with fail
    refine HM.out.mono ?_
    rintro e w1 ⟨rfl, rfl⟩
    go_wp2_with fail
    refine HF.out.mono ?_
    rintro e w2 ⟨rfl, k2⟩
    have T2 := hide (HT.out.below k2)
    have K2 := hide k2
    clear k2
    go_wp2_with fail
    go_ret
    exact ⟨rfl, T2.out, Kept.of_below K2.out⟩
/-- Bytes that were handed out: the caller's own. -/
structure Out (w : World) (B : Nat) (v : Value) (l : List Nat) : Prop where
  at_ : ∃ a c, v = .slice a l.length c ∧ Src w a l.length c l ∧ ∀ b o, a = some ⟨b, o, none⟩ → B ≤ b ∧ ∀ j, j < l.length → w.frozen? ⟨b, o + j, none⟩ = false
theorem Out.nil (w : World) (B : Nat) : Out w B (.slice none 0 0) [] := ⟨none, 0, rfl, Src.nilS w, fun b o e => by cases e⟩
theorem run_conv (t : ByteArray) (w : World) : (convert 9 30 (.string t)).run Try.prog w = .ok (.slice (some ⟨w.heap.size, 0, none⟩) t.size (grownCap w t.size 0 5)) (Lib.bytesWorld w 5 t) := Lib.run_convert_string_bytes (P := Try.prog) w 9 30 5 t Try.underlying9 Try.underlying30 Try.underlying5
theorem bytesW_below (w : World) (t : ByteArray) : Below w.heap.size w (Lib.bytesWorld w 5 t) := ⟨rfl, rfl, rfl, by rw [Lib.bytesWorld_size]; omega, fun k hk => Lib.bytesWorld_at_old w 5 t k hk⟩
theorem conv_out (t : ByteArray) (w : World) (h : t.size ≤ maxLen) : Out (Lib.bytesWorld w 5 t) w.heap.size (.slice (some ⟨w.heap.size, 0, none⟩) t.size (grownCap w t.size 0 5)) (byt t) := by
  have hl := byt_length t
  have hge : t.size ≤ grownCap w t.size 0 5 := grownCap_ge _ _ _ _
  refine ⟨some ⟨w.heap.size, 0, none⟩, grownCap w t.size 0 5, by rw [hl], ⟨rfl, by rw [hl]; exact hge, grownCap_le_maxLen _ _ _ _ h, (fun e => by cases e), fun _ => ⟨w.heap.size, 0, rfl, by rw [Lib.bytesWorld_size]; omega, fun i hi => ?_⟩, byt_lt t⟩, fun b o e => ?_⟩
  · rw [hl] at hi
    rw [Nat.zero_add, Lib.bytesWorld_cell w 5 t i hi]
    have h' : i < t.data.toList.length := by rw [Array.length_toList]; exact hi
    simp only [byt, List.getD, List.getElem?_map, List.getElem?_eq_getElem h']
    rfl
  · simp only [Option.some.injEq, Addr.mk.injEq, and_true] at e
    obtain ⟨rfl, rfl⟩ := e
    refine ⟨Nat.le_refl _, fun j hj => ?_⟩
    rw [hl] at hj
    have hc : (Lib.bytesCells w 5 t).size = grownCap w t.size 0 5 := by
      have : t.data.size = t.size := rfl
      simp only [Lib.bytesCells, Array.size_append, Array.size_map, Array.size_replicate]
      omega
    simp [World.frozen?, Lib.bytesWorld_at_new]
    intro h; omega
theorem Out.below {w w' : World} {B : Nat} {v : Value} {l : List Nat} (h : Out w B v l) (k : Below w.heap.size w w') : Out w' B v l := by
  obtain ⟨a, c, e, hs, ho⟩ := h
  refine ⟨a, c, e, hs.below k, fun b o eb => ⟨(ho b o eb).1, fun j hj => ?_⟩⟩
  have hlt := hs.lt (by omega) eb
  have := (ho b o eb).2 j hj
  simp only [World.frozen?, k.block b hlt] at this ⊢
  exact this
theorem Out.mono {w : World} {B B' : Nat} {v : Value} {l : List Nat} (h : Out w B v l) (hb : B' ≤ B) : Out w B' v l := by
  obtain ⟨a, c, e, hs, ho⟩ := h
  exact ⟨a, c, e, hs, fun b o eb => ⟨Nat.le_trans hb (ho b o eb).1, (ho b o eb).2⟩⟩
theorem not_badNow {now : Int} {key : ByteArray} (h : ¬ (badNow now ∨ badKey key)) : decide (¬ badNow now) = true ∧ decide (¬ badKey key) = true := by
  exact ⟨decide_eq_true (fun e => h (Or.inl e)), decide_eq_true (fun e => h (Or.inr e))⟩
set_option maxRecDepth 100000 in
set_option maxHeartbeats 4000000 in
theorem get_at (r g K h : Nat) (L : List Sl) (now : Int) (key : ByteArray) (w : World) (t : IsTab w r g K L h) :
    Calls Try.prog 16 #[.pointer (some ⟨r, 0, none⟩), .int .i64 now, .string key] w fun e w' => ∃ v, e = .returned (.tuple #[v, .int .i64 (getN L now key), .int .i64 (getC L now key)]) ∧ Out w' w.heap.size v (byt (getB L now key)) ∧ IsTab w' r g K (getL L now key) h ∧ Kept g g w w' := by
  obtain ⟨c0, c1, c2, c3⟩ := t.cells
  obtain ⟨hlr, hlg⟩ := t.lt
  have HM := hide (isMade_at r true w c0)
  have HI := hide (isNow_at now w)
  have HK := hide (isKey_at key w)
  obtain ⟨N, hN⟩ : ∃ N, N = L.length := ⟨_, rfl⟩
  rw [← hN] at c3
  have hm := t.inv.max
  rw [← hN] at hm
  have HT := hide t
  by_cases hb : badNow now ∨ badKey key
  · obtain ⟨g1, g2, g3, g4⟩ := get_none (got_bad (L := L) hb)
    rw [if_pos hb] at g1
    rw [g1, g2, g3, g4, show byt noN = [] from rfl]
    by_cases hbn : badNow now
    · rw [show decide (¬ badNow now) = false by simp [hbn]] at HI
      clear t hN hb g1 g2 g3 g4 hbn c0 c1 c2 c3
      go_enter Try.func16, Try.ntmps16
      go_wp2_with fail
      refine HM.out.mono ?_
      rintro e w1 ⟨rfl, rfl⟩
      go_wp2_with fail
      refine HI.out.mono ?_
      rintro e w1 ⟨rfl, rfl⟩
      go_wp2_with fail
      first | go_ret3 | go_ret2 | go_ret
      exact ⟨_, rfl, Out.nil _ _, HT.out, Kept.refl _ _ _⟩
    · have hbk : badKey key := hb.resolve_left hbn
      rw [show decide (¬ badNow now) = true by simp [hbn]] at HI
      rw [show decide (¬ badKey key) = false by simp [hbk]] at HK
      clear t hN hb g1 g2 g3 g4 hbn hbk c0 c1 c2 c3
      go_enter Try.func16, Try.ntmps16
      go_wp2_with fail
      refine HM.out.mono ?_
      rintro e w1 ⟨rfl, rfl⟩
      go_wp2_with fail
      refine HI.out.mono ?_
      rintro e w1 ⟨rfl, rfl⟩
      go_wp2_with fail
      refine HK.out.mono ?_
      rintro e w1 ⟨rfl, rfl⟩
      go_wp2_with fail
      first | go_ret3 | go_ret2 | go_ret
      exact ⟨_, rfl, Out.nil _ _, HT.out, Kept.refl _ _ _⟩
  obtain ⟨n1, n2⟩ := not_badNow hb
  rw [n1] at HI
  rw [n2] at HK
  have HF := hide (indexFunc_at g K N L now key w t.row t.inv.ok t.inv.uniq hN hm hb)
  cases hg : got L now key with
  | none =>
    obtain ⟨g1, g2, g3, g4⟩ := get_none hg
    rw [if_neg hb] at g1
    rw [g1, g2, g3, g4, show byt noN = [] from rfl]
    rw [show gotI L now key = -1 by unfold gotI; rw [hg]] at HF
    clear t hN hb g1 g2 g3 g4 hg n1 n2 c0 c1 c2
    go_enter Try.func16, Try.ntmps16
    go_wp2_with fail
    refine HM.out.mono ?_
    rintro e w1 ⟨rfl, rfl⟩
    go_wp2_with fail
    refine HI.out.mono ?_
    rintro e w1 ⟨rfl, rfl⟩
    go_wp2_with fail
    refine HK.out.mono ?_
    rintro e w1 ⟨rfl, rfl⟩
    go_wp2_with fail
    refine HF.out.mono ?_
    rintro e w2 ⟨rfl, k2⟩
    have T2 := hide (HT.out.below k2)
    have K2 := hide k2
    clear k2
    go_wp2_with fail
    first | go_ret3 | go_ret2 | go_ret
    exact ⟨_, rfl, Out.nil _ _, T2.out, Kept.of_below K2.out⟩
  | some s =>
    obtain ⟨g1, g2, g3, g4⟩ := get_some hg
    obtain ⟨q1, q2, q3, q4⟩ := got_spec hg
    rw [g1, g2, g3, g4]
    rw [show gotI L now key = ((fidx key L : Nat) : Int) by unfold gotI; rw [hg]] at HF
    have hok := t.inv.ok _ _ q2
    have hl1 := hok.low
    have hl2 := hok.top
    have hbz := hok.few
    have hkp := t.inv.keep
    have hlt := (List.getElem?_eq_some_iff.1 q2).1
    have HKY : Hid ((at0 L (fidx key L)).key.size ≠ 0) := by show _ ≠ _; rw [at0_of q2, q3]; intro e; exact hb (Or.inr (Or.inl e))
    have HS : Hid (s = at0 L (fidx key L)) := (at0_of q2).symm
    obtain ⟨P, hP⟩ : ∃ P, P = fidx key L := ⟨_, rfl⟩
    rw [← hP] at HF hlt HKY HS ⊢
    have HL := hide hlt
    rw [← hN] at hlt
    have hnb : 0 ≤ now ∧ now ≤ 1099511627776 := by
      have : ¬ badNow now := fun e => hb (Or.inl e)
      unfold badNow at this
      omega
    have hwr : IntKind.i64.wrap (now - s.at_) = now - s.at_ := wrap_int _ (by omega) (by omega)
    have HWR := hide hwr
    have HN := hide hN
    clear t hN hb g1 g2 g3 g4 hg n1 n2 c0 c1 c2 q1 q2 q3 q4 hok hP
    go_enter Try.func16, Try.ntmps16
    go_wp2_with fail
    refine HM.out.mono ?_
    rintro e w1 ⟨rfl, rfl⟩
    go_wp2_with fail
    refine HI.out.mono ?_
    rintro e w1 ⟨rfl, rfl⟩
    go_wp2_with fail
    refine HK.out.mono ?_
    rintro e w1 ⟨rfl, rfl⟩
    go_wp2_with fail
    refine HF.out.mono ?_
    rintro e w2 ⟨rfl, k2⟩
    have T2 := hide (HT.out.below k2)
    have K2 := hide k2
    obtain ⟨e0, e1, e2, e3⟩ := T2.out.cells
    rw [← HN.out] at e3
    obtain ⟨d0, d1, d2, d3, d4⟩ := T2.out.row.cells (get_at0 HL.out)
    rw [← HS.out] at d0 d1 d2 d3 d4
    have hfz := T2.out.row.frozen (P * 5 + 4)
    have hcv := run_conv s.bs
    have t3 := T2.out.calm HL.out true HKY.out
    rw [← HS.out] at t3
    have kk := (Kept.of_below (g := g) (r := g) K2.out).setCell (p := ⟨g, P * 5 + 4, none⟩) (Or.inl rfl) (.bool true)
    obtain ⟨W3, hW3⟩ : ∃ W3, W3 = w2.setCell ⟨g, P * 5 + 4, none⟩ (.bool true) := ⟨_, rfl⟩
    rw [← hW3] at t3 kk
    have T3 := hide t3
    have KK := hide kk
    have HLs : Hid ((L.set P { s with asked := true })[P]? = some { s with asked := true }) := by show _ = _; rw [List.getElem?_set, if_pos rfl, if_pos HL.out]
    obtain ⟨f0, f1, f2, f3, f4⟩ := t3.row.cells HLs.out
    obtain ⟨q0, q1, q2, q3, q4⟩ := ((t3.drewN 1).below (bytesW_below (W3.drewN 1) s.bs)).row.cells HLs.out
    simp only at f1 f2 q2
    have q2' : (Lib.bytesWorld W3.drew 5 s.bs).cell? ⟨g, P * 5 + 2, none⟩ = some (.int .i64 s.at_) := q2
    have HO := hide (conv_out s.bs (W3.drewN 1) (by unfold maxLen; omega))
    have HBW := hide (bytesW_below (W3.drewN 1) s.bs)
    have HW3 := hide hW3.symm
    have hsz : w.heap.size ≤ W3.heap.size := kk.size
    clear k2 c3 e0 e1 e2 t3 kk f0 f3 f4 q0 q1 q2 q3 q4 hW3
    go_wp2_with fail
    rw [HW3.out]
    go_region
    all_goals
      go_wp2_with fail
      first | go_ret3 | go_ret2 | go_ret
      exact ⟨_, rfl, HO.out.mono hsz, (T3.out.drewN 1).below HBW.out, (KK.out.drewN 1).trans (Kept.of_below HBW.out)⟩
theorem strClone_at (s : ByteArray) (w : World) (h : s.size ≤ 4096) : Calls Try.prog 42 #[.string s] w fun e w' => e = .returned (.string s) ∧ Below w.heap.size w w' := by
  have HC := hide (Try.stringslite_Clone s w (by omega))
  go_enter Try.func42, Try.ntmps42
  go_wp2_with fail
  refine HC.out.mono ?_
  rintro e w1 ⟨rfl, k1⟩
  have K1 := hide k1
  clear k1
  go_wp2_with fail
  go_ret
  exact ⟨rfl, K1.out⟩
attribute [local go_sem ↓] run_opst Go.wp_at_zero Go.wp_at_succ
set_option maxRecDepth 100000 in
set_option maxHeartbeats 4000000 in
theorem filled_at (now : Int) (key : ByteArray) (a : Option Addr) (n c : Nat) (l : List Nat) (age : Int) (w : World) (hs : Src w a n c l) (hk : key.size ≤ 4096) :
    Calls Try.prog 33 #[.int .i64 now, .string key, .slice a n c, .int .i64 age] w fun e w' => e = .returned (slV ⟨key, strN l, now, age, false⟩) ∧ Below w.heap.size w w' := by
  have HC := fun w1 => hide (strClone_at key w1 hk)
  obtain ⟨w0, hw0⟩ : ∃ w0, w0 = w.alloc (.cells #[.string ⟨#[]⟩, .string ⟨#[]⟩, .int .i64 0, .int .i64 0, .bool false] 62) := ⟨_, rfl⟩
  have b0 : Below w.heap.size w w0 := by rw [hw0]; exact box_below _ _
  have r0 : Row w0 w.heap.size [zeroS] := by rw [hw0]; exact alloc_new _ _
  have hc0 := run_str_src ((hs.below b0).below (Below.refl w0.heap.size w0).drew)
  obtain ⟨X, hX⟩ : ∃ X : Sl, X = ⟨key, strN l, now, age, false⟩ := ⟨_, rfl⟩
  have HX := hide hX
  have HST : Hid (∀ w1 : World, Below w0.heap.size w0 w1 → (convert 30 9 (.slice a n c)).run Try.prog w1 = .ok (.string (strN l)) w1 ∧ stOk Try.prog (.pointer (some ⟨w.heap.size, 0, none⟩)) (.agg #[.string key, .string (strN l), .int .i64 now, .int .i64 age, .bool false]) w1 = true ∧ stW Try.prog (.pointer (some ⟨w.heap.size, 0, none⟩)) (.agg #[.string key, .string (strN l), .int .i64 now, .int .i64 age, .bool false]) w1 = w1.setRow w.heap.size (slC X).toArray ∧ Below w.heap.size w w1 ∧ w1.heap[w.heap.size]? = some (.cells (slC zeroS).toArray 62)) := fun w1 k => by
    have hr1 := r0.below k
    have hst : (Instr.storeAt 62 (.pointer (some ⟨w.heap.size, 0, none⟩)) (.agg #[.string key, .string (strN l), .int .i64 now, .int .i64 age, .bool false])).run Try.prog w1 = .ok () (w1.setRow w.heap.size (slC X).toArray) := by
      have := run_storeVar_slot X hr1 (i := 0) (by simp)
      rw [Nat.zero_mul, hX] at this
      rw [hX]
      have e : flat ([zeroS].set 0 ⟨key, strN l, now, age, false⟩) = slC ⟨key, strN l, now, age, false⟩ := by simp [flat]
      rw [e] at this
      simp only [Instr.storeAt, Instr.sureAddr, Sem.run_bind, Sem.run_pure, Result.andThen_ok]
      rw [show (#[.string key, .string (strN l), .int .i64 now, .int .i64 age, .bool false] : Array Value) = (slC ⟨key, strN l, now, age, false⟩).toArray from rfl, this]
    obtain ⟨q1, q2⟩ := st_of hst
    have e0 : flat [zeroS] = slC zeroS := by simp [flat]
    exact ⟨run_str_src ((hs.below b0).below k), q1, q2, b0.trans (k.mono b0.size), by have := hr1; unfold Row at this; rw [e0] at this; exact this⟩
  have HI : Hid ((Try.prog.info? 62).map (·.size) = some (slC X).toArray.size) := by show _ = _; exact infoS
  have HW0 := hide hw0.symm
  have HRES : Hid (slV ⟨key, strN l, now, age, false⟩ = .agg (slC X).toArray) := by show _ = _; rw [hX]; rfl
  rw [HRES.out]
  clear hs hw0 hX r0 HRES
  go_enter Try.func33, Try.ntmps33
  go_wp2_with fail
  rw [HW0.out]
  go_region_with (go_at_call 42; refine (HC _).out.mono ?_; rintro e w1 ⟨rfl, k1⟩; obtain ⟨hc1, q1, q2, k2, r2⟩ := HST.out w1 ((Below.refl _ _).drew.trans k1); have K2 := hide k2; have R2 := hide r2; clear k1 k2 r2)
  all_goals
    have HF : Hid ((w1.setRow w.heap.size (slC X).toArray).heap[w.heap.size]? = some (.cells (slC X).toArray 62)) := setRow_heap _ _ _ _ 62 (0, 0) R2.out
    go_wp2_with fail
    refine bodyPost_ret (results_cell_row rfl _ _ w.heap.size 62 (slC X).toArray (0, 0) _ rfl HF.out Try.underlying62 rfl HI.out) rfl ?_
    exact ⟨rfl, below_setRow K2.out (Nat.le_refl _) _⟩
end Go.Proofs.Ytcihkdmndpdmoaa
