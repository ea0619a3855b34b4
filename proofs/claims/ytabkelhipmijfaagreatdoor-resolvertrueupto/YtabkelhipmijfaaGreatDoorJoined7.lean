/-
  What package dns writes: numbers of two bytes; Whether an error is what the reference tells: 'Is', and 'Like'; Check of package host and of the reference; conditions as each theorem has them.
-/
import Derived.Test.YtabkelhipmijfaaGreatDoorJoined3
import Derived.Test.YtabkelhipmijfaaGreatDoorJoined1
import Derived.Test.YtabkelhipmijfaaGreatDoorQ
import Derived.Test.YtabkelhipmijfaaGreatDoorN
set_option linter.unusedSimpArgs false
set_option linter.unusedVariables false
namespace Go.Proofs.YtabkelhipmijfaaGreatDoor
open Go.RowKit

/-- A number of two bytes. -/
def num2 (n : Nat) : List Nat := [n / 256 % 256, n % 256]
def nums2 (l : List Nat) : List Nat := l.flatMap num2
theorem nums2_len (l : List Nat) : (nums2 l).length = 2 * l.length := by
  induction l with
  | nil => rfl
  | cons a l ih => simp [nums2, num2] at ih ⊢; omega
theorem num2_lt (n : Nat) : ∀ x ∈ num2 n, x < 256 := by simp [num2]; omega
theorem nums2_take (l : List Nat) (k : Nat) (h : k < l.length) : nums2 (l.take (k + 1)) = nums2 (l.take k) ++ num2 (l.getD k 0) := by
  rw [take_snoc l k h]; simp [nums2]
theorem Own.but {w w' : World} {B : Nat} {v u : Value} {xs : List Value} {C : List Value} {r : Nat} {ty : TypeId} (h : Own w B 5 v xs) (hr : Row w r ty C) (ht : ty ≠ 5) (k : But v w w') : Row w' r ty C :=
  hr.keep (k r hr.lt (fun e => by
    obtain ⟨_, cur, hh⟩ := h.block e
    unfold Row at hr
    rw [hh] at hr
    simp at hr
    exact ht hr.2.symm))
set_option maxRecDepth 100000 in
set_option maxHeartbeats 2000000 in
theorem putNumbers_at (v : Value) (l : List Nat) (B r : Nat) (zs : List Nat) (w : World) (h : Own w B 5 v (nums .u8 l)) (hB : B ≤ w.heap.size) (hr : Row w r 3 (nums .i64 zs)) (hl : l.length ≤ 10000) (hz : zs.length ≤ 100) (hzl : ∀ x ∈ zs, x < 4294967296) (hlb : ∀ x ∈ l, x < 256) :
    Calls Tryz.prog 96 #[v, .slice (some ⟨r, 0, none⟩) zs.length zs.length] w fun e w' => ∃ v', e = .returned v' ∧ Own w' B 5 v' (nums .u8 (l ++ nums2 zs)) ∧ Below B w w' := by
  have H := hide h
  have HR := hide hr
  have HZ := hide hzl
  have HLB := hide hlb
  clear h hr hzl hlb
  go_enter Tryz.func96, Tryz.ntmps96
  go_wp2_with fail
  go_loopw [0, 9] (fun x i wr => ∃ k : Nat, k ≤ zs.length ∧ i = .int .i64 k ∧ Hid (Own wr B 5 x (nums .u8 (l ++ nums2 (zs.take k))) ∧ Below B w wr ∧ Row wr r 3 (nums .i64 zs) ∧ B ≤ wr.heap.size)) (fun _ i _ => zs.length - (intOf i).toNat)
  case atStart => exact ⟨0, by omega, rfl, by simpa [nums2] using H.out, Below.refl _ _, HR.out, hB⟩
  case round =>
    obtain ⟨k, hk, rfl, HI⟩ := hrel
    by_cases hkn : k < zs.length
    · have hd : decide ((k : Int) < (zs.length : Int)) = true := decide_eq_true (by omega)
      have hd' : decide (k < zs.length) = true := decide_eq_true (by omega)
      obtain ⟨ow, bl, rw_, hBr⟩ := HI.out
      have hMl : (l ++ nums2 (zs.take k)).length ≤ 11000 := by rw [List.length_append, nums2_len, List.length_take]; omega
      have hMb : ∀ x ∈ l ++ nums2 (zs.take k), x < 256 := fun x hx => by
        rcases List.mem_append.1 hx with h | h
        · exact HLB.out x h
        · obtain ⟨y, _, hy⟩ := List.mem_flatMap.1 h; exact num2_lt y x hy
      have ck : wr.cell? ⟨r, k, none⟩ = some (.int .i64 (zs.getD k 0 : Nat)) := rw_.num0 hkn
      have hrl := rw_.lt
      have hz' := HZ.out (zs.getD k 0) (getD_mem hkn)
      have hnt := nums2_take zs k hkn
      obtain ⟨z, hz0⟩ : ∃ z, z = zs.getD k 0 := ⟨_, rfl⟩
      rw [← hz0] at ck hz' hnt
      obtain ⟨M, hM⟩ : ∃ M, M = l ++ nums2 (zs.take k) := ⟨_, rfl⟩
      rw [← hM] at ow hMl hMb
      have HM : Hid (l ++ nums2 (zs.take (k + 1)) = M ++ num2 z) := by show _ = _; rw [hnt, ← List.append_assoc, ← hM]
      obtain ⟨xa, xc, rfl, xs, xb⟩ := own_src ow hMb
      have hcell : (nums .u8 (num2 z)).toArray = #[.int .u8 ((z : Int) / 256 % 256), .int .u8 ((z : Int) % 256)] := by simp [nums, num2]
      obtain ⟨v4, w4, ap4, ow4, bl4, bu4⟩ := run_appN ow (num2 z) (num2_lt z) (by simp [num2]; omega) hBr
      rw [hcell] at ap4
      have AP4 : Hid ((Builtin.append_ #[30, 30] 30 #[.slice xa M.length xc, .slice (some ⟨wr.heap.size, 0, none⟩) 2 2]).run Tryz.prog (wr.alloc (.cells #[.int .u8 ((z : Int) / 256 % 256), .int .u8 ((z : Int) % 256)] 5)) = .ok v4 w4) := ap4
      have HI2 : Hid (Own w4 B 5 v4 (nums .u8 (l ++ nums2 (zs.take (k + 1)))) ∧ Below B w w4 ∧ Row w4 r 3 (nums .i64 zs) ∧ B ≤ w4.heap.size) := ⟨by rw [HM.out]; exact ow4, bl.trans bl4, ow.but (u := v4) rw_ (by decide) bu4, Nat.le_trans hBr bl4.size⟩
      clear ow bl rw_ xs xb ap4 ow4 bl4 bu4 hcell hM hz0 hMb hnt hMl HI HM
      go_wp2_with (first
        | (refine wpList_app_run _ rfl _ _ 30 30 rfl (.slice xa M.length xc) (.slice (some ⟨wr.heap.size, 0, none⟩) 2 2) rfl rfl AP4.out ?_))
      go_roundw
      case rel => exact ⟨k + 1, by omega, by go_num, HI2.out⟩
      case measure => simp [intOf]; omega
    · have hd : decide ((k : Int) < (zs.length : Int)) = false := decide_eq_false (by omega)
      have hd' : decide (k < zs.length) = false := decide_eq_false (by omega)
      obtain ⟨ow, bl, rw_, hBr⟩ := HI.out
      rw [List.take_of_length_le (by omega)] at ow
      have OW := hide ow
      have BL := hide bl
      clear ow bl rw_ HI
      go_wp2_with fail
      go_ret
      exact ⟨_, rfl, OW.out, BL.out⟩
end Go.Proofs.YtabkelhipmijfaaGreatDoor

set_option linter.unusedSimpArgs false
set_option linter.unusedVariables false
namespace Go.Proofs.YtabkelhipmijfaaGreatDoor
open Go.RowKit

theorem wpList_load_rowG {P : Program} {ops : Array Oper} {rest : List Oper} {o : Oper} {a : Act} {w : World} {Q : Exit → Act → World → Prop} (hgd : Region.wanted o (yielded ops a.tmps) = true) (ty : TypeId) (x : Operand) (ho : o.op = .load ty x)
    (g : Nat) (hx : a.eval x = .pointer (some ⟨g, 0, none⟩)) (t : TypeId) (cs : Array Value) (fr : Nat × Nat) (d : TypeDesc) (hg : w.heap[g]? = some (.cells cs t fr))
    (hu : P.underlying ty = some d) (hd : (match d with | .struct _ | .array _ _ => true | _ => false) = true) (hi : (P.info? ty).map (·.size) = some cs.size)
    (h : wpList P ops Q rest (a.put o.dst (.agg cs)) w) : wpList P ops Q (o :: rest) a w :=
  BigFrame.wpList_want hgd fun _ hK => wp_load_row ty x ho g hx t cs fr d hg hu hd hi (hK _ _ h)
theorem keepB {w w' : World} {b : Nat} {o : Obj} (k : Below w.heap.size w w') (h : w.heap[b]? = some o) : w'.heap[b]? = some o := (k.block b (lt_of_some h)).trans h
theorem eq29 (a b c d : ByteArray) (w : World) : (Op.equalIn 9999 92 (.agg #[.string a, .string b, .string c, .string d]) (.agg #[.string a, .string b, .string c, .string d])).run Tryz.prog w = .ok true w := by
  obtain ⟨i, hi⟩ : ∃ i, Tryz.prog.info? 9 = some i := Option.isSome_iff_exists.1 (by kernel_rfl)
  have c9 : Tryz.prog.cellsOf 9 = 1 := by kernel_rfl
  have hs : ∀ w, (sizeOf 9).run Tryz.prog w = .ok 1 w := fun w => by kernel_rfl
  have ha : ∀ w, (isAgg 9).run Tryz.prog w = .ok false w := fun w => by kernel_rfl
  rw [run_equalIn_array w 9998 _ _ (by kernel_rfl : Tryz.prog.underlying 92 = some (.array 4 9)) hi, c9, show List.range 4 = [0, 1, 2, 3] from rfl]
  simp [Op.eqItems, Go.part, hs, ha, run_equalIn_string _ _ _ _ _ Tryz.underlying9]
theorem eq30 (a b c d : Int) (w : World) : (Op.equalIn 9999 93 (.agg #[.int .i64 a, .int .i64 b, .int .i64 c, .int .i64 d]) (.agg #[.int .i64 a, .int .i64 b, .int .i64 c, .int .i64 d])).run Tryz.prog w = .ok true w := by
  obtain ⟨i, hi⟩ : ∃ i, Tryz.prog.info? 3 = some i := Option.isSome_iff_exists.1 (by kernel_rfl)
  have c9 : Tryz.prog.cellsOf 3 = 1 := by kernel_rfl
  have hs : ∀ w, (sizeOf 3).run Tryz.prog w = .ok 1 w := fun w => by kernel_rfl
  have ha : ∀ w, (isAgg 3).run Tryz.prog w = .ok false w := fun w => by kernel_rfl
  rw [run_equalIn_array w 9998 _ _ (by kernel_rfl : Tryz.prog.underlying 93 = some (.array 4 3)) hi, c9, show List.range 4 = [0, 1, 2, 3] from rfl]
  simp [Op.eqItems, Go.part, hs, ha, run_equalIn_int _ _ _ _ _ _ _ Tryz.underlying3]
theorem ne30 (a b c d x : Int) (w : World) (h : a ≠ x) : (Op.equalIn 9999 93 (.agg #[.int .i64 a, .int .i64 b, .int .i64 c, .int .i64 d]) (.agg #[.int .i64 x, .int .i64 b, .int .i64 c, .int .i64 d])).run Tryz.prog w = .ok false w := by
  obtain ⟨i, hi⟩ : ∃ i, Tryz.prog.info? 3 = some i := Option.isSome_iff_exists.1 (by kernel_rfl)
  have c9 : Tryz.prog.cellsOf 3 = 1 := by kernel_rfl
  have hs : ∀ w, (sizeOf 3).run Tryz.prog w = .ok 1 w := fun w => by kernel_rfl
  have ha : ∀ w, (isAgg 3).run Tryz.prog w = .ok false w := fun w => by kernel_rfl
  rw [run_equalIn_array w 9998 _ _ (by kernel_rfl : Tryz.prog.underlying 93 = some (.array 4 3)) hi, c9, show List.range 4 = [0, 1, 2, 3] from rfl]
  simp [Op.eqItems, Go.part, hs, ha, run_equalIn_int _ _ _ _ _ _ _ Tryz.underlying3, h]

end Go.Proofs.YtabkelhipmijfaaGreatDoor

set_option linter.unusedSimpArgs false
set_option linter.unusedVariables false
namespace Go.Proofs.YtabkelhipmijfaaGreatDoor
open Go.RowKit

theorem IsEr.some {w : World} {e : Er} {v : Value} (h : IsEr w e v) (he : e ≠ .ok) : ∃ b, v = .iface 156 (.pointer (some ⟨b, 0, none⟩)) := by
  cases e with
  | ok => exact absurd rfl he
  | one a c => obtain ⟨b, hv, _⟩ := h; exact ⟨b, hv⟩
  | two a a2 c => obtain ⟨b, b2, hv, _⟩ := h; exact ⟨b, hv⟩

def erN : Er → Nat
  | .ok => 0
  | .one _ _ => 1
  | .two _ _ _ => 2
theorem badC_N (e : Er) : (badC e)[0]? = some (.int .i64 (erN e : Nat)) := by cases e <;> rfl
theorem badI (e : Er) : (Tryz.prog.info? 95).map (·.size) = some (badC e).size := by rw [badC_size]; exact info32

def hoV (a : Ad) (n : ByteArray) : Value := .agg #[.int .u8 (a.1 : Nat), .int .u8 (a.2.1 : Nat), .int .u8 (a.2.2.1 : Nat), .int .u8 (a.2.2.2 : Nat), .string n]
theorem name_lt {l : List Nat} (h : ∀ x ∈ l, x < 256) : ∀ x ∈ (name l).1, x < 256 := by
  unfold name
  split
  · simp
  · split
    · simp
    · split
      · simp
      · exact low_lt h
/-- One of four numbers is not 0, and which is the first. -/
theorem ad_ne {a0 a1 a2 a3 : Nat} (h : ¬ ((a0, a1, a2, a3) : Ad) = (0, 0, 0, 0)) : (¬ a0 = 0) ∨ (a0 = 0 ∧ ¬ a1 = 0) ∨ (a0 = 0 ∧ a1 = 0 ∧ ¬ a2 = 0) ∨ (a0 = 0 ∧ a1 = 0 ∧ a2 = 0 ∧ ¬ a3 = 0) := by
  simp only [Prod.mk.injEq] at h
  omega
set_option maxRecDepth 100000 in
set_option maxHeartbeats 4000000 in
theorem check_at (a : Ad) (n : ByteArray) (w : World) (hm : n.size ≤ maxLen) (hV : Vars w) : Calls Tryz.prog 112 #[hoV a n] w fun e w' => e = .returned (.bool (chk a (byt n))) ∧ Below w.heap.size w w' := by
  obtain ⟨a0, a1, a2, a3⟩ := a
  simp only [hoV]
  by_cases h0 : byt n = []
  · have he : n.toList.isEmpty = true := by rw [isEmpty_byt]; simp [h0]
    have he2 : (n.toList == []) = true := by simpa using he
    have HR : Hid (chk (a0, a1, a2, a3) (byt n) = true) := by simp [chk, h0, Hid]
    rw [HR.out]
    clear h0
    go_enter Tryz.func112, Tryz.ntmps112
    go_wp2_with fail
    go_ret
    exact ⟨rfl, (Below.refl _ _).alloc (Nat.le_refl _) _⟩
  have he : n.toList.isEmpty = false := by rw [isEmpty_byt]; simp [h0]
  have he2 : (n.toList == []) = false := by
    cases hh : n.toList with
    | nil => rw [hh] at he; cases he
    | cons a b => rfl
  have HC : Hid (chk (a0, a1, a2, a3) (byt n) = (decide (name (byt n) = (byt n, .ok)) && decide (((a0, a1, a2, a3) : Ad) = (0, 0, 0, 0)))) := by simp [chk, h0, Hid]
  rw [HC.out]
  obtain ⟨q, er, hq⟩ : ∃ q er, name (byt n) = (q, er) := ⟨_, _, rfl⟩
  have hql : ∀ x ∈ q, x < 256 := by have := name_lt (byt_lt n); rw [hq] at this; exact this
  have HB : Hid (byt (strN q) = q) := byt_strN q hql
  have HQ := hide hq
  have HMX := hide hm
  have hb0 : Below w.heap.size w (w.alloc (.cells #[.int .u8 (a0 : Nat), .int .u8 (a1 : Nat), .int .u8 (a2 : Nat), .int .u8 (a3 : Nat), .string n] 193)) := (Below.refl _ _).alloc (Nat.le_refl _) _
  have HV := hide (hV.below hb0)
  have B0 := hide hb0
  have HEQ : Hid (decide (name (byt n) = (byt n, Er.ok)) = (decide (er = .ok) && decide (q = byt n))) := by
    show _ = _
    rw [hq]
    by_cases h1 : er = .ok <;> by_cases h2 : q = byt n <;> simp [h1, h2]
  rw [HEQ.out]
  obtain ⟨R, hR⟩ : ∃ R, R = (decide (er = .ok) && decide (q = byt n) && decide (((a0, a1, a2, a3) : Ad) = (0, 0, 0, 0))) := ⟨_, rfl⟩
  rw [← hR]
  have HRR := hide hR
  clear hR
  have hr0 : (w.alloc (.cells #[.int .u8 (a0 : Nat), .int .u8 (a1 : Nat), .int .u8 (a2 : Nat), .int .u8 (a3 : Nat), .string n] 193)).heap[w.heap.size]? = some (.cells #[.int .u8 (a0 : Nat), .int .u8 (a1 : Nat), .int .u8 (a2 : Nat), .int .u8 (a3 : Nat), .string n] 193) := alloc_new _ _
  have R0 := hide hr0
  clear h0 hq hql hm hb0 hV hr0 HC HEQ
  go_enter Tryz.func112, Tryz.ntmps112
  go_wp2_with fail
  refine (parseName_at n _ HMX.out HV.out).mono ?_
  rintro e w1 ⟨v, rfl, her, hb1⟩
  rw [HQ.out] at her ⊢
  simp only [] at her ⊢
  have s1 := keepB hb1 R0.out
  have c0 : w1.cell? ⟨w.heap.size, 0, none⟩ = some (.int .u8 (a0 : Nat)) := by simp [World.cell?, s1]
  have c1 : w1.cell? ⟨w.heap.size, 1, none⟩ = some (.int .u8 (a1 : Nat)) := by simp [World.cell?, s1]
  have c2 : w1.cell? ⟨w.heap.size, 2, none⟩ = some (.int .u8 (a2 : Nat)) := by simp [World.cell?, s1]
  have c3 : w1.cell? ⟨w.heap.size, 3, none⟩ = some (.int .u8 (a3 : Nat)) := by simp [World.cell?, s1]
  have c4 : w1.cell? ⟨w.heap.size, 4, none⟩ = some (.string n) := by simp [World.cell?, s1]
  have B1 := hide (B0.out.trans (hb1.mono B0.out.size))
  have ER := hide her
  clear hb1 s1 her B0 R0 HV
  by_cases hok : er = .ok
  · subst hok
    have hv : v = .nilIface := ER.out
    subst hv
    by_cases hqn : q = byt n
    · have q1 : ((strN q).toList == n.toList) = true := by rw [eq_byt, HB.out]; simp [hqn]
      by_cases hz : ((a0, a1, a2, a3) : Ad) = (0, 0, 0, 0)
      · have HD : Hid (R = true) := by show _ = _; rw [HRR.out]; simp [hqn, hz]
        simp only [Prod.mk.injEq] at hz
        obtain ⟨rfl, rfl, rfl, rfl⟩ := hz
        clear hqn HRR
        go_wp2_with fail
        go_ret
        refine ⟨?_, B1.out⟩
        rw [HD.out]
        first | rfl | simp
      · have HD : Hid (R = false) := by show _ = _; rw [HRR.out]; rw [decide_eq_false hz, Bool.and_false]
        have hne := ad_ne hz
        clear hqn hz HRR
        rcases hne with h | ⟨rfl, h⟩ | ⟨rfl, rfl, h⟩ | ⟨rfl, rfl, rfl, h⟩
        · have q2 : ((a0 : Int) == 0) = false := by simp; omega
          clear h
          go_wp2_with fail
          go_ret
          refine ⟨?_, B1.out⟩
          rw [HD.out]
          first | rfl | simp
        · have q2 : ((a1 : Int) == 0) = false := by simp; omega
          clear h
          go_wp2_with fail
          go_ret
          refine ⟨?_, B1.out⟩
          rw [HD.out]
          first | rfl | simp
        · have q2 : ((a2 : Int) == 0) = false := by simp; omega
          clear h
          go_wp2_with fail
          go_ret
          refine ⟨?_, B1.out⟩
          rw [HD.out]
          first | rfl | simp
        · have q2 : ((a3 : Int) == 0) = false := by simp; omega
          clear h
          go_wp2_with fail
          go_ret
          refine ⟨?_, B1.out⟩
          rw [HD.out]
          first | rfl | simp
    · have q1 : ((strN q).toList == n.toList) = false := by rw [eq_byt, HB.out]; simp [hqn]
      have HD : Hid (R = false) := by show _ = _; rw [HRR.out]; simp [hqn]
      clear hqn HRR
      go_wp2_with fail
      go_ret
      refine ⟨?_, B1.out⟩
      rw [HD.out]
      first | rfl | simp
  · obtain ⟨b, rfl⟩ := ER.out.some hok
    have HD : Hid (R = false) := by show _ = _; rw [HRR.out]; simp [hok]
    clear hok HRR
    go_wp2_with fail
    go_ret
    refine ⟨?_, B1.out⟩
    rw [HD.out]
    first | rfl | simp
end Go.Proofs.YtabkelhipmijfaaGreatDoor
