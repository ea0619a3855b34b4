/-
  ParsePort and Parse of the reference; conditions as each theorem has them.
-/
import Derived.Test.YthbnbnfhbkekpaaGreatDoorQ
import Derived.Test.YthbnbnfhbkekpaaGreatDoorS
set_option linter.unusedSimpArgs false
set_option linter.unusedVariables false
namespace Go.Proofs.YthbnbnfhbkekpaaGreatDoor
open Go.RowKit

theorem port_wh (l : List Nat) : port l = match wh l 5 with
    | some n => if n < 1 ∨ 65535 < n then (0, .one 0 62) else (n, .ok)
    | none => (0, .one 0 62) := by
  have h := wh_port l
  unfold port
  rw [← h]
  cases wh l 5 with
  | none => rfl
  | some n =>
    simp only
    by_cases h1 : 65535 < n
    · rw [if_pos h1, if_pos (Or.inr h1)]
    · rw [if_neg h1]
      simp only
      by_cases h0 : n = 0
      · rw [if_pos h0, if_pos (Or.inl (by omega))]
      · rw [if_neg h0, if_neg (by omega)]
theorem wh_lt {l : List Nat} {d n : Nat} (h : wh l d = some n) : n < 10 ^ d := by
  unfold wh at h
  split at h
  · rename_i hh
    simp at h
    have hall : l.all dig = true := by have := hh.1; rw [isNum_of] at this; simp only [Bool.and_eq_true] at this; exact this.1.2
    have := val_lt l hall
    rw [h] at this
    exact Nat.lt_of_lt_of_le this (Nat.pow_le_pow_right (n := 10) (by omega) hh.2)
  · cases h

set_option maxRecDepth 100000 in
set_option maxHeartbeats 2000000 in
theorem rparsePort_at (t : ByteArray) (w : World) (hm : t.size ≤ maxLen) : Calls Tryz.prog 113 #[.string t] w fun e w' => e = .returned (.tuple #[.int .i64 ((port (byt t)).1 : Nat), badV (port (byt t)).2]) ∧ Below w.heap.size w w' := by
  obtain ⟨l, hl⟩ : ∃ l, l = byt t := ⟨_, rfl⟩
  rw [← hl]
  have HL : Hid (byt t = l) := hl.symm
  have HMX := hide hm
  have b0 : Below w.heap.size w (w.alloc (.cells (badC .ok) 32)) := (Below.refl _ _).alloc (Nat.le_refl _) _
  have HR0 : Hid ((w.alloc (.cells (badC .ok) 32)).heap[w.heap.size]? = some (.cells (badC .ok) 32)) := alloc_new _ _
  have B0 := hide b0
  obtain ⟨W0, hW0⟩ : ∃ W0, W0 = w.alloc (.cells (badC .ok) 32) := ⟨_, rfl⟩
  rw [← hW0] at HR0 B0
  have HW0 : Hid (w.alloc (.cells #[.int .i64 0, .string ⟨#[]⟩, .string ⟨#[]⟩, .string ⟨#[]⟩, .string ⟨#[]⟩, .int .i64 0, .int .i64 0, .int .i64 0, .int .i64 0, .int .i64 0] 32) = W0) := hW0.symm
  have hpw := port_wh l
  clear hl hm b0 hW0
  cases hwh : wh l 5 with
  | none =>
    have HR : Hid (port l = (0, .one 0 62)) := by show _ = _; rw [hpw, hwh]
    have HWH := hide hwh
    clear hwh hpw
    go_enter Tryz.func113, Tryz.ntmps113
    go_wp2_with fail
    rw [HW0.out]
    refine (whole_at t 5 _ HMX.out (by omega)).mono ?_
    rintro e w2 ⟨rfl, rfl⟩
    rw [HL.out, HWH.out]
    simp only [two, Option.getD_none, Option.isSome_none]
    go_wp2_with fail
    refine (fault_at 0 62 _).mono ?_
    rintro e w4 ⟨rfl, hb4⟩
    have h14 : w4.heap[w.heap.size]? = some (.cells (badC .ok) 32) := (hb4.block _ (lt_of_some HR0.out)).trans HR0.out
    obtain ⟨W2, hW2⟩ : ∃ W2, W2 = w4.setRow w.heap.size (badC (.one 0 62)) := ⟨_, rfl⟩
    have F1 := hide h14
    have F3 : Hid (W2.heap[w.heap.size]? = some (.cells (badC (.one 0 62)) 32)) := by rw [hW2]; exact setRow_heap _ _ _ _ _ h14
    have F5 : Hid (Below w.heap.size w W2) := by rw [hW2]; exact below_setRow (B0.out.trans (hb4.mono B0.out.size)) (Nat.le_refl _) _
    have HW2 := hide hW2
    clear hW2 h14 hb4
    rw [badV_badC]
    go_wp2_with (first
      | (refine wpList_store_rowW rfl 32 _ _ rfl w.heap.size (badC (.one 0 62)) rfl rfl 32 (badC .ok) F1.out info32 rfl (badC_one _) W2 HW2.out ?_))
    refine bodyPost_ret (res_tmp_cell rfl _ _ w.heap.size 32 (badC (.one 0 62)) (0, 0) _ rfl F3.out Tryz.underlying32 rfl info32) rfl ⟨?_, F5.out⟩
    rw [HR.out, badV_badC]; rfl
  | some n =>
    have hn5 := wh_lt hwh
    have hn : n < 100000 := hn5
    have HWH := hide hwh
    rw [hwh] at hpw
    simp only at hpw
    clear hwh hn5
    by_cases h1 : n < 1
    · have HR : Hid (port l = (0, .one 0 62)) := by show _ = _; rw [hpw, if_pos (Or.inl h1)]
      have q1 : decide ((n : Int) < 1) = true := decide_eq_true (by omega)
      have q1' : decide (n < 1) = true := decide_eq_true (by omega)
      clear hpw
      go_enter Tryz.func113, Tryz.ntmps113
      go_wp2_with fail
      rw [HW0.out]
      refine (whole_at t 5 _ HMX.out (by omega)).mono ?_
      rintro e w2 ⟨rfl, rfl⟩
      rw [HL.out, HWH.out]
      simp only [two, Option.getD_some, Option.isSome_some]
      go_wp2_with fail
      refine (fault_at 0 62 _).mono ?_
      rintro e w4 ⟨rfl, hb4⟩
      have h14 : w4.heap[w.heap.size]? = some (.cells (badC .ok) 32) := (hb4.block _ (lt_of_some HR0.out)).trans HR0.out
      obtain ⟨W2, hW2⟩ : ∃ W2, W2 = w4.setRow w.heap.size (badC (.one 0 62)) := ⟨_, rfl⟩
      have F1 := hide h14
      have F3 : Hid (W2.heap[w.heap.size]? = some (.cells (badC (.one 0 62)) 32)) := by rw [hW2]; exact setRow_heap _ _ _ _ _ h14
      have F5 : Hid (Below w.heap.size w W2) := by rw [hW2]; exact below_setRow (B0.out.trans (hb4.mono B0.out.size)) (Nat.le_refl _) _
      have HW2 := hide hW2
      clear hW2 h14 hb4
      rw [badV_badC]
      go_wp2_with (first
        | (refine wpList_store_rowW rfl 32 _ _ rfl w.heap.size (badC (.one 0 62)) rfl rfl 32 (badC .ok) F1.out info32 rfl (badC_one _) W2 HW2.out ?_))
      refine bodyPost_ret (res_tmp_cell rfl _ _ w.heap.size 32 (badC (.one 0 62)) (0, 0) _ rfl F3.out Tryz.underlying32 rfl info32) rfl ⟨?_, F5.out⟩
      rw [HR.out, badV_badC]; rfl
    have q1 : decide ((n : Int) < 1) = false := decide_eq_false (by omega)
    have q1' : decide (n < 1) = false := decide_eq_false (by omega)
    by_cases h2 : 65535 < n
    · have HR : Hid (port l = (0, .one 0 62)) := by show _ = _; rw [hpw, if_pos (Or.inr h2)]
      have q2 : decide (65535 < (n : Int)) = true := decide_eq_true (by omega)
      have q2' : decide (65535 < n) = true := decide_eq_true (by omega)
      clear hpw
      go_enter Tryz.func113, Tryz.ntmps113
      go_wp2_with fail
      rw [HW0.out]
      refine (whole_at t 5 _ HMX.out (by omega)).mono ?_
      rintro e w2 ⟨rfl, rfl⟩
      rw [HL.out, HWH.out]
      simp only [two, Option.getD_some, Option.isSome_some]
      go_wp2_with fail
      refine (fault_at 0 62 _).mono ?_
      rintro e w4 ⟨rfl, hb4⟩
      have h14 : w4.heap[w.heap.size]? = some (.cells (badC .ok) 32) := (hb4.block _ (lt_of_some HR0.out)).trans HR0.out
      obtain ⟨W2, hW2⟩ : ∃ W2, W2 = w4.setRow w.heap.size (badC (.one 0 62)) := ⟨_, rfl⟩
      have F1 := hide h14
      have F3 : Hid (W2.heap[w.heap.size]? = some (.cells (badC (.one 0 62)) 32)) := by rw [hW2]; exact setRow_heap _ _ _ _ _ h14
      have F5 : Hid (Below w.heap.size w W2) := by rw [hW2]; exact below_setRow (B0.out.trans (hb4.mono B0.out.size)) (Nat.le_refl _) _
      have HW2 := hide hW2
      clear hW2 h14 hb4
      rw [badV_badC]
      go_wp2_with (first
        | (refine wpList_store_rowW rfl 32 _ _ rfl w.heap.size (badC (.one 0 62)) rfl rfl 32 (badC .ok) F1.out info32 rfl (badC_one _) W2 HW2.out ?_))
      refine bodyPost_ret (res_tmp_cell rfl _ _ w.heap.size 32 (badC (.one 0 62)) (0, 0) _ rfl F3.out Tryz.underlying32 rfl info32) rfl ⟨?_, F5.out⟩
      rw [HR.out, badV_badC]; rfl
    · have HR : Hid (port l = (n, .ok)) := by show _ = _; rw [hpw, if_neg (by omega)]
      have q2 : decide (65535 < (n : Int)) = false := decide_eq_false (by omega)
      have q2' : decide (65535 < n) = false := decide_eq_false (by omega)
      clear hpw
      obtain ⟨W2, hW2⟩ : ∃ W2, W2 = W0.setRow w.heap.size (badC .ok) := ⟨_, rfl⟩
      have F3 : Hid (W2.heap[w.heap.size]? = some (.cells (badC .ok) 32)) := by rw [hW2]; exact setRow_heap _ _ _ _ _ HR0.out
      have F5 : Hid (Below w.heap.size w W2) := by rw [hW2]; exact below_setRow B0.out (Nat.le_refl _) _
      have HW2 := hide hW2
      clear hW2
      go_enter Tryz.func113, Tryz.ntmps113
      go_wp2_with fail
      rw [HW0.out]
      refine (whole_at t 5 _ HMX.out (by omega)).mono ?_
      rintro e w2 ⟨rfl, rfl⟩
      rw [HL.out, HWH.out]
      simp only [two, Option.getD_some, Option.isSome_some]
      go_wp2_with (first
        | (refine wpList_store_rowW rfl 32 _ _ rfl w.heap.size (badC .ok) rfl rfl 32 (badC .ok) HR0.out info32 rfl (badC_one _) W2 HW2.out ?_))
      refine bodyPost_ret (res_tmp_cell rfl _ _ w.heap.size 32 (badC .ok) (0, 0) _ rfl F3.out Tryz.underlying32 rfl info32) rfl ⟨?_, F5.out⟩
      rw [HR.out, badV_badC]; rfl

theorem host_long {l : List Nat} (h : 253 < l.length) : host l = (([0, 0, 0, 0], []), .one 253 3) := by
  have h0 : l ≠ [] := fun e => by rw [e] at h; simp at h
  rw [host, if_neg h0]
  split
  · rw [addr, if_pos h]
  · rw [name, if_pos h]
theorem set5 {w : World} {B : Nat} {t : TypeId} {o0 o1 o2 o3 o4 : Value} (h : w.heap[B]? = some (.cells #[o0, o1, o2, o3, o4] t)) (v0 v1 v2 v3 v4 : Value) :
    (((((w.setCell ⟨B, 0, none⟩ v0).setCell ⟨B, 1, none⟩ v1).setCell ⟨B, 2, none⟩ v2).setCell ⟨B, 3, none⟩ v3).setCell ⟨B, 4, none⟩ v4).heap[B]? = some (.cells #[v0, v1, v2, v3, v4] t) := by
  rw [heap_setCell_same (heap_setCell_same (heap_setCell_same (heap_setCell_same (heap_setCell_same h _ _) _ _) _ _) _ _) _ _]
  rfl
theorem set10 {w : World} {B : Nat} {t : TypeId} {o0 o1 o2 o3 o4 o5 o6 o7 o8 o9 : Value} (h : w.heap[B]? = some (.cells #[o0, o1, o2, o3, o4, o5, o6, o7, o8, o9] t)) (v0 v1 v2 v3 v4 v5 v6 v7 v8 v9 : Value) :
    ((((((((((w.setCell ⟨B, 0, none⟩ v0).setCell ⟨B, 1, none⟩ v1).setCell ⟨B, 2, none⟩ v2).setCell ⟨B, 3, none⟩ v3).setCell ⟨B, 4, none⟩ v4).setCell ⟨B, 5, none⟩ v5).setCell ⟨B, 6, none⟩ v6).setCell ⟨B, 7, none⟩ v7).setCell ⟨B, 8, none⟩ v8).setCell ⟨B, 9, none⟩ v9).heap[B]? = some (.cells #[v0, v1, v2, v3, v4, v5, v6, v7, v8, v9] t) := by
  rw [heap_setCell_same (heap_setCell_same (heap_setCell_same (heap_setCell_same (heap_setCell_same (heap_setCell_same (heap_setCell_same (heap_setCell_same (heap_setCell_same (heap_setCell_same h _ _) _ _) _ _) _ _) _ _) _ _) _ _) _ _) _ _) _ _]
  kernel_rfl

end Go.Proofs.YthbnbnfhbkekpaaGreatDoor
