/-
  PutLogin and PutGreeting of package five and of the reference; conditions as each theorem has them.
-/
import Derived.Test.YtefgjmijbedbkaaDoorPA
set_option linter.unusedSimpArgs false
set_option linter.unusedVariables false
namespace Go.Proofs.YtefgjmijbedbkaaDoor
open Go.RowKit Go.Lib

theorem strCells_nums (t : ByteArray) : strCells t = nums .u8 (byt t) := by simp [strCells, nums, byt]
/-- 'append(v, t...)' of a text. -/
theorem run_apps {w : World} {B : Nat} {v : Value} {l : List Nat} (hown : Own w B 5 v (nums .u8 l)) (t : ByteArray) (hlen : l.length + t.size ≤ 140737488355328) (hB : B ≤ w.heap.size) :
    ∃ v' w', (Builtin.append_ #[22, 9] 22 #[v, .string t]).run Tryd.prog w = .ok v' w' ∧ Own w' B 5 v' (nums .u8 (l ++ byt t)) ∧ Below B w w' := by
  obtain ⟨i, hi, hz, hsz, hby⟩ := info5p
  have hl := nums_length .u8 l
  obtain ⟨v', w', hr, ho, hg, _⟩ := run_append_own_string (P := Tryd.prog) w B 22 9 22 5 i Tryd.underlying22 Tryd.underlying9 hi hz hsz hby v (nums .u8 l).length (nums .u8 l) hown t (by rw [hl]; unfold maxLen; omega) (by rw [hl]; exact hlen) hB
  refine ⟨v', w', hr, ?_, (Below.refl B w).grown hg hB (fun k hk => (hown.block hk).1)⟩
  unfold Own
  rw [nums_append, List.length_append, nums_length .u8 (byt t), byt_length, ← strCells_nums]
  exact ho
/-- 'append(v, x)' of one byte, its own slice laid ahead. -/
theorem run_app1 {w : World} {B : Nat} {v : Value} {l : List Nat} (hown : Own w B 5 v (nums .u8 l)) (x : Nat) (hlen : l.length + 1 ≤ 1000000) (hB : B ≤ w.heap.size) :
    ∃ v' w', (Builtin.append_ #[22, 22] 22 #[v, .slice (some ⟨w.heap.size, 0, none⟩) 1 1]).run Tryd.prog (w.alloc (.cells #[.int .u8 (x : Nat)] 5)) = .ok v' w' ∧ Own w' B 5 v' (nums .u8 (l ++ [x])) ∧ Below B w w' := by
  have ha := (Below.refl w.heap.size w).alloc (Nat.le_refl _) (.cells #[.int .u8 (x : Nat)] 5)
  obtain ⟨v', w', h1, h2, h3, _⟩ := own_app 22 5 (.int .u8 0) 1 Tryd.underlying22 inf5 rfl (hown.below ha) ⟨w.heap.size, 0, none⟩ 1 1 [.int .u8 (x : Nat)] rfl
    (fun j u hu => by
      have hj := (List.getElem?_eq_some_iff.1 hu).1
      simp at hj
      subst hj
      rw [add_none]
      simp at hu
      rw [← hu]; simp) (by simp [Value.oneCell']) (by rw [nums_length]; omega) (by rw [nums_length]; omega) (by simp; omega)
  exact ⟨v', w', h1, by rw [nums_append]; exact h2, (ha.mono hB).trans h3⟩
set_option maxRecDepth 100000 in
set_option maxHeartbeats 1000000 in
theorem appendCounted_at (v : Value) (l : List Nat) (t : ByteArray) (B : Nat) (w : World) (h : Own w B 5 v (nums .u8 l)) (hB : B ≤ w.heap.size) (hl : l.length ≤ 100000) (ht : t.size ≤ 255) :
    Calls Tryd.prog 53 #[v, .string t] w fun e w' => ∃ v', e = .returned v' ∧ Own w' B 5 v' (nums .u8 (l ++ t.size :: byt t)) ∧ Below B w w' := by
  obtain ⟨v1, w1, a1, o1, b1⟩ := run_app1 h t.size (by omega) hB
  obtain ⟨v2, w2, a2, o2, b2⟩ := run_apps o1 t (by rw [List.length_append]; simp; omega) (Nat.le_trans hB b1.size)
  have HA1 := hide a1
  have HA2 := hide a2
  have HO : Hid (Own w2 B 5 v2 (nums .u8 (l ++ t.size :: byt t))) := by
    have := o2
    rw [List.append_assoc] at this
    exact this
  have HB2 := hide (b1.trans b2)
  clear h a1 a2 o1 o2 b1 b2
  go_enter Tryd.func53, Tryd.ntmps53
  go_wp2_with (first
    | (refine wpList_app_run _ rfl _ _ 22 22 rfl _ _ rfl rfl HA1.out ?_)
    | (refine wpList_app_run _ rfl _ _ 22 9 rfl _ _ rfl rfl HA2.out ?_))
  go_ret
  exact ⟨v2, rfl, HO.out, HB2.out⟩
/-- What is written of a login. -/
def putLg (u p : List Nat) : List Nat × Nat := if (1 ≤ u.length ∧ u.length ≤ 255) ∧ (1 ≤ p.length ∧ p.length ≤ 255) then (putL u p, 0) else ([], 2)
theorem own_one (w : World) (x : Nat) : Own (w.alloc (.cells #[.int .u8 (x : Nat)] 5)) w.heap.size 5 (.slice (some ⟨w.heap.size, 0, none⟩) 1 1) (nums .u8 [x]) := own_new1 w 5 (.int .u8 (x : Nat)) w.heap.size rfl w.heap.size (Nat.le_refl _)
theorem own_two (w : World) (x y : Nat) : Own (w.alloc (.cells #[.int .u8 (x : Nat), .int .u8 (y : Nat)] 5)) w.heap.size 5 (.slice (some ⟨w.heap.size, 0, none⟩) 2 2) (nums .u8 [x, y]) :=
  ⟨rfl, Or.inr ⟨w.heap.size, 2, #[.int .u8 (x : Nat), .int .u8 (y : Nat)], rfl, Nat.le_refl _, alloc_new _ _, by simp [nums], by unfold maxLen; omega, rfl, rfl⟩⟩
theorem own_three (w : World) (x y z : Nat) : Own (w.alloc (.cells #[.int .u8 (x : Nat), .int .u8 (y : Nat), .int .u8 (z : Nat)] 5)) w.heap.size 5 (.slice (some ⟨w.heap.size, 0, none⟩) 3 3) (nums .u8 [x, y, z]) :=
  ⟨rfl, Or.inr ⟨w.heap.size, 3, #[.int .u8 (x : Nat), .int .u8 (y : Nat), .int .u8 (z : Nat)], rfl, Nat.le_refl _, alloc_new _ _, by simp [nums], by unfold maxLen; omega, rfl, rfl⟩⟩
theorem putL_lt {u p : List Nat} (hu : ∀ x ∈ u, x < 256) (hp : ∀ x ∈ p, x < 256) (h1 : u.length ≤ 255) (h2 : p.length ≤ 255) : ∀ x ∈ putL u p, x < 256 := by
  intro x hx
  simp only [putL, List.cons_append, List.mem_cons, List.mem_append] at hx
  rcases hx with rfl | rfl | hx | rfl | hx
  · omega
  · omega
  · exact hu x hx
  · omega
  · exact hp x hx
/-- Bytes of their own are what a writer answers. -/
theorem wrote_own {w w' : World} {v : Value} {l : List Nat} (h : Own w' w.heap.size 5 v (nums .u8 l)) (hb : ∀ x ∈ l, x < 256) (k : Below w.heap.size w w') (c : Nat) : Wrote (l, c) w (.returned (.tuple #[v, .int .i64 (c : Nat)])) w' := by
  obtain ⟨a, cap, rfl, hs, _⟩ := own_src h hb
  exact ⟨a, cap, rfl, hs, k⟩
set_option maxRecDepth 100000 in
set_option maxHeartbeats 2000000 in
theorem putLogin_at (u p : ByteArray) (w : World) (hu : u.size ≤ maxLen) (hp : p.size ≤ maxLen) : Calls Tryd.prog 27 #[.string u, .string p] w (Wrote (putLg (byt u) (byt p)) w) := by
  have eu := byt_length u
  have ep := byt_length p
  unfold maxLen at hu hp
  by_cases h1 : 1 ≤ u.size ∧ u.size ≤ 255
  · have HB1 : Hid (true = decide (1 ≤ ((u.size : Nat) : Int) ∧ ((u.size : Nat) : Int) ≤ (255 : Nat))) := (decide_eq_true (by omega)).symm
    by_cases h2 : 1 ≤ p.size ∧ p.size ≤ 255
    · have HB2 : Hid (true = decide (1 ≤ ((p.size : Nat) : Int) ∧ ((p.size : Nat) : Int) ≤ (255 : Nat))) := (decide_eq_true (by omega)).symm
      have HS : Hid (putLg (byt u) (byt p) = (putL (byt u) (byt p), 0)) := by show _ = _; unfold putLg; rw [if_pos (by omega)]
      rw [HS.out]
      obtain ⟨W1, hW1⟩ : ∃ W1, W1 = w.alloc (.cells #[.int .u8 1] 5) := ⟨_, rfl⟩
      have o1 : Own W1 w.heap.size 5 (.slice (some ⟨w.heap.size, 0, none⟩) 1 1) (nums .u8 [1]) := by rw [hW1]; exact own_one w 1
      have b1 : Below w.heap.size w W1 := by rw [hW1]; exact (Below.refl _ _).alloc (Nat.le_refl _) _
      have HA := hide (appendCounted_at _ [1] u w.heap.size W1 o1 b1.size (by simp) h1.2)
      have B1 := hide b1
      have HW1 := hide hW1.symm
      have hu2 := h1.2
      have hp2 := h2.2
      have HPB : Hid (∀ x ∈ putL (byt u) (byt p), x < 256) := putL_lt (byt_lt u) (byt_lt p) (by omega) (by omega)
      clear h1 h2 o1 b1 hW1
      go_enter Tryd.func27, Tryd.ntmps27
      go_wp2_with (first
        | (go_at_call_of 50 (Value.int .i64 ((u.size : Nat) : Int)); refine (isCount_at ((u.size : Nat) : Int) 255 _ true HB1.out).mono ?_; rintro e wx ⟨rfl, rfl⟩)
        | (go_at_call_of 50 (Value.int .i64 ((p.size : Nat) : Int)); refine (isCount_at ((p.size : Nat) : Int) 255 _ true HB2.out).mono ?_; rintro e wx ⟨rfl, rfl⟩))
      rw [HW1.out]
      refine HA.out.mono ?_
      rintro e w2 ⟨v2, rfl, o2, b2⟩
      have HA2 := hide (appendCounted_at v2 ([1] ++ u.size :: byt u) p w.heap.size w2 o2 (Nat.le_trans B1.out.size b2.size) (by simp; omega) hp2)
      have B2 := hide (B1.out.trans b2)
      clear o2 b2
      go_wp2_with fail
      refine HA2.out.mono ?_
      rintro e w3 ⟨v3, rfl, o3, b3⟩
      have e3 : ([1] ++ u.size :: byt u) ++ p.size :: byt p = putL (byt u) (byt p) := by unfold putL; rw [eu, ep]; simp
      rw [e3] at o3
      have HW := hide (wrote_own o3 HPB.out (B2.out.trans b3) 0)
      clear o3 b3 e3
      go_wp2_with fail
      go_ret2
      exact HW.out
    · have HB2 : Hid (false = decide (1 ≤ ((p.size : Nat) : Int) ∧ ((p.size : Nat) : Int) ≤ (255 : Nat))) := (decide_eq_false (by omega)).symm
      have HS : Hid (putLg (byt u) (byt p) = ([], 2)) := by show _ = _; unfold putLg; rw [if_neg (by omega)]
      rw [HS.out]
      clear h1 h2
      go_enter Tryd.func27, Tryd.ntmps27
      go_wp2_with (first
        | (go_at_call_of 50 (Value.int .i64 ((u.size : Nat) : Int)); refine (isCount_at ((u.size : Nat) : Int) 255 _ true HB1.out).mono ?_; rintro e wx ⟨rfl, rfl⟩)
        | (go_at_call_of 50 (Value.int .i64 ((p.size : Nat) : Int)); refine (isCount_at ((p.size : Nat) : Int) 255 _ false HB2.out).mono ?_; rintro e wx ⟨rfl, rfl⟩))
      go_ret2
      exact ⟨none, 0, rfl, Src.nilS _, Below.refl _ _⟩
  · have HB1 : Hid (false = decide (1 ≤ ((u.size : Nat) : Int) ∧ ((u.size : Nat) : Int) ≤ (255 : Nat))) := (decide_eq_false (by omega)).symm
    have HS : Hid (putLg (byt u) (byt p) = ([], 2)) := by show _ = _; unfold putLg; rw [if_neg (by omega)]
    rw [HS.out]
    clear h1
    go_enter Tryd.func27, Tryd.ntmps27
    go_wp2_with fail
    refine (isCount_at ((u.size : Nat) : Int) 255 _ false HB1.out).mono ?_
    rintro e wx ⟨rfl, rfl⟩
    go_wp2_with fail
    go_ret2
    exact ⟨none, 0, rfl, Src.nilS _, Below.refl _ _⟩
set_option maxRecDepth 100000 in
set_option maxHeartbeats 2000000 in
theorem rputLogin_at (u p : ByteArray) (w : World) (hu : u.size ≤ maxLen) (hp : p.size ≤ maxLen) : Calls Tryd.prog 28 #[.string u, .string p] w (Wrote (putLg (byt u) (byt p)) w) := by
  have eu := byt_length u
  have ep := byt_length p
  unfold maxLen at hu hp
  by_cases u0 : u.size = 0
  · have HS : Hid (putLg (byt u) (byt p) = ([], 2)) := by show _ = _; unfold putLg; rw [if_neg (by omega)]
    rw [HS.out]
    have he : u.toList.isEmpty = true := by rw [isEmpty_byt]; simp [(byt_nil u).2 u0]
    have he2 : (u.toList == []) = true := by simpa using he
    go_enter Tryd.func28, Tryd.ntmps28
    go_wp2_with fail
    go_ret2
    exact ⟨none, 0, rfl, Src.nilS _, Below.refl _ _⟩
  have he : u.toList.isEmpty = false := by rw [isEmpty_byt]; simp [byt_nil, u0]
  have he2 : (u.toList == []) = false := by
    cases hh : u.toList with
    | nil => rw [hh] at he; cases he
    | cons a b => rfl
  by_cases p0 : p.size = 0
  · have HS : Hid (putLg (byt u) (byt p) = ([], 2)) := by show _ = _; unfold putLg; rw [if_neg (by omega)]
    rw [HS.out]
    have hf : p.toList.isEmpty = true := by rw [isEmpty_byt]; simp [(byt_nil p).2 p0]
    have hf2 : (p.toList == []) = true := by simpa using hf
    go_enter Tryd.func28, Tryd.ntmps28
    go_wp2_with fail
    go_ret2
    exact ⟨none, 0, rfl, Src.nilS _, Below.refl _ _⟩
  have hf : p.toList.isEmpty = false := by rw [isEmpty_byt]; simp [byt_nil, p0]
  have hf2 : (p.toList == []) = false := by
    cases hh : p.toList with
    | nil => rw [hh] at hf; cases hf
    | cons a b => rfl
  by_cases u255 : 255 < u.size
  · have HS : Hid (putLg (byt u) (byt p) = ([], 2)) := by show _ = _; unfold putLg; rw [if_neg (by omega)]
    rw [HS.out]
    have g1 : decide (255 < (u.size : Int)) = true := decide_eq_true (by omega)
    have g1' : decide (255 < u.size) = true := decide_eq_true u255
    go_enter Tryd.func28, Tryd.ntmps28
    go_wp2_with fail
    go_ret2
    exact ⟨none, 0, rfl, Src.nilS _, Below.refl _ _⟩
  have g1 : decide (255 < (u.size : Int)) = false := decide_eq_false (by omega)
  have g1' : decide (255 < u.size) = false := decide_eq_false u255
  by_cases p255 : 255 < p.size
  · have HS : Hid (putLg (byt u) (byt p) = ([], 2)) := by show _ = _; unfold putLg; rw [if_neg (by omega)]
    rw [HS.out]
    have g2 : decide (255 < (p.size : Int)) = true := decide_eq_true (by omega)
    have g2' : decide (255 < p.size) = true := decide_eq_true p255
    go_enter Tryd.func28, Tryd.ntmps28
    go_wp2_with fail
    go_ret2
    exact ⟨none, 0, rfl, Src.nilS _, Below.refl _ _⟩
  have g2 : decide (255 < (p.size : Int)) = false := decide_eq_false (by omega)
  have g2' : decide (255 < p.size) = false := decide_eq_false p255
  have HS : Hid (putLg (byt u) (byt p) = (putL (byt u) (byt p), 0)) := by show _ = _; unfold putLg; rw [if_pos (by omega)]
  rw [HS.out]
  have hu2 : u.size ≤ 255 := by omega
  have hp2 : p.size ≤ 255 := by omega
  have HPB : Hid (∀ x ∈ putL (byt u) (byt p), x < 256) := putL_lt (byt_lt u) (byt_lt p) (by omega) (by omega)
  have b0 : Below w.heap.size w (w.alloc (.cells #[.int .u8 (1 : Nat), .int .u8 (u.size : Nat)] 5)) := (Below.refl _ _).alloc (Nat.le_refl _) _
  obtain ⟨v1, w1, a1, o1, b1⟩ := run_apps (own_two w 1 u.size) u (by simp; omega) b0.size
  obtain ⟨v2, w2, a2, o2, b2⟩ := run_app1 o1 p.size (by simp; omega) (Nat.le_trans b0.size b1.size)
  obtain ⟨v3, w3, a3, o3, b3⟩ := run_apps o2 p (by simp; omega) (Nat.le_trans (Nat.le_trans b0.size b1.size) b2.size)
  have e3 : (([1, u.size] ++ byt u) ++ [p.size]) ++ byt p = putL (byt u) (byt p) := by unfold putL; rw [eu, ep]; simp
  rw [e3] at o3
  have HW := hide (wrote_own o3 HPB.out (((b0.trans b1).trans b2).trans b3) 0)
  have A1 := hide a1
  have A2 := hide a2
  have A3 := hide a3
  clear a1 a2 a3 o1 o2 o3 b0 b1 b2 b3 e3 u255 p255 u0 p0
  go_enter Tryd.func28, Tryd.ntmps28
  go_wp2_with (first
    | (refine wpList_app_run _ rfl _ _ 22 9 rfl _ _ rfl rfl A1.out ?_)
    | (refine wpList_app_run _ rfl _ _ 22 22 rfl _ _ rfl rfl A2.out ?_)
    | (refine wpList_app_run _ rfl _ _ 22 9 rfl _ _ rfl rfl A3.out ?_))
  go_ret2
  exact HW.out
end Go.Proofs.YtefgjmijbedbkaaDoor
