/-
  PutRequest and PutReply of package five; conditions as each theorem has them.
-/
import Derived.Test.YtefgjmijbedbkaaDoorPB
import Derived.Test.YtefgjmijbedbkaaDoorY
import Derived.Deep.RegionHeld3
set_option linter.unusedSimpArgs false
set_option linter.unusedVariables false
namespace Go.Proofs.YtefgjmijbedbkaaDoor
open Go.RowKit

/-- What is written of a request. -/
noncomputable def putRq (c : Int) (a : Ad) (n : List Nat) (p : Int) : List Nat × Nat := if (0 ≤ c ∧ c ≤ 255) ∧ chk a n = true ∧ 0 ≤ p ∧ p ≤ 65535 then (putR c.toNat a n p.toNat, 0) else ([], 2)
theorem putR_lt {c : Nat} {a : Ad} {n : List Nat} {p : Nat} (hc : c < 256) (ha : a.ok) (hn : ∀ x ∈ n, x < 256) (hl : n.length ≤ 255) (hp : p < 65536) : ∀ x ∈ putR c a n p, x < 256 := by
  obtain ⟨a1, a2, a3, a4⟩ := ha
  intro x hx
  unfold putR at hx
  simp only [List.mem_append, List.mem_cons, List.not_mem_nil, or_false] at hx
  rcases hx with (h | h) | h
  · omega
  · split at h
    · simp at h; omega
    · simp only [List.mem_cons] at h
      rcases h with rfl | rfl | h
      · omega
      · omega
      · exact hn x h
  · omega
/-- 'append(v, x, y)'. -/
theorem run_app2 {w : World} {B : Nat} {v : Value} {l : List Nat} (hown : Own w B 5 v (nums .u8 l)) (x y : Nat) (hlen : l.length + 2 ≤ 1000000) (hB : B ≤ w.heap.size) :
    ∃ v' w', (Builtin.append_ #[22, 22] 22 #[v, .slice (some ⟨w.heap.size, 0, none⟩) 2 2]).run Tryd.prog (w.alloc (.cells #[.int .u8 (x : Nat), .int .u8 (y : Nat)] 5)) = .ok v' w' ∧ Own w' B 5 v' (nums .u8 (l ++ [x, y])) ∧ Below B w w' := by
  have ha := (Below.refl w.heap.size w).alloc (Nat.le_refl _) (.cells #[.int .u8 (x : Nat), .int .u8 (y : Nat)] 5)
  have r := Row.new w #[.int .u8 (x : Nat), .int .u8 (y : Nat)] 5
  obtain ⟨v', w', h1, h2, h3, _⟩ := own_app 22 5 (.int .u8 0) 1 Tryd.underlying22 inf5 rfl (hown.below ha) ⟨w.heap.size, 0, none⟩ 2 2 (nums .u8 [x, y]) rfl
    (fun j u hu => by rw [add_none, r.cell, Nat.zero_add]; exact hu) (nums_one _ _) (by rw [nums_length]; omega) (by rw [nums_length]; omega) (by simp; omega)
  exact ⟨v', w', h1, by rw [nums_append]; exact h2, (ha.mono hB).trans h3⟩
/-- 'append(v, 1, a, b, c, d)'. -/
theorem run_app5 {w : World} {B : Nat} {v : Value} {l : List Nat} (hown : Own w B 5 v (nums .u8 l)) (x0 x1 x2 x3 x4 : Nat) (hlen : l.length + 5 ≤ 1000000) (hB : B ≤ w.heap.size) :
    ∃ v' w', (Builtin.append_ #[22, 22] 22 #[v, .slice (some ⟨w.heap.size, 0, none⟩) 5 5]).run Tryd.prog (w.alloc (.cells #[.int .u8 (x0 : Nat), .int .u8 (x1 : Nat), .int .u8 (x2 : Nat), .int .u8 (x3 : Nat), .int .u8 (x4 : Nat)] 5)) = .ok v' w' ∧ Own w' B 5 v' (nums .u8 (l ++ [x0, x1, x2, x3, x4])) ∧ Below B w w' := by
  have ha := (Below.refl w.heap.size w).alloc (Nat.le_refl _) (.cells #[.int .u8 (x0 : Nat), .int .u8 (x1 : Nat), .int .u8 (x2 : Nat), .int .u8 (x3 : Nat), .int .u8 (x4 : Nat)] 5)
  have r := Row.new w #[.int .u8 (x0 : Nat), .int .u8 (x1 : Nat), .int .u8 (x2 : Nat), .int .u8 (x3 : Nat), .int .u8 (x4 : Nat)] 5
  obtain ⟨v', w', h1, h2, h3, _⟩ := own_app 22 5 (.int .u8 0) 1 Tryd.underlying22 inf5 rfl (hown.below ha) ⟨w.heap.size, 0, none⟩ 5 5 (nums .u8 [x0, x1, x2, x3, x4]) rfl
    (fun j u hu => by rw [add_none, r.cell, Nat.zero_add]; exact hu) (nums_one _ _) (by rw [nums_length]; omega) (by rw [nums_length]; omega) (by simp; omega)
  exact ⟨v', w', h1, by rw [nums_append]; exact h2, (ha.mono hB).trans h3⟩
/-- The operation 'append' at a step of a drawn region, where its run is known by an equation. -/
theorem step_app_run {P : Program} (w : World) {ops : Array Oper} {o : Oper} {a : Act} {K : Act → World → Prop} {Q : Exit → Act → World → Prop} {E : Prop} (hgd : o.guard = none) (d s : Operand) (t t' : TypeId)
    (ho : o.op = .call { callee := .builtin .append, args := #[d, s], argTypes := #[t, t'] }) (v u : Value) (hd : a.eval d = v) (hs : a.eval s = u) {v' : Value} {w' : World}
    (hr : (Builtin.append_ #[t, t'] o.type #[v, u]).run P w = .ok v' w') (h : K (a.put o.dst v') w') : if Region.wanted o (yielded ops a.tmps) = true then Oper.wp P o a w K Q else E := by
  have hw : Region.wanted o (yielded ops a.tmps) = true := by simp [Region.wanted, hgd]
  rw [if_pos hw]
  unfold Oper.wp execOp
  simp only [ho, resolve, invoke, builtin, Sem.run_bind, Sem.run_pure, Result.andThen_ok, List.map_toArray, List.map_cons, List.map_nil, hd, hs, hr]
  exact h
theorem chk_len {a : Ad} {n : List Nat} (h : chk a n = true) : n.length ≤ 253 := by
  by_cases h0 : n = []
  · rw [h0]; simp
  · exact (name_ok (chk_name h h0).1).1
set_option maxRecDepth 100000 in
set_option maxHeartbeats 4000000 in
theorem putTo_at (c : Int) (a : Ad) (t : ByteArray) (p : Int) (w : World) (hV : Vars w) (ha : a.ok) (ht : t.size ≤ maxLen) (hwf : -9223372036854775808 ≤ p ∧ p ≤ 9223372036854775807) : Calls Tryd.prog 54 #[.int .i64 c, deV a t p] w (Wrote (putRq c a (byt t) p) w) := by
  obtain ⟨a0, a1, a2, a3⟩ := a
  obtain ⟨hp1, hp2⟩ := hwf
  obtain ⟨W0, hW0⟩ : ∃ W0, W0 = w.alloc (.cells #[.int .u8 (a0 : Nat), .int .u8 (a1 : Nat), .int .u8 (a2 : Nat), .int .u8 (a3 : Nat), .string t, .int .i64 p] 47) := ⟨_, rfl⟩
  have b0 : Below w.heap.size w W0 := by rw [hW0]; exact (Below.refl _ _).alloc (Nat.le_refl _) _
  have r0 : W0.heap[w.heap.size]? = some (.cells #[.int .u8 (a0 : Nat), .int .u8 (a1 : Nat), .int .u8 (a2 : Nat), .int .u8 (a3 : Nat), .string t, .int .i64 p] 47) := by rw [hW0]; exact alloc_new _ _
  have HC := hide (check_at (a0, a1, a2, a3) t W0 ht (hV.below b0))
  simp only [hoV] at HC
  simp only [deV]
  have B0 := hide b0
  have R0 := hide r0
  have HW0 := hide hW0.symm
  clear hV b0 hW0 r0
  by_cases hc : 0 ≤ c ∧ c ≤ 255
  · have HB1 : Hid (true = decide (0 ≤ c ∧ c ≤ 255)) := (decide_eq_true hc).symm
    obtain ⟨m, rfl⟩ : ∃ m : Nat, c = m := ⟨c.toNat, by omega⟩
    have hm : m < 256 := by omega
    have HCC := hide hc
    clear hc
    go_enter Tryd.func54, Tryd.ntmps54
    go_wp2_with fail
    refine (isByte_at (m : Int) _ true HB1.out).mono ?_
    rintro e w1 ⟨rfl, rfl⟩
    go_wp2_with fail
    rw [HW0.out]
    refine HC.out.mono ?_
    rintro e w2 ⟨rfl, hb2⟩
    have r2 := keepB hb2 R0.out
    have c0 : w2.cell? ⟨w.heap.size, 0, none⟩ = some (.int .u8 (a0 : Nat)) := by simp [World.cell?, r2]
    have c1 : w2.cell? ⟨w.heap.size, 1, none⟩ = some (.int .u8 (a1 : Nat)) := by simp [World.cell?, r2]
    have c2 : w2.cell? ⟨w.heap.size, 2, none⟩ = some (.int .u8 (a2 : Nat)) := by simp [World.cell?, r2]
    have c3 : w2.cell? ⟨w.heap.size, 3, none⟩ = some (.int .u8 (a3 : Nat)) := by simp [World.cell?, r2]
    have c4 : w2.cell? ⟨w.heap.size, 4, none⟩ = some (.string t) := by simp [World.cell?, r2]
    have c5 : w2.cell? ⟨w.heap.size, 5, none⟩ = some (.int .i64 p) := by simp [World.cell?, r2]
    have hz2 : w.heap.size < w2.heap.size := lt_of_some r2
    have R2 := hide r2
    have B2 := hide (B0.out.trans (hb2.mono B0.out.size))
    clear hb2 r2
    cases hk : chk (a0, a1, a2, a3) (byt t) with
    | false =>
      have HS : Hid (putRq (m : Int) (a0, a1, a2, a3) (byt t) p = ([], 2)) := by show _ = _; unfold putRq; rw [if_neg (fun e => by rw [hk] at e; cases e.2.1)]
      clear hk
      go_wp2_with fail
      go_ret2
      rw [HS.out]
      exact ⟨none, 0, rfl, Src.nilS _, B2.out⟩
    | true =>
    by_cases p0 : p < 0
    · have HS : Hid (putRq (m : Int) (a0, a1, a2, a3) (byt t) p = ([], 2)) := by show _ = _; unfold putRq; rw [if_neg (by omega)]
      have g1 : decide (p < 0) = true := decide_eq_true p0
      clear hk
      go_wp2_with fail
      go_ret2
      rw [HS.out]
      exact ⟨none, 0, rfl, Src.nilS _, B2.out⟩
    have g1 : decide (p < 0) = false := decide_eq_false p0
    by_cases p6 : 65535 < p
    · have HS : Hid (putRq (m : Int) (a0, a1, a2, a3) (byt t) p = ([], 2)) := by show _ = _; unfold putRq; rw [if_neg (by omega)]
      have g2 : decide (65535 < p) = true := decide_eq_true p6
      clear hk
      go_wp2_with fail
      go_ret2
      rw [HS.out]
      exact ⟨none, 0, rfl, Src.nilS _, B2.out⟩
    have g2 : decide (65535 < p) = false := decide_eq_false p6
    have HS : Hid (putRq (m : Int) (a0, a1, a2, a3) (byt t) p = (putR m (a0, a1, a2, a3) (byt t) p.toNat, 0)) := by show _ = _; unfold putRq; rw [if_pos ⟨HCC.out, hk, by omega, by omega⟩]; rfl
    have hl253 := chk_len hk
    rw [byt_length] at hl253
    obtain ⟨P, rfl⟩ : ∃ P : Nat, p = P := ⟨p.toNat, by omega⟩
    have hP : P < 65536 := by omega
    have HLT : Hid (∀ x ∈ putR m (a0, a1, a2, a3) (byt t) P, x < 256) := putR_lt hm ha (byt_lt t) (by rw [byt_length]; omega) hP
    rw [show ((P : Int)).toNat = P from rfl] at HS
    have hw3 : Below w2.heap.size w2 (w2.alloc (.cells #[.int .u8 5, .int .u8 (m : Nat), .int .u8 0] 5)) := (Below.refl _ _).alloc (Nat.le_refl _) _
    have o3 := own_three w2 5 m 0
    have f1 : ((P / 256 : Nat) : Int) = (P : Int) / 256 := by omega
    have f2 : ((P % 256 : Nat) : Int) = (P : Int) % 256 := by omega
    by_cases h0 : byt t = []
    · have he : t.toList.isEmpty = true := by rw [isEmpty_byt]; simp [h0]
      have he2 : (t.toList == []) = true := by simpa using he
      have he3 : (t.toList != []) = false := by rw [bne, he2]; rfl
      obtain ⟨Wa, hWa⟩ : ∃ Wa, Wa = (w2.alloc (.cells #[.int .u8 5, .int .u8 (m : Nat), .int .u8 0] 5)).alloc (.cells #[.int .u8 (a0 : Nat), .int .u8 (a1 : Nat), .int .u8 (a2 : Nat), .int .u8 (a3 : Nat)] 43) := ⟨_, rfl⟩
      have hsa : Wa.heap.size = w2.heap.size + 1 + 1 := by rw [hWa]; simp
      have ba : Below w2.heap.size w2 Wa := by rw [hWa]; exact hw3.alloc (by simp) _
      have oa : Own Wa w2.heap.size 5 (.slice (some ⟨w2.heap.size, 0, none⟩) 3 3) (nums .u8 [5, m, 0]) := by rw [hWa]; exact o3.below ((Below.refl _ _).alloc (Nat.le_refl _) _)
      obtain ⟨v4, w4, a4, o4, b4⟩ := run_app5 oa 1 a0 a1 a2 a3 (by simp) (by omega)
      rw [hsa, hWa] at a4
      have b4' := ba.trans b4
      have d5 : w4.cell? ⟨w.heap.size, 5, none⟩ = some (.int .i64 (P : Nat)) := (b4'.cell (p := ⟨w.heap.size, 5, none⟩) hz2).trans c5
      obtain ⟨v5, w5, a5, o5, b5⟩ := run_app2 o4 (P / 256) (P % 256) (by simp) b4'.size
      have ef : ([5, m, 0] ++ [1, a0, a1, a2, a3]) ++ [P / 256, P % 256] = putR m (a0, a1, a2, a3) (byt t) P := by unfold putR; rw [if_pos h0]
      rw [ef] at o5
      obtain ⟨fa, fc, rfl, fs, _⟩ := own_src o5 HLT.out
      have HW : Hid (Wrote (putR m (a0, a1, a2, a3) (byt t) P, 0) w (.returned (.tuple #[.slice fa (putR m (a0, a1, a2, a3) (byt t) P).length fc, .int .i64 ((0 : Nat) : Int)])) w5) := ⟨fa, fc, rfl, fs, B2.out.trans ((b4'.trans b5).mono (by omega))⟩
      have A4 := hide a4
      rw [f1, f2] at a5
      have A5 := hide a5
      have hlen := hide (rfl : True = True)
      generalize (putR m (a0, a1, a2, a3) (byt t) P).length = FL at A5 HW
      clear hw3 o3 hWa hsa ba oa a4 o4 b4 b4' a5 o5 b5 ef fs h0 hk f1 f2
      go_wp2_with (first
        | (refine wpList_app_run _ rfl _ _ 22 22 rfl _ _ rfl rfl A4.out ?_)
        | (refine wpList_app_run _ rfl _ _ 22 22 rfl _ _ rfl rfl A5.out ?_))
      go_ret2
      rw [HS.out]
      exact HW.out
    · have he : t.toList.isEmpty = false := by rw [isEmpty_byt]; simp [h0]
      have he2 : (t.toList == []) = false := by
        cases hh : t.toList with
        | nil => rw [hh] at he; cases he
        | cons a b => rfl
      have he3 : (t.toList != []) = true := by simp [bne, he2]
      obtain ⟨W3, hW3⟩ : ∃ W3, W3 = (w2.alloc (.cells #[.int .u8 5, .int .u8 (m : Nat), .int .u8 0] 5)) := ⟨_, rfl⟩
      have o3' : Own W3.drew w2.heap.size 5 (.slice (some ⟨w2.heap.size, 0, none⟩) 3 3) (nums .u8 [5, m, 0]) := by rw [hW3]; exact o3.drew
      have b3' : Below w2.heap.size w2 W3.drew := by rw [hW3]; exact hw3.drew
      obtain ⟨v4, w4, a4, o4, b4⟩ := run_app1 o3' 3 (by simp) b3'.size
      have b4' := b3'.trans b4
      have hs3 : W3.heap.size = w2.heap.size + 1 := by rw [hW3]; simp
      have a4' : (Builtin.append_ #[22, 22] 22 #[.slice (some ⟨w2.heap.size, 0, none⟩) 3 3, .slice (some ⟨w2.heap.size + 1, 0, none⟩) 1 1]).run Tryd.prog (W3.drew.alloc (.cells #[.int .u8 3] 5)) = .ok v4 w4 := by rw [← hs3]; exact a4
      have d4 : w4.cell? ⟨w.heap.size, 4, none⟩ = some (.string t) := (b4'.cell (p := ⟨w.heap.size, 4, none⟩) hz2).trans c4
      have e4 : W3.cell? ⟨w.heap.size, 4, none⟩ = some (.string t) := ((show Below w2.heap.size w2 W3 from by rw [hW3]; exact hw3).cell (p := ⟨w.heap.size, 4, none⟩) hz2).trans c4
      have HAc := hide (appendCounted_at v4 ([5, m, 0] ++ [3]) t w2.heap.size w4 o4 b4'.size (by simp) (by omega))
      have d5 : w4.cell? ⟨w.heap.size, 5, none⟩ = some (.int .i64 (P : Nat)) := (b4'.cell (p := ⟨w.heap.size, 5, none⟩) hz2).trans c5
      have B4 := hide b4'
      have H0 := hide h0
      have F1 := hide f1
      have F2 := hide f2
      have HTL : Hid (t.size ≤ 253) := hl253
      have HW3 := hide hW3.symm
      have hz3 : w.heap.size < W3.heap.size := by omega
      clear hw3 o3 a4 o4 b4 b4' h0 hk f1 f2 o3' b3' hW3
      go_wp2_with fail
      rw [HW3.out]
      have A4 := hide a4'
      clear a4'
      go_region_held3 (fun w' => w'.cell? ⟨w.heap.size, 4, none⟩ = some (.string t)) (go_keep) (first
        | (refine step_app_run _ (by rfl) _ _ 22 22 (by rfl) _ _ (by rfl) (by rfl) A4.out ?_)
        | (go_at_call 53; refine HAc.out.mono ?_; rintro e w5 ⟨v5, rfl, o5, b5⟩; have O5 := hide o5; have B5 := hide (B4.out.trans b5); have d45 : w5.cell? ⟨w.heap.size, 4, none⟩ = some (.string t) := (B5.out.cell (p := ⟨w.heap.size, 4, none⟩) hz2).trans c4; have d6 : w5.cell? ⟨w.heap.size, 5, none⟩ = some (.int .i64 (P : Nat)) := (B5.out.cell (p := ⟨w.heap.size, 5, none⟩) hz2).trans c5; clear o5 b5))
      obtain ⟨v6, w6, a6, o6, b6⟩ := run_app2 O5.out (P / 256) (P % 256) (by simp [byt_length]; have := HTL.out; omega) B5.out.size
      have ef : (([5, m, 0] ++ [3]) ++ t.size :: byt t) ++ [P / 256, P % 256] = putR m (a0, a1, a2, a3) (byt t) P := by unfold putR; rw [if_neg H0.out, byt_length]; simp
      rw [ef] at o6
      obtain ⟨fa, fc, rfl, fs, _⟩ := own_src o6 HLT.out
      have HW : Hid (Wrote (putR m (a0, a1, a2, a3) (byt t) P, 0) w (.returned (.tuple #[.slice fa (putR m (a0, a1, a2, a3) (byt t) P).length fc, .int .i64 ((0 : Nat) : Int)])) w6) := ⟨fa, fc, rfl, fs, B2.out.trans ((B5.out.trans b6).mono (by omega))⟩
      rw [F1.out, F2.out] at a6
      have A6 := hide a6
      generalize (putR m (a0, a1, a2, a3) (byt t) P).length = FL at A6 HW
      clear a6 o6 b6 ef fs
      go_wp2_with (first
        | (refine wpList_app_run _ rfl _ _ 22 22 rfl _ _ rfl rfl A6.out ?_))
      go_ret2
      rw [HS.out]
      exact HW.out
  · have HB1 : Hid (false = decide (0 ≤ c ∧ c ≤ 255)) := (decide_eq_false hc).symm
    have HS : Hid (putRq c (a0, a1, a2, a3) (byt t) p = ([], 2)) := by show _ = _; unfold putRq; rw [if_neg (fun e => hc e.1)]
    rw [HS.out]
    clear hc
    go_enter Tryd.func54, Tryd.ntmps54
    go_wp2_with fail
    refine (isByte_at c _ false HB1.out).mono ?_
    rintro e w1 ⟨rfl, rfl⟩
    go_wp2_with fail
    rw [HW0.out]
    go_ret2
    exact ⟨none, 0, rfl, Src.nilS _, B0.out⟩
set_option maxRecDepth 100000 in
set_option maxHeartbeats 4000000 in
theorem rputRequest_at (c : Int) (a : Ad) (t : ByteArray) (p : Int) (w : World) (ha : a.ok) (ht : t.size ≤ maxLen) (hwf : -9223372036854775808 ≤ p ∧ p ≤ 9223372036854775807) : Calls Tryd.prog 30 #[.int .i64 c, deV a t p] w (Wrote (putRq c a (byt t) p) w) := by
  obtain ⟨a0, a1, a2, a3⟩ := a
  obtain ⟨hp1, hp2⟩ := hwf
  obtain ⟨W0, hW0⟩ : ∃ W0, W0 = w.alloc (.cells #[.int .u8 (a0 : Nat), .int .u8 (a1 : Nat), .int .u8 (a2 : Nat), .int .u8 (a3 : Nat), .string t, .int .i64 p] 47) := ⟨_, rfl⟩
  have b0 : Below w.heap.size w W0 := by rw [hW0]; exact (Below.refl _ _).alloc (Nat.le_refl _) _
  have r0 : W0.heap[w.heap.size]? = some (.cells #[.int .u8 (a0 : Nat), .int .u8 (a1 : Nat), .int .u8 (a2 : Nat), .int .u8 (a3 : Nat), .string t, .int .i64 p] 47) := by rw [hW0]; exact alloc_new _ _
  have HC := hide (rcheck_at (a0, a1, a2, a3) t W0 ht)
  simp only [hoV] at HC
  simp only [deV]
  have B0 := hide b0
  have R0 := hide r0
  have HW0 := hide hW0.symm
  clear b0 hW0 r0
  by_cases hc : 0 ≤ c ∧ c ≤ 255
  · have HB1 : Hid (true = decide (0 ≤ c ∧ c ≤ 255)) := (decide_eq_true hc).symm
    obtain ⟨m, rfl⟩ : ∃ m : Nat, c = m := ⟨c.toNat, by omega⟩
    have hm : m < 256 := by omega
    have HCC := hide hc
    clear hc
    go_enter Tryd.func30, Tryd.ntmps30
    go_wp2_with fail
    refine (small_at (m : Int) _ true HB1.out).mono ?_
    rintro e w1 ⟨rfl, rfl⟩
    go_wp2_with fail
    rw [HW0.out]
    refine HC.out.mono ?_
    rintro e w2 ⟨rfl, hb2⟩
    have r2 := keepB hb2 R0.out
    have c0 : w2.cell? ⟨w.heap.size, 0, none⟩ = some (.int .u8 (a0 : Nat)) := by simp [World.cell?, r2]
    have c1 : w2.cell? ⟨w.heap.size, 1, none⟩ = some (.int .u8 (a1 : Nat)) := by simp [World.cell?, r2]
    have c2 : w2.cell? ⟨w.heap.size, 2, none⟩ = some (.int .u8 (a2 : Nat)) := by simp [World.cell?, r2]
    have c3 : w2.cell? ⟨w.heap.size, 3, none⟩ = some (.int .u8 (a3 : Nat)) := by simp [World.cell?, r2]
    have c4 : w2.cell? ⟨w.heap.size, 4, none⟩ = some (.string t) := by simp [World.cell?, r2]
    have c5 : w2.cell? ⟨w.heap.size, 5, none⟩ = some (.int .i64 p) := by simp [World.cell?, r2]
    have hz2 : w.heap.size < w2.heap.size := lt_of_some r2
    have R2 := hide r2
    have B2 := hide (B0.out.trans (hb2.mono B0.out.size))
    clear hb2 r2
    cases hk : chk (a0, a1, a2, a3) (byt t) with
    | false =>
      have HS : Hid (putRq (m : Int) (a0, a1, a2, a3) (byt t) p = ([], 2)) := by show _ = _; unfold putRq; rw [if_neg (fun e => by rw [hk] at e; cases e.2.1)]
      clear hk
      go_wp2_with fail
      go_ret2
      rw [HS.out]
      exact ⟨none, 0, rfl, Src.nilS _, B2.out⟩
    | true =>
    by_cases p0 : p < 0
    · have HS : Hid (putRq (m : Int) (a0, a1, a2, a3) (byt t) p = ([], 2)) := by show _ = _; unfold putRq; rw [if_neg (by omega)]
      have g1 : decide (p < 0) = true := decide_eq_true p0
      clear hk
      go_wp2_with fail
      go_ret2
      rw [HS.out]
      exact ⟨none, 0, rfl, Src.nilS _, B2.out⟩
    have g1 : decide (p < 0) = false := decide_eq_false p0
    by_cases p6 : 65535 < p
    · have HS : Hid (putRq (m : Int) (a0, a1, a2, a3) (byt t) p = ([], 2)) := by show _ = _; unfold putRq; rw [if_neg (by omega)]
      have g2 : decide (65535 < p) = true := decide_eq_true p6
      clear hk
      go_wp2_with fail
      go_ret2
      rw [HS.out]
      exact ⟨none, 0, rfl, Src.nilS _, B2.out⟩
    have g2 : decide (65535 < p) = false := decide_eq_false p6
    have HS : Hid (putRq (m : Int) (a0, a1, a2, a3) (byt t) p = (putR m (a0, a1, a2, a3) (byt t) p.toNat, 0)) := by show _ = _; unfold putRq; rw [if_pos ⟨HCC.out, hk, by omega, by omega⟩]; rfl
    have hl253 := chk_len hk
    rw [byt_length] at hl253
    obtain ⟨P, rfl⟩ : ∃ P : Nat, p = P := ⟨p.toNat, by omega⟩
    have hP : P < 65536 := by omega
    have HLT : Hid (∀ x ∈ putR m (a0, a1, a2, a3) (byt t) P, x < 256) := putR_lt hm ha (byt_lt t) (by rw [byt_length]; omega) hP
    rw [show ((P : Int)).toNat = P from rfl] at HS
    have hw3 : Below w2.heap.size w2 (w2.alloc (.cells #[.int .u8 5, .int .u8 (m : Nat), .int .u8 0] 5)) := (Below.refl _ _).alloc (Nat.le_refl _) _
    have o3 := own_three w2 5 m 0
    have f1 : ((P / 256 : Nat) : Int) = (P : Int) / 256 := by omega
    have f2 : ((P % 256 : Nat) : Int) = (P : Int) % 256 := by omega
    by_cases h0 : byt t = []
    · have he : t.toList.isEmpty = true := by rw [isEmpty_byt]; simp [h0]
      have he2 : (t.toList == []) = true := by simpa using he
      have he3 : (t.toList != []) = false := by rw [bne, he2]; rfl
      obtain ⟨Wa, hWa⟩ : ∃ Wa, Wa = (w2.alloc (.cells #[.int .u8 5, .int .u8 (m : Nat), .int .u8 0] 5)).alloc (.cells #[.int .u8 (a0 : Nat), .int .u8 (a1 : Nat), .int .u8 (a2 : Nat), .int .u8 (a3 : Nat)] 43) := ⟨_, rfl⟩
      have hsa : Wa.heap.size = w2.heap.size + 1 + 1 := by rw [hWa]; simp
      have ba : Below w2.heap.size w2 Wa := by rw [hWa]; exact hw3.alloc (by simp) _
      have oa : Own Wa w2.heap.size 5 (.slice (some ⟨w2.heap.size, 0, none⟩) 3 3) (nums .u8 [5, m, 0]) := by rw [hWa]; exact o3.below ((Below.refl _ _).alloc (Nat.le_refl _) _)
      obtain ⟨v4, w4, a4, o4, b4⟩ := run_app5 oa 1 a0 a1 a2 a3 (by simp) (by omega)
      rw [hsa, hWa] at a4
      have b4' := ba.trans b4
      have d5 : w4.cell? ⟨w.heap.size, 5, none⟩ = some (.int .i64 (P : Nat)) := (b4'.cell (p := ⟨w.heap.size, 5, none⟩) hz2).trans c5
      obtain ⟨v5, w5, a5, o5, b5⟩ := run_app2 o4 (P / 256) (P % 256) (by simp) b4'.size
      have ef : ([5, m, 0] ++ [1, a0, a1, a2, a3]) ++ [P / 256, P % 256] = putR m (a0, a1, a2, a3) (byt t) P := by unfold putR; rw [if_pos h0]
      rw [ef] at o5
      obtain ⟨fa, fc, rfl, fs, _⟩ := own_src o5 HLT.out
      have HW : Hid (Wrote (putR m (a0, a1, a2, a3) (byt t) P, 0) w (.returned (.tuple #[.slice fa (putR m (a0, a1, a2, a3) (byt t) P).length fc, .int .i64 ((0 : Nat) : Int)])) w5) := ⟨fa, fc, rfl, fs, B2.out.trans ((b4'.trans b5).mono (by omega))⟩
      have A4 := hide a4
      rw [f1, f2] at a5
      have A5 := hide a5
      have hlen := hide (rfl : True = True)
      generalize (putR m (a0, a1, a2, a3) (byt t) P).length = FL at A5 HW
      clear hw3 o3 hWa hsa ba oa a4 o4 b4 b4' a5 o5 b5 ef fs h0 hk f1 f2
      go_wp2_with (first
        | (refine wpList_app_run _ rfl _ _ 22 22 rfl _ _ rfl rfl A4.out ?_)
        | (refine wpList_app_run _ rfl _ _ 22 22 rfl _ _ rfl rfl A5.out ?_))
      go_ret2
      rw [HS.out]
      exact HW.out
    · have he : t.toList.isEmpty = false := by rw [isEmpty_byt]; simp [h0]
      have he2 : (t.toList == []) = false := by
        cases hh : t.toList with
        | nil => rw [hh] at he; cases he
        | cons a b => rfl
      have he3 : (t.toList != []) = true := by simp [bne, he2]
      obtain ⟨W3, hW3⟩ : ∃ W3, W3 = (w2.alloc (.cells #[.int .u8 5, .int .u8 (m : Nat), .int .u8 0] 5)) := ⟨_, rfl⟩
      have o3' : Own W3.drew w2.heap.size 5 (.slice (some ⟨w2.heap.size, 0, none⟩) 3 3) (nums .u8 [5, m, 0]) := by rw [hW3]; exact o3.drew
      have b3' : Below w2.heap.size w2 W3.drew := by rw [hW3]; exact hw3.drew
      obtain ⟨v4, w4, a4, o4, b4⟩ := run_app2 o3' 3 t.size (by simp) b3'.size
      have b4' := b3'.trans b4
      have hs3 : W3.heap.size = w2.heap.size + 1 := by rw [hW3]; simp
      have a4' : (Builtin.append_ #[22, 22] 22 #[.slice (some ⟨w2.heap.size, 0, none⟩) 3 3, .slice (some ⟨w2.heap.size + 1, 0, none⟩) 2 2]).run Tryd.prog (W3.drew.alloc (.cells #[.int .u8 3, .int .u8 (t.size : Nat)] 5)) = .ok v4 w4 := by rw [← hs3]; exact a4
      have d4 : w4.cell? ⟨w.heap.size, 4, none⟩ = some (.string t) := (b4'.cell (p := ⟨w.heap.size, 4, none⟩) hz2).trans c4
      have e4 : W3.cell? ⟨w.heap.size, 4, none⟩ = some (.string t) := ((show Below w2.heap.size w2 W3 from by rw [hW3]; exact hw3).cell (p := ⟨w.heap.size, 4, none⟩) hz2).trans c4
      obtain ⟨v5, w5, a5, o5, b5⟩ := run_apps o4 t (by simp; omega) b4'.size
      have b45 := b4'.trans b5
      have d45 : w5.cell? ⟨w.heap.size, 4, none⟩ = some (.string t) := (b45.cell (p := ⟨w.heap.size, 4, none⟩) hz2).trans c4
      have d6 : w5.cell? ⟨w.heap.size, 5, none⟩ = some (.int .i64 (P : Nat)) := (b45.cell (p := ⟨w.heap.size, 5, none⟩) hz2).trans c5
      obtain ⟨v6, w6, a6, o6, b6⟩ := run_app2 o5 (P / 256) (P % 256) (by simp [byt_length]; omega) b45.size
      have ef : (([5, m, 0] ++ [3, t.size]) ++ byt t) ++ [P / 256, P % 256] = putR m (a0, a1, a2, a3) (byt t) P := by unfold putR; rw [if_neg h0, byt_length]; simp
      rw [ef] at o6
      obtain ⟨fa, fc, rfl, fs, _⟩ := own_src o6 HLT.out
      have HW : Hid (Wrote (putR m (a0, a1, a2, a3) (byt t) P, 0) w (.returned (.tuple #[.slice fa (putR m (a0, a1, a2, a3) (byt t) P).length fc, .int .i64 ((0 : Nat) : Int)])) w6) := ⟨fa, fc, rfl, fs, B2.out.trans ((b45.trans b6).mono (by omega))⟩
      rw [f1, f2] at a6
      have A4 := hide a4'
      have A5 := hide a5
      have A6 := hide a6
      generalize (putR m (a0, a1, a2, a3) (byt t) P).length = FL at A6 HW
      have HW3 := hide hW3.symm
      have hz3 : w.heap.size < W3.heap.size := by omega
      clear hw3 o3 a4 a4' o4 b4 b4' h0 hk f1 f2 o5 b5 b45 a5 a6 o6 b6 ef fs o3' b3' hW3
      have hwr : IntKind.u8.wrap ((t.size : Nat) : Int) = ((t.size : Nat) : Int) := by rw [IntKind.wrap_u8]; omega
      go_wp2_with fail
      rw [HW3.out]
      go_region_held3 (fun w' => w'.cell? ⟨w.heap.size, 4, none⟩ = some (.string t)) (go_keep) (first
        | (refine step_app_run _ (by rfl) _ _ 22 22 (by rfl) _ _ (by rfl) (by rfl) A4.out ?_)
        | (refine step_app_run _ (by rfl) _ _ 22 9 (by rfl) _ _ (by rfl) (by rfl) A5.out ?_))
      go_wp2_with (first
        | (refine wpList_app_run _ rfl _ _ 22 22 rfl _ _ rfl rfl A6.out ?_))
      go_ret2
      rw [HS.out]
      exact HW.out
  · have HB1 : Hid (false = decide (0 ≤ c ∧ c ≤ 255)) := (decide_eq_false hc).symm
    have HS : Hid (putRq c (a0, a1, a2, a3) (byt t) p = ([], 2)) := by show _ = _; unfold putRq; rw [if_neg (fun e => hc e.1)]
    rw [HS.out]
    clear hc
    go_enter Tryd.func30, Tryd.ntmps30
    go_wp2_with fail
    refine (small_at c _ false HB1.out).mono ?_
    rintro e w1 ⟨rfl, rfl⟩
    go_wp2_with fail
    rw [HW0.out]
    go_ret2
    exact ⟨none, 0, rfl, Src.nilS _, B0.out⟩
end Go.Proofs.YtefgjmijbedbkaaDoor
