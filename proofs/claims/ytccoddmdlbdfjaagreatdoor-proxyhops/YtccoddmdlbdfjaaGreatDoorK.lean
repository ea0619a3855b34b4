/-
  The reference's whole numbers, and its pieces of a text; conditions as each theorem has them.
-/
import Derived.Test.YtccoddmdlbdfjaaGreatDoorJoinedO
set_option linter.unusedSimpArgs false
set_option linter.unusedVariables false
namespace Go.Proofs.YtccoddmdlbdfjaaGreatDoor
open Go.RowKit

/-- The number of at most so many digits. -/
def wh (l : List Nat) (d : Nat) : Option Nat := if isNum l = true ∧ l.length ≤ d then some (val 0 l) else none
theorem wh_rd (l : List Nat) : (match wh l 3 with | some n => if 255 < n then none else some n | none => none) = rd l 255 := by
  unfold wh rd
  by_cases h : isNum l = true
  · by_cases h3 : l.length ≤ 3
    · rw [if_pos ⟨h, h3⟩]
      by_cases hv : val 0 l ≤ 255
      · rw [if_pos ⟨h, hv⟩]; simp; omega
      · rw [if_neg (fun x => hv x.2)]; simp; omega
    · rw [if_neg (fun x => h3 x.2), if_neg]
      rintro ⟨_, hv⟩
      have := num_long h (k := 2) (by omega)
      omega
  · rw [if_neg (fun x => h x.1), if_neg (fun x => h x.1)]
theorem wh_port (l : List Nat) : (match wh l 5 with | some n => if 65535 < n then none else some n | none => none) = rd l 65535 := by
  unfold wh rd
  by_cases h : isNum l = true
  · by_cases h3 : l.length ≤ 5
    · rw [if_pos ⟨h, h3⟩]
      by_cases hv : val 0 l ≤ 65535
      · rw [if_pos ⟨h, hv⟩]; simp; omega
      · rw [if_neg (fun x => hv x.2)]; simp; omega
    · rw [if_neg (fun x => h3 x.2), if_neg]
      rintro ⟨_, hv⟩
      have := num_long h (k := 4) (by omega)
      omega
  · rw [if_neg (fun x => h x.1), if_neg (fun x => h x.1)]

set_option maxRecDepth 100000 in
set_option maxHeartbeats 4000000 in
theorem whole_at (t : ByteArray) (d : Nat) (w : World) (hm : t.size ≤ maxLen) (hd5 : d ≤ 7) : Calls Tryz.prog 172 #[.string t, .int .i64 d] w fun e w' => e = .returned (two (wh (byt t) d)) ∧ w = w' := by
  obtain ⟨l, hl⟩ : ∃ l, l = byt t := ⟨_, rfl⟩
  have hix : ∀ i, i < t.size → ∀ w, (Instr.index 9 (.string t) (.int .i64 (i : Nat))).run Tryz.prog w = .ok (.int .u8 (l.getD i 0 : Nat)) w := fun i hi w => by rw [hl]; exact run_ixstr t i hi w
  have hlt : ∀ k, l.getD k 0 < 256 := fun k => by rw [hl]; exact getD_lt (byt_lt t) k
  have hsz : t.size = l.length := by rw [hl, byt_length]
  rw [← hl]
  have HL : Hid (byt t = l) := hl.symm
  have HIX := hide hix
  have HLT := hide hlt
  have HSZ := hide hsz
  obtain ⟨N, hN⟩ : ∃ N, N = t.size := ⟨_, rfl⟩
  have HN := hide hN
  have HMX := hide hm
  rw [← hN] at hm
  unfold maxLen at hm
  have hNI : (t.size : Int) = (N : Int) := by rw [hN]
  have HNL : Hid (N = l.length) := by show _ = _; rw [hN, hsz]
  clear hix hlt hl hsz hN
  have hd18 : decide (18 < (d : Int)) = false := decide_eq_false (by omega)
  have hd18' : decide (18 < d) = false := decide_eq_false (by omega)
  by_cases h0 : N = 0
  · have he : t.toList.isEmpty = true := by rw [isEmpty_byt, HL.out]; have := HNL.out; simp; exact List.eq_nil_of_length_eq_zero (by omega)
    have HR : Hid (wh l d = none) := by have := HNL.out; have e : l = [] := List.eq_nil_of_length_eq_zero (by omega); simp [wh, isNum, e, Hid]
    clear h0
    go_enter Tryz.func172, Tryz.ntmps172
    go_wp2_with fail
    go_ret2
    exact ⟨by rw [HR.out]; rfl, rfl⟩
  have hne : Hid (l ≠ []) := fun e => by have := HNL.out; rw [e] at this; simp at this; omega
  have he : t.toList.isEmpty = false := by rw [isEmpty_byt, HL.out]; simp; exact hne.out
  by_cases hNd : d < N
  · have q1 : decide ((d : Int) < (N : Int)) = true := decide_eq_true (by omega)
    have q1' : decide (d < N) = true := decide_eq_true (by omega)
    have HR : Hid (wh l d = none) := by have := HNL.out; have e : ¬ l.length ≤ d := by omega
                                        simp [wh, e, Hid]
    go_enter Tryz.func172, Tryz.ntmps172
    go_wp2_with fail
    go_ret2
    exact ⟨by rw [HR.out]; rfl, rfl⟩
  have q1 : decide ((d : Int) < (N : Int)) = false := decide_eq_false (by omega)
  have q1' : decide (d < N) = false := decide_eq_false (by omega)
  have hx0 := HIX.out 0 (by rw [← HN.out]; omega)
  have hc0 := HLT.out 0
  obtain ⟨c0, e0⟩ : ∃ c, c = l.getD 0 0 := ⟨_, rfl⟩
  rw [← e0] at hx0 hc0
  have hx0' : ∀ w, (Instr.index 9 (.string t) (.int .i64 0)).run Tryz.prog w = .ok (.int .u8 (c0 : Nat)) w := hx0
  have HC0 := hide e0
  clear hx0 e0
  by_cases h1N : 1 < N
  · have g1 : decide (1 < (N : Int)) = true := decide_eq_true (by omega)
    have g1' : decide (1 < N) = true := decide_eq_true (by omega)
    by_cases h48 : c0 = 48
    · have hb : ((c0 : Int) == 48) = true := by simp; omega
      have HR : Hid (wh l d = none) := by
        have : isNum l = false := by rw [isNum_of, headD_getD, ← HC0.out, h48, ← HNL.out]; simp [h1N]
        simp [wh, this, Hid]
      clear h48
      go_enter Tryz.func172, Tryz.ntmps172
      go_wp2_with fail
      go_ret2
      exact ⟨by rw [HR.out]; rfl, rfl⟩
    · have hb : ((c0 : Int) == 48) = false := by simp; omega
      have HP : Hid (l.all dig = true → isNum l = true) := fun h => by rw [isNum_of, headD_getD, ← HC0.out, h]; simp [h48, hne.out]
      clear h48
      go_enter Tryz.func172, Tryz.ntmps172
      go_wp2_with fail
      clear hb hx0' hc0 g1 g1'
      go_loop [6, 7] (fun n i => ∃ k : Nat, k ≤ N ∧ i = .int .i64 k ∧ ∃ v : Nat, n = .int .i64 v ∧ v < 10000000 ∧ Hid (v = val 0 (l.take k) ∧ v < 10 ^ k ∧ (l.take k).all dig = true)) (fun _ i => N - (intOf i).toNat)
      case atStart => exact ⟨0, by omega, rfl, 0, rfl, by omega, rfl, by simp, rfl⟩
      case round =>
        obtain ⟨k, hk, rfl, v, rfl, hv5, HI⟩ := hrel
        by_cases h1 : k < N
        · have hx := HIX.out k (by rw [← HN.out]; exact h1)
          have hl : k < l.length := by rw [← HNL.out]; exact h1
          have hc := HLT.out k
          obtain ⟨i1, i2, i3⟩ := HI.out
          have HT : Hid (val 0 (l.take (k + 1)) = step v (l.getD k 0)) := by show _ = _; rw [take_snoc l k hl, val_snoc, ← i1]
          have HA : Hid (dig (l.getD k 0) = true → (l.take (k + 1)).all dig = true) := fun h => by rw [take_snoc l k hl, List.all_append, i3, List.all_cons, List.all_nil, h]; rfl
          have HF : Hid (dig (l.getD k 0) = false → wh l d = none) := fun h => by
            unfold wh
            rw [if_neg]
            rintro ⟨hn, _⟩
            rw [isNum_of] at hn
            simp only [Bool.and_eq_true] at hn
            have := List.all_eq_true.1 hn.1.2 (l.getD k 0) (getD_mem hl)
            rw [h] at this; cases this
          have HPW : Hid (∀ c, c ≤ 57 → step v c < 10 ^ (k + 1)) := fun c hcc => by
            unfold step; rw [Nat.pow_succ]; omega
          have HP5 : Hid (10 ^ (k + 1) ≤ 10000000) := Nat.pow_le_pow_right (n := 10) (by omega) (show k + 1 ≤ 7 by omega)
          obtain ⟨c, hcc⟩ : ∃ c, c = l.getD k 0 := ⟨_, rfl⟩
          rw [← hcc] at hx hc HT HA HF
          clear hcc hl i1 i2 i3
          have hdd : decide ((k : Int) < (N : Int)) = true := decide_eq_true (by omega)
          by_cases h48 : c < 48
          · have q1 : decide ((c : Int) < 48) = true := decide_eq_true (by omega)
            have HR := hide (HF.out (by simp [dig]; omega))
            go_wp2_with fail
            go_ret2
            refine ⟨?_, rfl⟩
            rw [HR.out]; rfl
          · have q1 : decide ((c : Int) < 48) = false := decide_eq_false (by omega)
            by_cases h57 : 57 < c
            · have q2 : decide (57 < (c : Int)) = true := decide_eq_true (by omega)
              have HR := hide (HF.out (by simp [dig]; omega))
              go_wp2_with fail
              go_ret2
              refine ⟨?_, rfl⟩
              rw [HR.out]; rfl
            · have q2 : decide (57 < (c : Int)) = false := decide_eq_false (by omega)
              have HO := hide (HA.out (by simp [dig]; omega))
              have HW := hide (HPW.out c (by omega))
              obtain ⟨V, hV⟩ : ∃ V, V = step v c := ⟨_, rfl⟩
              rw [← hV] at HT HW
              have hVI : (v : Int) * 10 + ((c : Int) - 48) = (V : Int) := by rw [hV, step]; omega
              have hV5 : V < 10000000 := Nat.lt_of_lt_of_le HW.out HP5.out
              clear hV
              go_wp2_with fail
              go_round
              case rel => exact ⟨k + 1, by omega, by go_num, V, by first | rfl | go_num, hV5, HT.out.symm, HW.out, HO.out⟩
              case measure => simp [intOf]; omega
        · have hdd : decide ((k : Int) < (N : Int)) = false := decide_eq_false (by omega)
          have HR : Hid (wh l d = some v) := by
            obtain ⟨i1, i2, i3⟩ := HI.out
            rw [List.take_of_length_le (by rw [← HNL.out]; omega)] at i1 i3
            show wh l d = some v
            rw [wh, if_pos ⟨HP.out i3, by rw [← HNL.out]; omega⟩, i1]
          go_wp2_with fail
          go_ret2
          refine ⟨?_, rfl⟩
          rw [HR.out]; rfl
  · have g1 : decide (1 < (N : Int)) = false := decide_eq_false (by omega)
    have g1' : decide (1 < N) = false := decide_eq_false (by omega)
    have HP : Hid (l.all dig = true → isNum l = true) := fun h => by rw [isNum_of, ← HNL.out, h]; simp [h1N, hne.out]
    go_enter Tryz.func172, Tryz.ntmps172
    go_wp2_with fail
    clear hx0' hc0 g1 g1'
    go_loop [6, 7] (fun n i => ∃ k : Nat, k ≤ N ∧ i = .int .i64 k ∧ ∃ v : Nat, n = .int .i64 v ∧ v < 10000000 ∧ Hid (v = val 0 (l.take k) ∧ v < 10 ^ k ∧ (l.take k).all dig = true)) (fun _ i => N - (intOf i).toNat)
    case atStart => exact ⟨0, by omega, rfl, 0, rfl, by omega, rfl, by simp, rfl⟩
    case round =>
      obtain ⟨k, hk, rfl, v, rfl, hv5, HI⟩ := hrel
      by_cases h1 : k < N
      · have hx := HIX.out k (by rw [← HN.out]; exact h1)
        have hl : k < l.length := by rw [← HNL.out]; exact h1
        have hc := HLT.out k
        obtain ⟨i1, i2, i3⟩ := HI.out
        have HT : Hid (val 0 (l.take (k + 1)) = step v (l.getD k 0)) := by show _ = _; rw [take_snoc l k hl, val_snoc, ← i1]
        have HA : Hid (dig (l.getD k 0) = true → (l.take (k + 1)).all dig = true) := fun h => by rw [take_snoc l k hl, List.all_append, i3, List.all_cons, List.all_nil, h]; rfl
        have HF : Hid (dig (l.getD k 0) = false → wh l d = none) := fun h => by
          unfold wh
          rw [if_neg]
          rintro ⟨hn, _⟩
          rw [isNum_of] at hn
          simp only [Bool.and_eq_true] at hn
          have := List.all_eq_true.1 hn.1.2 (l.getD k 0) (getD_mem hl)
          rw [h] at this; cases this
        have HPW : Hid (∀ c, c ≤ 57 → step v c < 10 ^ (k + 1)) := fun c hcc => by
          unfold step; rw [Nat.pow_succ]; omega
        have HP5 : Hid (10 ^ (k + 1) ≤ 10000000) := Nat.pow_le_pow_right (n := 10) (by omega) (show k + 1 ≤ 7 by omega)
        obtain ⟨c, hcc⟩ : ∃ c, c = l.getD k 0 := ⟨_, rfl⟩
        rw [← hcc] at hx hc HT HA HF
        clear hcc hl i1 i2 i3
        have hdd : decide ((k : Int) < (N : Int)) = true := decide_eq_true (by omega)
        by_cases h48 : c < 48
        · have q1 : decide ((c : Int) < 48) = true := decide_eq_true (by omega)
          have HR := hide (HF.out (by simp [dig]; omega))
          go_wp2_with fail
          go_ret2
          refine ⟨?_, rfl⟩
          rw [HR.out]; rfl
        · have q1 : decide ((c : Int) < 48) = false := decide_eq_false (by omega)
          by_cases h57 : 57 < c
          · have q2 : decide (57 < (c : Int)) = true := decide_eq_true (by omega)
            have HR := hide (HF.out (by simp [dig]; omega))
            go_wp2_with fail
            go_ret2
            refine ⟨?_, rfl⟩
            rw [HR.out]; rfl
          · have q2 : decide (57 < (c : Int)) = false := decide_eq_false (by omega)
            have HO := hide (HA.out (by simp [dig]; omega))
            have HW := hide (HPW.out c (by omega))
            obtain ⟨V, hV⟩ : ∃ V, V = step v c := ⟨_, rfl⟩
            rw [← hV] at HT HW
            have hVI : (v : Int) * 10 + ((c : Int) - 48) = (V : Int) := by rw [hV, step]; omega
            have hV5 : V < 10000000 := Nat.lt_of_lt_of_le HW.out HP5.out
            clear hV
            go_wp2_with fail
            go_round
            case rel => exact ⟨k + 1, by omega, by go_num, V, by first | rfl | go_num, hV5, HT.out.symm, HW.out, HO.out⟩
            case measure => simp [intOf]; omega
      · have hdd : decide ((k : Int) < (N : Int)) = false := decide_eq_false (by omega)
        have HR : Hid (wh l d = some v) := by
          obtain ⟨i1, i2, i3⟩ := HI.out
          rw [List.take_of_length_le (by rw [← HNL.out]; omega)] at i1 i3
          show wh l d = some v
          rw [wh, if_pos ⟨HP.out i3, by rw [← HNL.out]; omega⟩, i1]
        go_wp2_with fail
        go_ret2
        refine ⟨?_, rfl⟩
        rw [HR.out]; rfl

/-- The last piece grown by a byte. -/
def ext (c : Nat) : List (List Nat) → List (List Nat)
  | [] => []
  | [p] => [p ++ [c]]
  | p :: q :: r => p :: ext c (q :: r)
theorem pcs_dot : ∀ l, pcs (l ++ [46]) = pcs l ++ [[]]
  | [] => rfl
  | b :: r => by
    have ih := pcs_dot r
    have hne := pcs_ne r
    rw [List.cons_append, pcs, pcs, ih]
    split
    · rfl
    · cases h : pcs r with
      | nil => exact absurd h hne
      | cons p ps => rfl
theorem pcs_ext (c : Nat) (hc : c ≠ 46) : ∀ l, pcs (l ++ [c]) = ext c (pcs l)
  | [] => by simp [pcs, hc, ext]
  | b :: r => by
    have ih := pcs_ext c hc r
    have hne := pcs_ne r
    rw [List.cons_append, pcs, pcs, ih]
    cases h : pcs r with
    | nil => exact absurd h hne
    | cons p ps =>
      split
      · rfl
      · cases ps with
        | nil => rfl
        | cons q qs => rfl
theorem ext_set (c : Nat) : ∀ ps : List (List Nat), ext c ps = ps.set (ps.length - 1) (ps.getD (ps.length - 1) [] ++ [c])
  | [] => rfl
  | [p] => rfl
  | p :: q :: r => by
    have ih := ext_set c (q :: r)
    simp only [ext, List.length_cons, Nat.add_sub_cancel] at ih ⊢
    rw [ih]
    simp
theorem beg_ext (c : Nat) : ∀ (ps : List (List Nat)) (a : Nat), beg a (ext c ps) = beg a ps
  | [], _ => rfl
  | [p], _ => rfl
  | p :: q :: r, a => by simp only [ext, beg, beg_ext c (q :: r)]
theorem beg_dot : ∀ (ps : List (List Nat)) (a : Nat), ps ≠ [] → beg a (ps ++ [[]]) = beg a ps ++ [a + (jn ps).length + 1]
  | [], _, h => absurd rfl h
  | [p], a, _ => rfl
  | p :: q :: r, a, _ => by
    have ih := beg_dot (q :: r) (a + p.length + 1) (by simp)
    simp only [List.cons_append, beg, jn] at ih ⊢
    rw [ih]
    simp; omega
theorem beg_length : ∀ (ps : List (List Nat)) (a : Nat), (beg a ps).length = ps.length
  | [], _ => rfl
  | p :: r, a => by simp [beg, beg_length r]
def ints (l : List Nat) : List Value := l.map fun x => .int .i64 (x : Nat)
theorem ints_get (l : List Nat) (i : Nat) (h : i < l.length) : (ints l)[i]? = some (.int .i64 (l.getD i 0 : Nat)) := by
  simp [ints, List.getElem?_map, List.getElem?_eq_getElem h, List.getD]
theorem ints_length (l : List Nat) : (ints l).length = l.length := by simp [ints]
theorem strs_length (l : List (List Nat)) : (strs l).length = l.length := by simp [strs]
theorem strs_set (ps : List (List Nat)) (j : Nat) (p : List Nat) : (strs ps).set j (.string (strN p)) = strs (ps.set j p) := by simp [strs, List.map_set]
theorem strN_append (a b : List Nat) : strN (a ++ b) = strN a ++ strN b := by
  apply ByteArray.ext
  simp [strN, ByteArray.data_append]
theorem Own.drew {w : World} {B : Nat} {e : TypeId} {v : Value} {xs : List Value} (h : Own w B e v xs) : Own w.drew B e v xs := h.keep fun _ _ => rfl
theorem own_ne {w : World} {B B' : Nat} {e e' : TypeId} {v v' : Value} {xs xs' : List Value} (h : Own w B e v xs) (h' : Own w B' e' v' xs') (hne : e ≠ e') {g : Nat} (hg : v'.ownBlock = some g) : v.ownBlock ≠ some g := by
  intro hg2
  obtain ⟨_, c1, e1⟩ := h.block hg2
  obtain ⟨_, c2, e2⟩ := h'.block hg
  rw [e1] at e2
  simp at e2
  exact hne e2.2
theorem own_new1 (w : World) (e : TypeId) (u : Value) (g : Nat) (hg : g = w.heap.size) (B : Nat) (hB : B ≤ g) : Own (w.alloc (.cells #[u] e)) B e (.slice (some ⟨g, 0, none⟩) 1 1) [u] := by
  subst hg
  exact ⟨rfl, Or.inr ⟨w.heap.size, 1, #[u], rfl, hB, alloc_new _ _, by simp, by unfold maxLen; omega, rfl, rfl⟩⟩

set_option maxRecDepth 100000 in
set_option maxHeartbeats 4000000 in
theorem parts_at (t : ByteArray) (w : World) (hm : t.size ≤ maxLen) (h253 : t.size ≤ 253) : Calls Tryz.prog 173 #[.string t] w fun e w' => ∃ o a, e = .returned (.tuple #[o, a]) ∧ Own w' w.heap.size 9 o (strs (pcs (byt t))) ∧ Own w' w.heap.size 3 a (ints (beg 0 (pcs (byt t)))) ∧ Below w.heap.size w w' := by
  obtain ⟨l, hl⟩ : ∃ l, l = byt t := ⟨_, rfl⟩
  have hix : ∀ i, i < t.size → ∀ w, (Instr.index 9 (.string t) (.int .i64 (i : Nat))).run Tryz.prog w = .ok (.int .u8 (l.getD i 0 : Nat)) w := fun i hi w => by rw [hl]; exact run_ixstr t i hi w
  have hlt : ∀ k, l.getD k 0 < 256 := fun k => by rw [hl]; exact getD_lt (byt_lt t) k
  have hsz : t.size = l.length := by rw [hl, byt_length]
  rw [← hl]
  have HL : Hid (byt t = l) := hl.symm
  have HIX := hide hix
  have HLT := hide hlt
  have HSZ := hide hsz
  obtain ⟨N, hN⟩ : ∃ N, N = t.size := ⟨_, rfl⟩
  have HN := hide hN
  have HMX := hide hm
  rw [← hN] at hm
  unfold maxLen at hm
  have hNI : (t.size : Int) = (N : Int) := by rw [hN]
  have HNL : Hid (N = l.length) := by show _ = _; rw [hN, hsz]
  clear hix hlt hl hsz hN
  rw [← HN.out] at h253
  go_enter Tryz.func173, Tryz.ntmps173
  go_wp2_with fail
  obtain ⟨W0, hW0⟩ : ∃ W0, W0 = (w.alloc (.cells #[.string ⟨#[]⟩] 9)).alloc (.cells #[.int .i64 0] 3) := ⟨_, rfl⟩
  have o0 : Own W0 w.heap.size 9 (.slice (some ⟨w.heap.size, 0, none⟩) 1 1) (strs [[]]) := by
    rw [hW0]
    exact (own_new1 w 9 (.string ⟨#[]⟩) w.heap.size rfl w.heap.size (Nat.le_refl _)).below ((Below.refl _ _).alloc (Nat.le_refl _) _)
  have a0 : Own W0 w.heap.size 3 (.slice (some ⟨w.heap.size + 1, 0, none⟩) 1 1) (ints [0]) := by
    rw [hW0]
    exact own_new1 (w.alloc (.cells #[.string ⟨#[]⟩] 9)) 3 (.int .i64 0) (w.heap.size + 1) (by simp) w.heap.size (by omega)
  have b0 : Below w.heap.size w W0 := by rw [hW0]; exact ((Below.refl _ _).alloc (Nat.le_refl _) _).alloc (by simp) _
  have HI : Hid (Own W0 w.heap.size 9 (.slice (some ⟨w.heap.size, 0, none⟩) 1 1) (strs [[]]) ∧ Own W0 w.heap.size 3 (.slice (some ⟨w.heap.size + 1, 0, none⟩) 1 1) (ints [0]) ∧ Below w.heap.size w W0) := ⟨o0, a0, b0⟩
  rw [← hW0]
  clear hW0 o0 a0 b0
  go_loopw [4, 5, 6] (fun o a i wr => ∃ k : Nat, k ≤ N ∧ i = .int .i64 k ∧ Hid (Own wr w.heap.size 9 o (strs (pcs (l.take k))) ∧ Own wr w.heap.size 3 a (ints (beg 0 (pcs (l.take k)))) ∧ Below w.heap.size w wr)) (fun _ _ i _ => N - (intOf i).toNat)
  case atStart => exact ⟨0, by omega, rfl, HI.out⟩
  case round =>
    obtain ⟨k, hk, rfl, HI⟩ := hrel
    obtain ⟨i1, i2, i3⟩ := HI.out
    by_cases hkN : k < N
    · have hdk : decide ((k : Int) < (N : Int)) = true := decide_eq_true (by omega)
      have hx := HIX.out k (by rw [← HN.out]; exact hkN)
      have hc := HLT.out k
      have hkl : k < l.length := by rw [← HNL.out]; exact hkN
      have htk := take_snoc l k hkl
      obtain ⟨c, hcc⟩ : ∃ c, c = l.getD k 0 := ⟨_, rfl⟩
      rw [← hcc] at hx hc htk
      have hlen := (pcs_len (l.take k)).1
      rw [List.length_take] at hlen
      have hpl : (pcs (l.take k)).length ≤ 254 := by omega
      have hpn := pcs_ne (l.take k)
      have hjn := jn_pcs (l.take k)
      obtain ⟨ps, hps⟩ : ∃ ps, ps = pcs (l.take k) := ⟨_, rfl⟩
      rw [← hps] at i1 i2 hpl hpn hjn
      by_cases h46 : c = 46
      · have q1 : ((c : Int) == 46) = true := by simp; omega
        have e1 : pcs (l.take (k + 1)) = ps ++ [[]] := by rw [htk, h46, pcs_dot, hps]
        have e2 : beg 0 (pcs (l.take (k + 1))) = beg 0 ps ++ [k + 1] := by
          rw [e1, beg_dot _ _ hpn, hjn, List.length_take, Nat.min_eq_left (by omega)]; simp
        obtain ⟨o1, w1, hap1, ow1, bw1, kw1⟩ := own_app 122 9 (.string ⟨#[]⟩) 16 Tryz.underlying122 inf9 rfl (i1.below ((Below.refl _ _).alloc (Nat.le_refl _) (.cells #[.string ⟨#[]⟩] 9))) ⟨wr.heap.size, 0, none⟩ 1 1 [.string ⟨#[]⟩] rfl
          (fun j u hu => by
            have hj := (List.getElem?_eq_some_iff.1 hu).1
            simp at hj
            subst hj
            rw [add_none]
            simp at hu
            rw [← hu]; simp) (by simp [Value.oneCell']) (by rw [strs_length]; omega) (by rw [strs_length]; omega) (by simp; have := i3.size; omega)
        have ia1 : Own w1 w.heap.size 3 u5 (ints (beg 0 ps)) := by
          have ha := i2.below ((Below.refl _ _).alloc (Nat.le_refl _) (.cells #[.string ⟨#[]⟩] 9))
          have ho := i1.below ((Below.refl _ _).alloc (Nat.le_refl _) (.cells #[.string ⟨#[]⟩] 9))
          refine ha.keep fun g hg => ?_
          obtain ⟨_, cur, hh⟩ := ha.block hg
          exact kw1 g (lt_of_some hh) (own_ne ho ha (by decide) hg)
        have ib1 : Below w.heap.size w w1 := (i3.alloc i3.size _).trans bw1
        obtain ⟨a2, w2, hap2, ow2, bw2, kw2⟩ := own_app 52 3 (.int .i64 0) 8 Tryz.underlying52 inf3 rfl (ia1.below ((Below.refl _ _).alloc (Nat.le_refl _) (.cells #[.int .i64 ((k : Int) + 1)] 3))) ⟨w1.heap.size, 0, none⟩ 1 1 [.int .i64 ((k : Int) + 1)] rfl
          (fun j u hu => by
            have hj := (List.getElem?_eq_some_iff.1 hu).1
            simp at hj
            subst hj
            rw [add_none]
            simp at hu
            rw [← hu]; simp) (by simp [Value.oneCell']) (by rw [ints_length, beg_length]; omega) (by rw [ints_length, beg_length]; omega) (by simp; have := ib1.size; omega)
        have io2 : Own w2 w.heap.size 9 o1 (strs (pcs (l.take (k + 1)))) := by
          have ho := ow1.below ((Below.refl _ _).alloc (Nat.le_refl _) (.cells #[.int .i64 ((k : Int) + 1)] 3))
          have ha := ia1.below ((Below.refl _ _).alloc (Nat.le_refl _) (.cells #[.int .i64 ((k : Int) + 1)] 3))
          have : Own w2 w.heap.size 9 o1 (strs ps ++ [.string ⟨#[]⟩]) := by
            refine ho.keep fun g hg => ?_
            obtain ⟨_, cur, hh⟩ := ho.block hg
            exact kw2 g (lt_of_some hh) (own_ne ha ho (by decide) hg)
          rw [e1]
          simpa [strs, show strN [] = ⟨#[]⟩ from rfl] using this
        have ia2 : Own w2 w.heap.size 3 a2 (ints (beg 0 (pcs (l.take (k + 1))))) := by
          rw [e2]
          simpa [ints] using ow2
        have ib2 : Below w.heap.size w w2 := (ib1.alloc ib1.size _).trans bw2
        have HAP1 := hide hap1
        have HAP2 := hide hap2
        have HO2 := hide io2
        have HA2 := hide ia2
        have HB2 := hide ib2
        clear i1 i2 i3 hap1 hap2 io2 ia2 ib2 ow1 ow2 bw1 bw2 kw1 kw2 ia1 ib1 e1 e2 h46 hcc hkl htk hlen hpl hpn hjn hps
        go_wp2_with (first
          | (refine wpList_app_run _ rfl _ _ 122 122 rfl _ _ rfl rfl HAP1.out ?_)
          | (refine wpList_app_run _ rfl _ _ 52 52 rfl _ _ rfl rfl HAP2.out ?_))
        go_roundw
        case rel => exact ⟨k + 1, by omega, by go_num, HO2.out, HA2.out, HB2.out⟩
        case measure => simp [intOf]; omega
      · have q1 : ((c : Int) == 46) = false := by simp; omega
        have e1 : pcs (l.take (k + 1)) = ext c ps := by rw [htk, pcs_ext c h46, hps]
        have hn1 : 0 < ps.length := List.length_pos_iff.2 hpn
        obtain ⟨g, cap, hv, hBg, hgl, hlc, hcm, hcells, hfr⟩ := i1.lies (by rw [strs_length]; omega)
        rw [strs_length] at hv hlc
        obtain ⟨n, hn⟩ : ∃ n, n = ps.length := ⟨_, rfl⟩
        rw [← hn] at hv hlc hpl hn1
        subst hv
        have hcl := hcells (n - 1) _ (strs_get ps (n - 1) (by omega))
        have hf1 := hfr (n - 1)
        obtain ⟨p, hp⟩ : ∃ p, p = ps.getD (n - 1) [] := ⟨_, rfl⟩
        rw [← hp] at hcl
        have hplen : p.length ≤ 253 := by
          have h2 := (pcs_len (l.take k)).2 p (by rw [hp, ← hps]; exact getD_mem (by omega))
          rw [List.length_take] at h2; omega
        have hsl : byt (t.extract k (k + 1)) = [c] := by
          unfold byt
          rw [ByteArray.data_extract, Array.toList_extract, List.extract_eq_take_drop, List.map_take, List.map_drop]
          show ((byt t).drop k).take (k + 1 - k) = [c]
          rw [HL.out, drop_getD (d := 0) hkl, ← hcc, show k + 1 - k = 1 by omega]; rfl
        obtain ⟨T, hT⟩ : ∃ T, T = t.extract k (k + 1) := ⟨_, rfl⟩
        rw [← hT] at hsl
        have hTn : T = strN [c] := by rw [← strN_byt T, hsl]
        have hTs : T.size = 1 := by rw [← byt_length, hsl]; rfl
        have hps2 : (strN p).size = p.length := strN_size p
        have hno : ¬ (9223372036854775807 < (strN p).size + T.size) := by omega
        have io2 : Own (wr.setCell ⟨g, n - 1, none⟩ (.string (strN p ++ T))) w.heap.size 9 (.slice (some ⟨g, 0, none⟩) n cap) (strs (pcs (l.take (k + 1)))) := by
          have := i1.set (n - 1) (.string (strN (p ++ [c])))
          rw [strs_set, hp, hn, ← ext_set, ← e1, ← hn, ← hp, strN_append, ← hTn] at this
          exact this
        have ia2 : Own (wr.setCell ⟨g, n - 1, none⟩ (.string (strN p ++ T))) w.heap.size 3 u5 (ints (beg 0 (pcs (l.take (k + 1))))) := by
          rw [e1, beg_ext]
          refine i2.keep fun g' hg' => Below.heap_setCell _ _ _ _ ?_
          intro e
          exact own_ne i1 i2 (by decide) hg' (by rw [e]; rfl)
        have ib2 : Below w.heap.size w (wr.setCell ⟨g, n - 1, none⟩ (.string (strN p ++ T))) := i3.setCell hBg _
        have HO2 := hide io2
        have HA2 := hide ia2
        have HB2 := hide ib2
        obtain ⟨n1, hn1'⟩ : ∃ n1, n1 = n - 1 := ⟨_, rfl⟩
        rw [← hn1'] at hcl hf1 HO2 HA2 HB2
        have hn1I : (n : Int) - 1 = (n1 : Int) := by omega
        have hn1n : n1 < n := by omega
        have hw1 : IntKind.i64.wrap ((n : Int) - 1) = (n1 : Int) := by rw [hn1I, IntKind.wrap_i64]; omega
        have hw2 : IntKind.i64.wrap (n1 : Int) = (n1 : Int) := by rw [IntKind.wrap_i64]; omega
        have hw3 : IntKind.i64.wrap ((k : Int) + 1) = ((k + 1 : Nat) : Int) := by rw [IntKind.wrap_i64]; omega
        have hw4 : IntKind.i64.wrap (((k + 1 : Nat) : Int)) = ((k + 1 : Nat) : Int) := by rw [IntKind.wrap_i64]; omega
        have HT := hide hT
        clear i1 i2 i3 io2 ia2 ib2 e1 h46 hcc htk hlen hpn hjn hcells hfr hp hsl hTn hps hn1' hn hT
        go_wp2_with fail
        go_region
        rw [← HT.out]
        go_wp2_with fail
        go_roundw
        case rel => exact ⟨k + 1, by omega, by go_num, HO2.out.drew, HA2.out.drew, HB2.out.drew⟩
        case measure => simp [intOf]; omega
    · have hdk : decide ((k : Int) < (N : Int)) = false := decide_eq_false (by omega)
      rw [List.take_of_length_le (by rw [← HNL.out]; omega)] at i1 i2
      have H1 := hide i1
      have H2 := hide i2
      have H3 := hide i3
      clear i1 i2 i3
      go_wp2_with fail
      go_ret2
      exact ⟨_, _, rfl, H1.out, H2.out, H3.out⟩
end Go.Proofs.YtccoddmdlbdfjaaGreatDoor
