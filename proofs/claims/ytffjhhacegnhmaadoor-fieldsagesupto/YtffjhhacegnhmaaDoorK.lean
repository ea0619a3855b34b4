/-
  The reference's whole numbers, and its pieces of a text; conditions as each theorem has them.
-/
import Derived.Test.YtffjhhacegnhmaaDoorO
set_option linter.unusedSimpArgs false
set_option linter.unusedVariables false
namespace Go.Proofs.YtffjhhacegnhmaaDoor
open Go.RowKit

/-- The number of at most so many digits. -/
def wh (l : List Nat) (d : Nat) : Option Nat := if isNum l = true ∧ l.length ≤ d then some (val 0 l) else none
theorem wh_rd (l : List Nat) : (match wh l 3 with | some n => if 255 < n then none else some n | none => none) = rd l 255 := by
  unfold wh rd
  by_cases h : isNum l = true
  · by_cases h3 : l.length ≤ 3
    · rw [if_pos ⟨h, h3⟩]
      by_cases hv : val 0 l ≤ 255
      · rw [if_pos ⟨h, hv⟩]; simp; omega
      · rw [if_neg (fun x => hv x.2)]; simp; omega
    · rw [if_neg (fun x => h3 x.2), if_neg]
      rintro ⟨_, hv⟩
      have := num_long h (k := 2) (by omega)
      omega
  · rw [if_neg (fun x => h x.1), if_neg (fun x => h x.1)]
theorem wh_port (l : List Nat) : (match wh l 5 with | some n => if 65535 < n then none else some n | none => none) = rd l 65535 := by
  unfold wh rd
  by_cases h : isNum l = true
  · by_cases h3 : l.length ≤ 5
    · rw [if_pos ⟨h, h3⟩]
      by_cases hv : val 0 l ≤ 65535
      · rw [if_pos ⟨h, hv⟩]; simp; omega
      · rw [if_neg (fun x => hv x.2)]; simp; omega
    · rw [if_neg (fun x => h3 x.2), if_neg]
      rintro ⟨_, hv⟩
      have := num_long h (k := 4) (by omega)
      omega
  · rw [if_neg (fun x => h x.1), if_neg (fun x => h x.1)]

set_option maxRecDepth 100000 in
set_option maxHeartbeats 4000000 in
theorem whole_at (t : ByteArray) (d : Nat) (w : World) (hm : t.size ≤ maxLen) (hd5 : d ≤ 7) : Calls Tryd.prog 31 #[.string t, .int .i64 d] w fun e w' => e = .returned (two (wh (byt t) d)) ∧ w = w' := by
  obtain ⟨l, hl⟩ : ∃ l, l = byt t := ⟨_, rfl⟩
  have hix : ∀ i, i < t.size → ∀ w, (Instr.index 9 (.string t) (.int .i64 (i : Nat))).run Tryd.prog w = .ok (.int .u8 (l.getD i 0 : Nat)) w := fun i hi w => by rw [hl]; exact run_ixstr t i hi w
  have hlt : ∀ k, l.getD k 0 < 256 := fun k => by rw [hl]; exact getD_lt (byt_lt t) k
  have hsz : t.size = l.length := by rw [hl, byt_length]
  rw [← hl]
  have HL : Hid (byt t = l) := hl.symm
  have HIX := hide hix
  have HLT := hide hlt
  have HSZ := hide hsz
  obtain ⟨N, hN⟩ : ∃ N, N = t.size := ⟨_, rfl⟩
  have HN := hide hN
  have HMX := hide hm
  rw [← hN] at hm
  unfold maxLen at hm
  have hNI : (t.size : Int) = (N : Int) := by rw [hN]
  have HNL : Hid (N = l.length) := by show _ = _; rw [hN, hsz]
  clear hix hlt hl hsz hN
  have hd18 : decide (18 < (d : Int)) = false := decide_eq_false (by omega)
  have hd18' : decide (18 < d) = false := decide_eq_false (by omega)
  by_cases h0 : N = 0
  · have he : t.toList.isEmpty = true := by rw [isEmpty_byt, HL.out]; have := HNL.out; simp; exact List.eq_nil_of_length_eq_zero (by omega)
    have HR : Hid (wh l d = none) := by have := HNL.out; have e : l = [] := List.eq_nil_of_length_eq_zero (by omega); simp [wh, isNum, e, Hid]
    clear h0
    go_enter Tryd.func31, Tryd.ntmps31
    go_wp2_with fail
    go_ret2
    exact ⟨by rw [HR.out]; rfl, rfl⟩
  have hne : Hid (l ≠ []) := fun e => by have := HNL.out; rw [e] at this; simp at this; omega
  have he : t.toList.isEmpty = false := by rw [isEmpty_byt, HL.out]; simp; exact hne.out
  by_cases hNd : d < N
  · have q1 : decide ((d : Int) < (N : Int)) = true := decide_eq_true (by omega)
    have q1' : decide (d < N) = true := decide_eq_true (by omega)
    have HR : Hid (wh l d = none) := by have := HNL.out; have e : ¬ l.length ≤ d := by omega
                                        simp [wh, e, Hid]
    go_enter Tryd.func31, Tryd.ntmps31
    go_wp2_with fail
    go_ret2
    exact ⟨by rw [HR.out]; rfl, rfl⟩
  have q1 : decide ((d : Int) < (N : Int)) = false := decide_eq_false (by omega)
  have q1' : decide (d < N) = false := decide_eq_false (by omega)
  have hx0 := HIX.out 0 (by rw [← HN.out]; omega)
  have hc0 := HLT.out 0
  obtain ⟨c0, e0⟩ : ∃ c, c = l.getD 0 0 := ⟨_, rfl⟩
  rw [← e0] at hx0 hc0
  have hx0' : ∀ w, (Instr.index 9 (.string t) (.int .i64 0)).run Tryd.prog w = .ok (.int .u8 (c0 : Nat)) w := hx0
  have HC0 := hide e0
  clear hx0 e0
  by_cases h1N : 1 < N
  · have g1 : decide (1 < (N : Int)) = true := decide_eq_true (by omega)
    have g1' : decide (1 < N) = true := decide_eq_true (by omega)
    by_cases h48 : c0 = 48
    · have hb : ((c0 : Int) == 48) = true := by simp; omega
      have HR : Hid (wh l d = none) := by
        have : isNum l = false := by rw [isNum_of, headD_getD, ← HC0.out, h48, ← HNL.out]; simp [h1N]
        simp [wh, this, Hid]
      clear h48
      go_enter Tryd.func31, Tryd.ntmps31
      go_wp2_with fail
      go_ret2
      exact ⟨by rw [HR.out]; rfl, rfl⟩
    · have hb : ((c0 : Int) == 48) = false := by simp; omega
      have HP : Hid (l.all dig = true → isNum l = true) := fun h => by rw [isNum_of, headD_getD, ← HC0.out, h]; simp [h48, hne.out]
      clear h48
      go_enter Tryd.func31, Tryd.ntmps31
      go_wp2_with fail
      clear hb hx0' hc0 g1 g1'
      go_loop [6, 7] (fun n i => ∃ k : Nat, k ≤ N ∧ i = .int .i64 k ∧ ∃ v : Nat, n = .int .i64 v ∧ v < 10000000 ∧ Hid (v = val 0 (l.take k) ∧ v < 10 ^ k ∧ (l.take k).all dig = true)) (fun _ i => N - (intOf i).toNat)
      case atStart => exact ⟨0, by omega, rfl, 0, rfl, by omega, rfl, by simp, rfl⟩
      case round =>
        obtain ⟨k, hk, rfl, v, rfl, hv5, HI⟩ := hrel
        by_cases h1 : k < N
        · have hx := HIX.out k (by rw [← HN.out]; exact h1)
          have hl : k < l.length := by rw [← HNL.out]; exact h1
          have hc := HLT.out k
          obtain ⟨i1, i2, i3⟩ := HI.out
          have HT : Hid (val 0 (l.take (k + 1)) = step v (l.getD k 0)) := by show _ = _; rw [take_snoc l k hl, val_snoc, ← i1]
          have HA : Hid (dig (l.getD k 0) = true → (l.take (k + 1)).all dig = true) := fun h => by rw [take_snoc l k hl, List.all_append, i3, List.all_cons, List.all_nil, h]; rfl
          have HF : Hid (dig (l.getD k 0) = false → wh l d = none) := fun h => by
            unfold wh
            rw [if_neg]
            rintro ⟨hn, _⟩
            rw [isNum_of] at hn
            simp only [Bool.and_eq_true] at hn
            have := List.all_eq_true.1 hn.1.2 (l.getD k 0) (getD_mem hl)
            rw [h] at this; cases this
          have HPW : Hid (∀ c, c ≤ 57 → step v c < 10 ^ (k + 1)) := fun c hcc => by
            unfold step; rw [Nat.pow_succ]; omega
          have HP5 : Hid (10 ^ (k + 1) ≤ 10000000) := Nat.pow_le_pow_right (n := 10) (by omega) (show k + 1 ≤ 7 by omega)
          obtain ⟨c, hcc⟩ : ∃ c, c = l.getD k 0 := ⟨_, rfl⟩
          rw [← hcc] at hx hc HT HA HF
          clear hcc hl i1 i2 i3
          have hdd : decide ((k : Int) < (N : Int)) = true := decide_eq_true (by omega)
          by_cases h48 : c < 48
          · have q1 : decide ((c : Int) < 48) = true := decide_eq_true (by omega)
            have HR := hide (HF.out (by simp [dig]; omega))
            go_wp2_with fail
            go_ret2
            refine ⟨?_, rfl⟩
            rw [HR.out]; rfl
          · have q1 : decide ((c : Int) < 48) = false := decide_eq_false (by omega)
            by_cases h57 : 57 < c
            · have q2 : decide (57 < (c : Int)) = true := decide_eq_true (by omega)
              have HR := hide (HF.out (by simp [dig]; omega))
              go_wp2_with fail
              go_ret2
              refine ⟨?_, rfl⟩
              rw [HR.out]; rfl
            · have q2 : decide (57 < (c : Int)) = false := decide_eq_false (by omega)
              have HO := hide (HA.out (by simp [dig]; omega))
              have HW := hide (HPW.out c (by omega))
              obtain ⟨V, hV⟩ : ∃ V, V = step v c := ⟨_, rfl⟩
              rw [← hV] at HT HW
              have hVI : (v : Int) * 10 + ((c : Int) - 48) = (V : Int) := by rw [hV, step]; omega
              have hV5 : V < 10000000 := Nat.lt_of_lt_of_le HW.out HP5.out
              clear hV
              go_wp2_with fail
              go_round
              case rel => exact ⟨k + 1, by omega, by go_num, V, by first | rfl | go_num, hV5, HT.out.symm, HW.out, HO.out⟩
              case measure => simp [intOf]; omega
        · have hdd : decide ((k : Int) < (N : Int)) = false := decide_eq_false (by omega)
          have HR : Hid (wh l d = some v) := by
            obtain ⟨i1, i2, i3⟩ := HI.out
            rw [List.take_of_length_le (by rw [← HNL.out]; omega)] at i1 i3
            show wh l d = some v
            rw [wh, if_pos ⟨HP.out i3, by rw [← HNL.out]; omega⟩, i1]
          go_wp2_with fail
          go_ret2
          refine ⟨?_, rfl⟩
          rw [HR.out]; rfl
  · have g1 : decide (1 < (N : Int)) = false := decide_eq_false (by omega)
    have g1' : decide (1 < N) = false := decide_eq_false (by omega)
    have HP : Hid (l.all dig = true → isNum l = true) := fun h => by rw [isNum_of, ← HNL.out, h]; simp [h1N, hne.out]
    go_enter Tryd.func31, Tryd.ntmps31
    go_wp2_with fail
    clear hx0' hc0 g1 g1'
    go_loop [6, 7] (fun n i => ∃ k : Nat, k ≤ N ∧ i = .int .i64 k ∧ ∃ v : Nat, n = .int .i64 v ∧ v < 10000000 ∧ Hid (v = val 0 (l.take k) ∧ v < 10 ^ k ∧ (l.take k).all dig = true)) (fun _ i => N - (intOf i).toNat)
    case atStart => exact ⟨0, by omega, rfl, 0, rfl, by omega, rfl, by simp, rfl⟩
    case round =>
      obtain ⟨k, hk, rfl, v, rfl, hv5, HI⟩ := hrel
      by_cases h1 : k < N
      · have hx := HIX.out k (by rw [← HN.out]; exact h1)
        have hl : k < l.length := by rw [← HNL.out]; exact h1
        have hc := HLT.out k
        obtain ⟨i1, i2, i3⟩ := HI.out
        have HT : Hid (val 0 (l.take (k + 1)) = step v (l.getD k 0)) := by show _ = _; rw [take_snoc l k hl, val_snoc, ← i1]
        have HA : Hid (dig (l.getD k 0) = true → (l.take (k + 1)).all dig = true) := fun h => by rw [take_snoc l k hl, List.all_append, i3, List.all_cons, List.all_nil, h]; rfl
        have HF : Hid (dig (l.getD k 0) = false → wh l d = none) := fun h => by
          unfold wh
          rw [if_neg]
          rintro ⟨hn, _⟩
          rw [isNum_of] at hn
          simp only [Bool.and_eq_true] at hn
          have := List.all_eq_true.1 hn.1.2 (l.getD k 0) (getD_mem hl)
          rw [h] at this; cases this
        have HPW : Hid (∀ c, c ≤ 57 → step v c < 10 ^ (k + 1)) := fun c hcc => by
          unfold step; rw [Nat.pow_succ]; omega
        have HP5 : Hid (10 ^ (k + 1) ≤ 10000000) := Nat.pow_le_pow_right (n := 10) (by omega) (show k + 1 ≤ 7 by omega)
        obtain ⟨c, hcc⟩ : ∃ c, c = l.getD k 0 := ⟨_, rfl⟩
        rw [← hcc] at hx hc HT HA HF
        clear hcc hl i1 i2 i3
        have hdd : decide ((k : Int) < (N : Int)) = true := decide_eq_true (by omega)
        by_cases h48 : c < 48
        · have q1 : decide ((c : Int) < 48) = true := decide_eq_true (by omega)
          have HR := hide (HF.out (by simp [dig]; omega))
          go_wp2_with fail
          go_ret2
          refine ⟨?_, rfl⟩
          rw [HR.out]; rfl
        · have q1 : decide ((c : Int) < 48) = false := decide_eq_false (by omega)
          by_cases h57 : 57 < c
          · have q2 : decide (57 < (c : Int)) = true := decide_eq_true (by omega)
            have HR := hide (HF.out (by simp [dig]; omega))
            go_wp2_with fail
            go_ret2
            refine ⟨?_, rfl⟩
            rw [HR.out]; rfl
          · have q2 : decide (57 < (c : Int)) = false := decide_eq_false (by omega)
            have HO := hide (HA.out (by simp [dig]; omega))
            have HW := hide (HPW.out c (by omega))
            obtain ⟨V, hV⟩ : ∃ V, V = step v c := ⟨_, rfl⟩
            rw [← hV] at HT HW
            have hVI : (v : Int) * 10 + ((c : Int) - 48) = (V : Int) := by rw [hV, step]; omega
            have hV5 : V < 10000000 := Nat.lt_of_lt_of_le HW.out HP5.out
            clear hV
            go_wp2_with fail
            go_round
            case rel => exact ⟨k + 1, by omega, by go_num, V, by first | rfl | go_num, hV5, HT.out.symm, HW.out, HO.out⟩
            case measure => simp [intOf]; omega
      · have hdd : decide ((k : Int) < (N : Int)) = false := decide_eq_false (by omega)
        have HR : Hid (wh l d = some v) := by
          obtain ⟨i1, i2, i3⟩ := HI.out
          rw [List.take_of_length_le (by rw [← HNL.out]; omega)] at i1 i3
          show wh l d = some v
          rw [wh, if_pos ⟨HP.out i3, by rw [← HNL.out]; omega⟩, i1]
        go_wp2_with fail
        go_ret2
        refine ⟨?_, rfl⟩
        rw [HR.out]; rfl

/-- The last piece grown by a byte. -/
def ext (c : Nat) : List (List Nat) → List (List Nat)
  | [] => []
  | [p] => [p ++ [c]]
  | p :: q :: r => p :: ext c (q :: r)
theorem pcs_dot : ∀ l, pcs (l ++ [46]) = pcs l ++ [[]]
  | [] => rfl
  | b :: r => by
    have ih := pcs_dot r
    have hne := pcs_ne r
    rw [List.cons_append, pcs, pcs, ih]
    split
    · rfl
    · cases h : pcs r with
      | nil => exact absurd h hne
      | cons p ps => rfl
theorem pcs_ext (c : Nat) (hc : c ≠ 46) : ∀ l, pcs (l ++ [c]) = ext c (pcs l)
  | [] => by simp [pcs, hc, ext]
  | b :: r => by
    have ih := pcs_ext c hc r
    have hne := pcs_ne r
    rw [List.cons_append, pcs, pcs, ih]
    cases h : pcs r with
    | nil => exact absurd h hne
    | cons p ps =>
      split
      · rfl
      · cases ps with
        | nil => rfl
        | cons q qs => rfl
theorem ext_set (c : Nat) : ∀ ps : List (List Nat), ext c ps = ps.set (ps.length - 1) (ps.getD (ps.length - 1) [] ++ [c])
  | [] => rfl
  | [p] => rfl
  | p :: q :: r => by
    have ih := ext_set c (q :: r)
    simp only [ext, List.length_cons, Nat.add_sub_cancel] at ih ⊢
    rw [ih]
    simp
theorem beg_ext (c : Nat) : ∀ (ps : List (List Nat)) (a : Nat), beg a (ext c ps) = beg a ps
  | [], _ => rfl
  | [p], _ => rfl
  | p :: q :: r, a => by simp only [ext, beg, beg_ext c (q :: r)]
theorem beg_dot : ∀ (ps : List (List Nat)) (a : Nat), ps ≠ [] → beg a (ps ++ [[]]) = beg a ps ++ [a + (jn ps).length + 1]
  | [], _, h => absurd rfl h
  | [p], a, _ => rfl
  | p :: q :: r, a, _ => by
    have ih := beg_dot (q :: r) (a + p.length + 1) (by simp)
    simp only [List.cons_append, beg, jn] at ih ⊢
    rw [ih]
    simp; omega
theorem beg_length : ∀ (ps : List (List Nat)) (a : Nat), (beg a ps).length = ps.length
  | [], _ => rfl
  | p :: r, a => by simp [beg, beg_length r]
def ints (l : List Nat) : List Value := l.map fun x => .int .i64 (x : Nat)
theorem ints_get (l : List Nat) (i : Nat) (h : i < l.length) : (ints l)[i]? = some (.int .i64 (l.getD i 0 : Nat)) := by
  simp [ints, List.getElem?_map, List.getElem?_eq_getElem h, List.getD]
theorem ints_length (l : List Nat) : (ints l).length = l.length := by simp [ints]
theorem strs_length (l : List (List Nat)) : (strs l).length = l.length := by simp [strs]
theorem strs_set (ps : List (List Nat)) (j : Nat) (p : List Nat) : (strs ps).set j (.string (strN p)) = strs (ps.set j p) := by simp [strs, List.map_set]
theorem strN_append (a b : List Nat) : strN (a ++ b) = strN a ++ strN b := by
  apply ByteArray.ext
  simp [strN, ByteArray.data_append]
theorem Own.drew {w : World} {B : Nat} {e : TypeId} {v : Value} {xs : List Value} (h : Own w B e v xs) : Own w.drew B e v xs := h.keep fun _ _ => rfl
theorem own_ne {w : World} {B B' : Nat} {e e' : TypeId} {v v' : Value} {xs xs' : List Value} (h : Own w B e v xs) (h' : Own w B' e' v' xs') (hne : e ≠ e') {g : Nat} (hg : v'.ownBlock = some g) : v.ownBlock ≠ some g := by
  intro hg2
  obtain ⟨_, c1, e1⟩ := h.block hg2
  obtain ⟨_, c2, e2⟩ := h'.block hg
  rw [e1] at e2
  simp at e2
  exact hne e2.2
theorem own_new1 (w : World) (e : TypeId) (u : Value) (g : Nat) (hg : g = w.heap.size) (B : Nat) (hB : B ≤ g) : Own (w.alloc (.cells #[u] e)) B e (.slice (some ⟨g, 0, none⟩) 1 1) [u] := by
  subst hg
  exact ⟨rfl, Or.inr ⟨w.heap.size, 1, #[u], rfl, hB, alloc_new _ _, by simp, by unfold maxLen; omega, rfl, rfl⟩⟩

end Go.Proofs.YtffjhhacegnhmaaDoor
