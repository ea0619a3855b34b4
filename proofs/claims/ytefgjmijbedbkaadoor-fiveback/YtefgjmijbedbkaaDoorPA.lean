/-
  Copies, comparisons and small numbers of the reference's base; conditions as each theorem has them.
-/
import Derived.Test.YtefgjmijbedbkaaDoorRC
import Derived.Lib.AppendStr
set_option linter.unusedSimpArgs false
set_option linter.unusedVariables false
namespace Go.Proofs.YtefgjmijbedbkaaDoor
open Go.RowKit

theorem own_src {w : World} {B : Nat} {v : Value} {l : List Nat} (h : Own w B 5 v (nums .u8 l)) (hb : ∀ x ∈ l, x < 256) : ∃ a cap, v = .slice a l.length cap ∧ Src w a l.length cap l ∧ (∀ b o, a = some ⟨b, o, none⟩ → B ≤ b) := by
  have hl := nums_length .u8 l
  rcases h.2 with ⟨rfl, h0⟩ | ⟨g, cap, cur, rfl, hg, hh, hc, hm, hs, ht⟩
  · rw [hl] at h0
    obtain rfl : l = [] := List.eq_nil_of_length_eq_zero h0
    exact ⟨none, 0, rfl, Src.nilS w, fun b o e => by cases e⟩
  · rw [hl] at hc ht ⊢
    refine ⟨some ⟨g, 0, none⟩, cap, rfl, ⟨rfl, hc, hm, fun e => (by cases e), fun _ => ⟨g, 0, rfl, lt_of_some hh, fun i hi => ?_⟩, hb⟩, fun b o e => by simp at e; omega⟩
    rw [Nat.mul_one] at ht
    have e1 : cur[i]? = (nums .u8 l)[i]? := by rw [← ht, List.getElem?_take, if_pos hi]; simp
    rw [Nat.zero_add]
    simp only [World.cell?, hh]
    rw [e1]
    exact nums_get .u8 l i hi
theorem inf5 : ∃ i, Tryd.prog.info? 5 = some i ∧ i.zero = some (.int .u8 0) ∧ i.size = 1 ∧ i.bytes = 1 := info5p
/-- 'append(v, x...)', v the call's own bytes. -/
theorem run_app {w : World} {B : Nat} {v : Value} {l : List Nat} (hown : Own w B 5 v (nums .u8 l)) {a : Option Addr} {m c : Nat} {bs : List Nat} (hs : Src w a m c bs) (hlen : l.length + m ≤ 140737488355328) (hB : B ≤ w.heap.size) :
    ∃ v' w', (Builtin.append_ #[22, 22] 22 #[v, .slice a m c]).run Tryd.prog w = .ok v' w' ∧ Own w' B 5 v' (nums .u8 (l ++ bs)) ∧ Below B w w' := by
  cases a with
  | none =>
    obtain ⟨i, hi, hz, hsz, hby⟩ := info5p
    have hc := hs.nil rfl
    have := hs.hcap
    obtain rfl : m = 0 := by omega
    obtain rfl : c = 0 := hc
    obtain rfl : bs = [] := List.eq_nil_of_length_eq_zero hs.hlen
    exact ⟨v, w, run_append_owned_none (P := Tryd.prog) w B 22 22 5 i 1 Tryd.underlying22 hi v _ (nums .u8 l) hown, by simpa using hown, Below.refl _ _⟩
  | some x =>
    obtain ⟨v', w', h1, h2, h3, _⟩ := own_app 22 5 (.int .u8 0) 1 Tryd.underlying22 inf5 rfl hown x m c (nums .u8 bs) (by rw [nums_length, hs.hlen])
      (fun j u hu => by
        obtain ⟨hj, rfl⟩ := nums_at _ _ _ _ hu
        rw [hs.hlen] at hj
        obtain ⟨b, o, e, _, hcell⟩ := hs.lies (by omega)
        simp at e
        subst e
        rw [add_none]
        exact hcell j hj) (nums_one _ _) (by rw [nums_length]; omega) (by rw [nums_length]; omega) hB
    exact ⟨v', w', h1, by rw [nums_append]; exact h2, h3⟩
theorem own_new5 (w : World) : Own (w.alloc (.cells #[] 5)) w.heap.size 5 (.slice (some ⟨w.heap.size, 0, none⟩) 0 0) (nums .u8 []) :=
  ⟨rfl, Or.inr ⟨w.heap.size, 0, #[], rfl, Nat.le_refl _, alloc_new _ _, by simp [nums], Nat.zero_le _, by simp, by simp [nums]⟩⟩
set_option maxRecDepth 100000 in
set_option maxHeartbeats 1000000 in
theorem bytes_at (a : Option Addr) (n c : Nat) (l : List Nat) (w : World) (h : Src w a n c l) (hn : n ≤ 140737488355328) : Calls Tryd.prog 8 #[.slice a n c] w fun e w' => ∃ v, e = .returned v ∧ Own w' w.heap.size 5 v (nums .u8 l) ∧ Below w.heap.size w w' := by
  obtain ⟨W1, hW1⟩ : ∃ W1, W1 = w.alloc (.cells #[] 5) := ⟨_, rfl⟩
  have b1 : Below w.heap.size w W1 := by rw [hW1]; exact (Below.refl _ _).alloc (Nat.le_refl _) _
  have o1 : Own W1 w.heap.size 5 (.slice (some ⟨w.heap.size, 0, none⟩) 0 0) (nums .u8 []) := by rw [hW1]; exact own_new5 w
  obtain ⟨v', W2, hap, o2, b2⟩ := run_app o1 (h.below b1) (by simpa using hn) b1.size
  rw [List.nil_append] at o2
  have hAl : w.alloc (.cells #[] 5) = W1 := hW1.symm
  have HAP := hide hap
  have HO := hide o2
  have HB : Hid (Below w.heap.size w W2) := b1.trans b2
  clear h hW1 b1 o1 hap o2 b2
  go_enter Tryd.func8, Tryd.ntmps8
  go_wp2_with (refine wpList_app_run _ rfl _ _ 22 22 rfl _ _ rfl rfl HAP.out ?_)
  go_ret
  exact ⟨v', rfl, HO.out, HB.out⟩
set_option maxHeartbeats 400000 in
theorem same_bytes (w : World) (a b : Option Addr) (n c m d : Nat) (l : List Nat) (h1 : Src w a n c l) (h2 : Src w b m d l) : Calls Tryd.prog 22 #[.slice a n c, .slice b m d] w fun e w' => e = .returned (.bool true) ∧ w = w' := by
  have r1 := run_str_src h1
  have r2 := run_str_src h2
  clear h1 h2
  go_enter Tryd.func22, Tryd.ntmps22
  go_wp2
  go_ret
  simp
set_option maxRecDepth 100000 in
set_option maxHeartbeats 1000000 in
theorem same_ints (w : World) (a b : Option Addr) (n c m d : Nat) (l : List Int) (h1 : SrcI w a n c l) (h2 : SrcI w b m d l) : Calls Tryd.prog 11 #[.slice a n c, .slice b m d] w fun e w' => e = .returned (.bool true) ∧ Below w.heap.size w w' := by
  obtain rfl : m = n := by rw [← h2.hlen, ← h1.hlen]
  have H1 := hide h1
  have H2 := hide h2
  have hc1 := h1.hcap
  have hm1 := h1.hmax
  have hc2 := h2.hcap
  have hm2 := h2.hmax
  unfold maxLen at hm1 hm2
  clear h1 h2
  go_enter Tryd.func11, Tryd.ntmps11
  go_wp2_with fail
  go_loopw [5] (fun i wr => ∃ k : Nat, k ≤ m ∧ i = .int .i64 k ∧ Hid (Below w.heap.size w wr)) (fun i _ => m - (intOf i).toNat)
  case atStart => exact ⟨0, by omega, rfl, Below.refl _ _⟩
  case round =>
    obtain ⟨k, hk, rfl, HJ⟩ := hrel
    by_cases hkm : k < m
    · have hd : decide ((k : Int) < (m : Int)) = true := decide_eq_true (by omega)
      obtain ⟨xb, xo, rfl, hxl, hcx⟩ := H1.out.lies (by omega)
      obtain ⟨yb, yo, rfl, hyl, hcy⟩ := H2.out.lies (by omega)
      have e1 : wr.cell? ⟨xb, xo + k, none⟩ = some (.int .i64 (l.getD k 0)) := (HJ.out.cell (p := ⟨xb, xo + k, none⟩) hxl).trans (hcx k hkm)
      have e2 : wr.cell? ⟨yb, yo + k, none⟩ = some (.int .i64 (l.getD k 0)) := (HJ.out.cell (p := ⟨yb, yo + k, none⟩) hyl).trans (hcy k hkm)
      generalize l.getD k 0 = z at e1 e2
      have hz : (z != z) = false := by simp
      clear hcx hcy
      go_wp2_with fail
      go_region
      go_wp2_with fail
      go_roundw
      case rel => exact ⟨k + 1, by omega, by go_num, HJ.out.drew⟩
      case measure => simp [intOf]; omega
    · have hd : decide ((k : Int) < (m : Int)) = false := decide_eq_false (by omega)
      go_wp2_with fail
      go_ret
      exact ⟨rfl, HJ.out⟩
theorem isByte_at (n : Int) (w : World) (q : Bool) (hq : q = decide (0 ≤ n ∧ n ≤ 255)) : Calls Tryd.prog 51 #[.int .i64 n] w fun e w' => e = .returned (.bool q) ∧ w = w' := by
  subst hq
  by_cases h1 : 0 ≤ n
  · go_enter Tryd.func51, Tryd.ntmps51
    go_wp2
    go_ret
    exact ⟨by simp [h1], rfl⟩
  · go_enter Tryd.func51, Tryd.ntmps51
    go_wp2
    go_ret
    exact ⟨by simp; omega, rfl⟩
theorem small_at (n : Int) (w : World) (q : Bool) (hq : q = decide (0 ≤ n ∧ n ≤ 255)) : Calls Tryd.prog 52 #[.int .i64 n] w fun e w' => e = .returned (.bool q) ∧ w = w' := by
  subst hq
  by_cases h1 : 0 ≤ n
  · go_enter Tryd.func52, Tryd.ntmps52
    go_wp2
    go_ret
    exact ⟨by simp [h1], rfl⟩
  · go_enter Tryd.func52, Tryd.ntmps52
    go_wp2
    go_ret
    exact ⟨by simp; omega, rfl⟩

theorem own_new3 (w : World) : Own (w.alloc (.cells #[] 3)) w.heap.size 3 (.slice (some ⟨w.heap.size, 0, none⟩) 0 0) [] :=
  ⟨rfl, Or.inr ⟨w.heap.size, 0, #[], rfl, Nat.le_refl _, alloc_new _ _, by simp, Nat.zero_le _, by simp, by simp⟩⟩
def vals (zs : List Int) : List Value := zs.map fun z => .int .i64 z
theorem vals_length (zs : List Int) : (vals zs).length = zs.length := by simp [vals]
theorem own_srcV {w : World} {B : Nat} {v : Value} {l : List Int} (h : Own w B 3 v (vals l)) : ∃ a cap, v = .slice a l.length cap ∧ SrcI w a l.length cap l ∧ (∀ b o, a = some ⟨b, o, none⟩ → B ≤ b) := by
  have hl := vals_length l
  rcases h.2 with ⟨rfl, h0⟩ | ⟨g, cap, cur, rfl, hg, hh, hc, hm, hs, ht⟩
  · rw [hl] at h0
    obtain rfl : l = [] := List.eq_nil_of_length_eq_zero h0
    exact ⟨none, 0, rfl, SrcI.nilS w, fun b o e => by cases e⟩
  · rw [hl] at hc ht ⊢
    refine ⟨some ⟨g, 0, none⟩, cap, rfl, ⟨rfl, hc, hm, fun e => (by cases e), fun _ => ⟨g, 0, rfl, lt_of_some hh, fun i hi => ?_⟩⟩, fun b o e => by simp at e; omega⟩
    rw [Nat.mul_one] at ht
    have e1 : cur[i]? = (vals l)[i]? := by rw [← ht, List.getElem?_take, if_pos hi]; simp
    rw [Nat.zero_add]
    simp only [World.cell?, hh]
    rw [e1]
    simp [vals, List.getElem?_map, List.getElem?_eq_getElem hi, List.getD]
set_option maxRecDepth 100000 in
set_option maxHeartbeats 1000000 in
theorem ints_at (a : Option Addr) (n c : Nat) (l : List Int) (w : World) (h : SrcI w a n c l) (hn : n * 8 ≤ 140737488355328) : Calls Tryd.prog 24 #[.slice a n c] w fun e w' => ∃ a' c', e = .returned (.slice a' n c') ∧ SrcI w' a' n c' l ∧ Below w.heap.size w w' := by
  obtain ⟨W1, hW1⟩ : ∃ W1, W1 = w.alloc (.cells #[] 3) := ⟨_, rfl⟩
  have b1 : Below w.heap.size w W1 := by rw [hW1]; exact (Below.refl _ _).alloc (Nat.le_refl _) _
  have o1 : Own W1 w.heap.size 3 (.slice (some ⟨w.heap.size, 0, none⟩) 0 0) [] := by rw [hW1]; exact own_new3 w
  have hl := h.hlen
  have key : ∃ v' w', (Builtin.append_ #[24, 24] 24 #[.slice (some ⟨w.heap.size, 0, none⟩) 0 0, .slice a n c]).run Tryd.prog W1 = .ok v' w' ∧ Own w' w.heap.size 3 v' (vals l) ∧ Below w.heap.size W1 w' := by
    have hs := h.below b1
    cases a with
    | none =>
      obtain ⟨i, hi, hz, hsz, hby⟩ := info3p
      have hc := hs.nil rfl
      have := hs.hcap
      obtain rfl : n = 0 := by omega
      obtain rfl : c = 0 := hc
      obtain rfl : l = [] := List.eq_nil_of_length_eq_zero hs.hlen
      exact ⟨_, W1, run_append_owned_none (P := Tryd.prog) W1 w.heap.size 24 24 3 i 1 Tryd.underlying24 hi _ _ [] o1, o1, Below.refl _ _⟩
    | some x =>
      obtain ⟨v', w', h1, h2, h3, _⟩ := own_app 24 3 (.int .i64 0) 8 Tryd.underlying24 inf3 rfl o1 x n c (vals l) (by rw [vals_length, hs.hlen])
        (fun j u hu => by
          simp only [vals, List.getElem?_map, Option.map_eq_some_iff] at hu
          obtain ⟨z, hz, rfl⟩ := hu
          have hj := (List.getElem?_eq_some_iff.1 hz).1
          rw [hs.hlen] at hj
          obtain ⟨b, o, e, _, hcell⟩ := hs.lies (by omega)
          simp at e
          subst e
          rw [add_none, hcell j hj, List.getD, hz]
          rfl) (by intro u hu; simp [vals] at hu; obtain ⟨_, _, rfl⟩ := hu; rfl) (by simpa using hn) (by simp; omega) b1.size
      exact ⟨v', w', h1, by simpa using h2, h3⟩
  obtain ⟨v', W2, hap, o2, b2⟩ := key
  obtain ⟨a', c', rfl, s2, _⟩ := own_srcV o2
  rw [hl] at s2 hap
  have hAl : w.alloc (.cells #[] 3) = W1 := hW1.symm
  have HAP := hide hap
  have HS := hide s2
  have HB : Hid (Below w.heap.size w W2) := b1.trans b2
  clear h hW1 b1 o1 hap o2 b2 s2 hl
  go_enter Tryd.func24, Tryd.ntmps24
  go_wp2_with (refine wpList_app_run _ rfl _ _ 24 24 rfl _ _ rfl rfl HAP.out ?_)
  go_ret
  exact ⟨a', c', rfl, HS.out, HB.out⟩
/-- Two bytes in a slice of their own. -/
theorem src_two (w : World) (x y : Nat) (hx : x < 256) (hy : y < 256) : Src (w.alloc (.cells #[.int .u8 (x : Nat), .int .u8 (y : Nat)] 5)) (some ⟨w.heap.size, 0, none⟩) 2 2 [x, y] := by
  refine ⟨rfl, Nat.le_refl _, by unfold maxLen; omega, (by intro e; cases e), fun _ => ⟨w.heap.size, 0, rfl, by simp, fun i hi => ?_⟩, ?_⟩
  · have r := Row.new w #[.int .u8 (x : Nat), .int .u8 (y : Nat)] 5
    rw [Nat.zero_add, r.cell]
    match i, hi with
    | 0, _ => rfl
    | 1, _ => rfl
  · intro z hz
    simp at hz
    rcases hz with rfl | rfl <;> assumption
/-- What is written of one number. -/
def two1 (v : Nat) (n : Int) : List Nat × Nat := if 0 ≤ n ∧ n ≤ 255 then ([v, n.toNat], 0) else ([], 2)
theorem two1_ok {v : Nat} {n : Int} (h : 0 ≤ n ∧ n ≤ 255) : two1 v n = ([v, n.toNat], 0) := by unfold two1; rw [if_pos h]
theorem two1_no {v : Nat} {n : Int} (h : ¬ (0 ≤ n ∧ n ≤ 255)) : two1 v n = ([], 2) := by unfold two1; rw [if_neg h]
/-- What a writer answers: the bytes, or that it may not be. -/
def Wrote (p : List Nat × Nat) (w : World) (e : Ending) (w' : World) : Prop := ∃ a c, e = .returned (.tuple #[.slice a p.1.length c, .int .i64 (p.2 : Nat)]) ∧ Src w' a p.1.length c p.1 ∧ Below w.heap.size w w'
set_option maxHeartbeats 1000000 in
theorem putPair_at (v : Nat) (n : Int) (w : World) (hv : v < 256) : Calls Tryd.prog 56 #[.int .u8 v, .int .i64 n] w (Wrote (two1 v n) w) := by
  by_cases h : 0 ≤ n ∧ n ≤ 255
  · obtain ⟨m, rfl⟩ : ∃ m : Nat, n = m := ⟨n.toNat, by omega⟩
    have HB : Hid (true = decide (0 ≤ (m : Int) ∧ (m : Int) ≤ 255)) := (decide_eq_true h).symm
    have hm : m < 256 := by omega
    have HS := hide (src_two w v m hv hm)
    rw [two1_ok h]
    clear h
    go_enter Tryd.func56, Tryd.ntmps56
    go_wp2_with fail
    refine (isByte_at (m : Int) _ true HB.out).mono ?_
    rintro e w1 ⟨rfl, rfl⟩
    go_wp2_with fail
    go_ret2
    exact ⟨_, _, rfl, HS.out, (Below.refl _ _).alloc (Nat.le_refl _) _⟩
  · have HB : Hid (false = decide (0 ≤ n ∧ n ≤ 255)) := (decide_eq_false h).symm
    rw [two1_no h]
    clear h
    go_enter Tryd.func56, Tryd.ntmps56
    go_wp2_with fail
    refine (isByte_at n _ false HB.out).mono ?_
    rintro e w1 ⟨rfl, rfl⟩
    go_wp2_with fail
    go_ret2
    exact ⟨none, 0, rfl, Src.nilS _, Below.refl _ _⟩
set_option maxHeartbeats 1000000 in
theorem rputTwo_at (v : Nat) (n : Int) (w : World) (hv : v < 256) : Calls Tryd.prog 33 #[.int .u8 v, .int .i64 n] w (Wrote (two1 v n) w) := by
  by_cases h : 0 ≤ n ∧ n ≤ 255
  · obtain ⟨m, rfl⟩ : ∃ m : Nat, n = m := ⟨n.toNat, by omega⟩
    have HB : Hid (true = decide (0 ≤ (m : Int) ∧ (m : Int) ≤ 255)) := (decide_eq_true h).symm
    have hm : m < 256 := by omega
    have HS := hide (src_two w v m hv hm)
    rw [two1_ok h]
    clear h
    go_enter Tryd.func33, Tryd.ntmps33
    go_wp2_with fail
    refine (small_at (m : Int) _ true HB.out).mono ?_
    rintro e w1 ⟨rfl, rfl⟩
    go_wp2_with fail
    go_ret2
    exact ⟨_, _, rfl, HS.out, (Below.refl _ _).alloc (Nat.le_refl _) _⟩
  · have HB : Hid (false = decide (0 ≤ n ∧ n ≤ 255)) := (decide_eq_false h).symm
    rw [two1_no h]
    clear h
    go_enter Tryd.func33, Tryd.ntmps33
    go_wp2_with fail
    refine (small_at n _ false HB.out).mono ?_
    rintro e w1 ⟨rfl, rfl⟩
    go_wp2_with fail
    go_ret2
    exact ⟨none, 0, rfl, Src.nilS _, Below.refl _ _⟩
set_option maxHeartbeats 1000000 in
theorem putChoice_at (n : Int) (w : World) : Calls Tryd.prog 32 #[.int .i64 n] w (Wrote (two1 5 n) w) := by
  have HP := hide (putPair_at 5 n w (by omega))
  go_enter Tryd.func32, Tryd.ntmps32
  go_wp2_with fail
  refine HP.out.mono ?_
  rintro e w1 ⟨a, c, rfl, hs, hb⟩
  have HS := hide hs
  have HB := hide hb
  clear hs hb
  go_wp2_with fail
  go_ret2
  exact ⟨a, c, rfl, HS.out, HB.out⟩
set_option maxHeartbeats 1000000 in
theorem putVerdict_at (n : Int) (w : World) : Calls Tryd.prog 34 #[.int .i64 n] w (Wrote (two1 1 n) w) := by
  have HP := hide (putPair_at 1 n w (by omega))
  go_enter Tryd.func34, Tryd.ntmps34
  go_wp2_with fail
  refine HP.out.mono ?_
  rintro e w1 ⟨a, c, rfl, hs, hb⟩
  have HS := hide hs
  have HB := hide hb
  clear hs hb
  go_wp2_with fail
  go_ret2
  exact ⟨a, c, rfl, HS.out, HB.out⟩
end Go.Proofs.YtefgjmijbedbkaaDoor
