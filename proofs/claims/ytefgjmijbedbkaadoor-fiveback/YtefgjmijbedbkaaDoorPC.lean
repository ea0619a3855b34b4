/-
  PutGreeting of package five and of the reference; conditions as each theorem has them.
-/
import Derived.Test.YtefgjmijbedbkaaDoorPB
set_option linter.unusedSimpArgs false
set_option linter.unusedVariables false
namespace Go.Proofs.YtefgjmijbedbkaaDoor
open Go.RowKit

def byB (z : Int) : Bool := decide (0 ≤ z ∧ z ≤ 255)
def dn (zs : List Int) : List Nat := zs.map Int.toNat
/-- What is written of a greeting. -/
def putGr (zs : List Int) : List Nat × Nat := if (1 ≤ zs.length ∧ zs.length ≤ 255) ∧ zs.all byB = true then (putG (dn zs), 0) else ([], 2)
theorem dn_length (zs : List Int) : (dn zs).length = zs.length := by simp [dn]
theorem take_snocI (l : List Int) (k : Nat) (h : k < l.length) : l.take (k + 1) = l.take k ++ [l.getD k 0] := by
  rw [List.take_succ_eq_append_getElem h, List.getD, List.getElem?_eq_getElem h]; rfl
theorem dn_lt {zs : List Int} (h : zs.all byB = true) : ∀ x ∈ dn zs, x < 256 := by
  intro x hx
  simp only [dn, List.mem_map] at hx
  obtain ⟨z, hz, rfl⟩ := hx
  have := List.all_eq_true.1 h z hz
  simp [byB] at this
  omega
theorem all_snocI (l : List Int) (k : Nat) (h : k < l.length) : (l.take (k + 1)).all byB = ((l.take k).all byB && byB (l.getD k 0)) := by
  rw [take_snocI l k h, List.all_append]; simp
theorem not_all {l : List Int} {k : Nat} (h : k < l.length) (hb : byB (l.getD k 0) = false) : l.all byB = false := by
  rw [List.all_eq_false]
  refine ⟨l.getD k 0, ?_, by rw [hb]; simp⟩
  rw [List.getD, List.getElem?_eq_getElem h]; exact List.getElem_mem _
theorem putG_lt {zs : List Int} (h : zs.all byB = true) (hl : zs.length ≤ 255) : ∀ x ∈ putG (dn zs), x < 256 := by
  intro x hx
  simp only [putG, List.mem_cons] at hx
  rcases hx with rfl | rfl | hx
  · omega
  · rw [dn_length]; omega
  · exact dn_lt h x hx
set_option maxRecDepth 100000 in
set_option maxHeartbeats 2000000 in
theorem putGreeting_at (a : Option Addr) (n c : Nat) (zs : List Int) (w : World) (h : SrcI w a n c zs) : Calls Tryd.prog 25 #[.slice a n c] w (Wrote (putGr zs) w) := by
  have hl := h.hlen
  have hc := h.hcap
  have hm := h.hmax
  unfold maxLen at hm
  by_cases h1 : 1 ≤ n ∧ n ≤ 255
  · have HB1 : Hid (true = decide (1 ≤ ((n : Nat) : Int) ∧ ((n : Nat) : Int) ≤ (255 : Nat))) := (decide_eq_true (by omega)).symm
    obtain ⟨W1, hW1⟩ : ∃ W1, W1 = w.alloc (.cells #[.int .u8 5, .int .u8 (n : Nat)] 5) := ⟨_, rfl⟩
    have o1 : Own W1 w.heap.size 5 (.slice (some ⟨w.heap.size, 0, none⟩) 2 2) (nums .u8 [5, n]) := by rw [hW1]; exact own_two w 5 n
    have b1 : Below w.heap.size w W1 := by rw [hW1]; exact (Below.refl _ _).alloc (Nat.le_refl _) _
    have HI : Hid ((zs.take 0).all byB = true ∧ Own W1 w.heap.size 5 (.slice (some ⟨w.heap.size, 0, none⟩) 2 2) (nums .u8 ([5, n] ++ dn (zs.take 0))) ∧ Below w.heap.size w W1) := ⟨rfl, by simpa [dn] using o1, b1⟩
    have HW1 := hide hW1.symm
    have H := hide h
    have hn := h1.2
    have hn1 := h1.1
    have HL := hide hl
    clear h o1 b1 hW1 h1 hl
    go_enter Tryd.func25, Tryd.ntmps25
    go_wp2_with fail
    refine (isCount_at ((n : Nat) : Int) 255 _ true HB1.out).mono ?_
    rintro e wx ⟨rfl, rfl⟩
    go_wp2_with fail
    rw [HW1.out]
    go_loopw [4, 17] (fun o i wr => ∃ k : Nat, k ≤ n ∧ i = .int .i64 k ∧ Hid ((zs.take k).all byB = true ∧ Own wr w.heap.size 5 o (nums .u8 ([5, n] ++ dn (zs.take k))) ∧ Below w.heap.size w wr)) (fun _ i _ => n - (intOf i).toNat)
    case atStart => exact ⟨0, by omega, rfl, HI.out⟩
    case round =>
      obtain ⟨k, hk, rfl, HJ⟩ := hrel
      obtain ⟨i1, i2, i3⟩ := HJ.out
      by_cases hkn : k < n
      · have hd : decide ((k : Int) < (n : Int)) = true := decide_eq_true (by omega)
        have hkl : k < zs.length := by rw [HL.out]; exact hkn
        obtain ⟨xb, xo, rfl, hxl, hcx⟩ := H.out.lies (by omega)
        have e1 : wr.cell? ⟨xb, xo + k, none⟩ = some (.int .i64 (zs.getD k 0)) := (i3.cell (p := ⟨xb, xo + k, none⟩) hxl).trans (hcx k hkn)
        cases hb : byB (zs.getD k 0) with
        | false =>
          have HS : Hid (putGr zs = ([], 2)) := by show _ = _; unfold putGr; rw [if_neg (fun e => by have := e.2; rw [not_all hkl hb] at this; cases this)]
          have HB2 : Hid (false = decide (0 ≤ zs.getD k 0 ∧ zs.getD k 0 ≤ 255)) := hb.symm
          have I3 := hide i3
          generalize zs.getD k 0 = z at e1 HB2
          clear i1 i2 i3 HJ hcx hb hkl
          go_wp2_with fail
          refine (isByte_at z _ false HB2.out).mono ?_
          rintro e w5 ⟨rfl, rfl⟩
          go_wp2_with fail
          go_ret2
          rw [HS.out]
          exact ⟨none, 0, rfl, Src.nilS _, I3.out⟩
        | true =>
          have HB2 : Hid (true = decide (0 ≤ zs.getD k 0 ∧ zs.getD k 0 ≤ 255)) := hb.symm
          have hz := of_decide_eq_true (show decide (0 ≤ zs.getD k 0 ∧ zs.getD k 0 ≤ 255) = true from hb)
          have ht := take_snocI zs k hkl
          have ha := all_snocI zs k hkl
          rw [i1, hb] at ha
          obtain ⟨m, hmz⟩ : ∃ m : Nat, zs.getD k 0 = m := ⟨(zs.getD k 0).toNat, by omega⟩
          rw [hmz] at e1 HB2 ht hz
          have hm256 : m < 256 := by omega
          obtain ⟨v4, w4, a4, o4, b4⟩ := run_app1 i2 m (by simp [dn]; omega) i3.size
          have o4' : Own w4 w.heap.size 5 v4 (nums .u8 ([5, n] ++ dn (zs.take (k + 1)))) := by rw [ht]; simpa [dn] using o4
          have HN : Hid ((zs.take (k + 1)).all byB = true ∧ Own w4 w.heap.size 5 v4 (nums .u8 ([5, n] ++ dn (zs.take (k + 1)))) ∧ Below w.heap.size w w4) := ⟨by rw [ha]; rfl, o4', i3.trans b4⟩
          have A4 := hide a4
          clear i1 i2 i3 HJ hcx hb hkl ht ha a4 o4 o4' b4 hmz hz
          go_wp2_with fail
          refine (isByte_at (m : Int) _ true HB2.out).mono ?_
          rintro e w5 ⟨rfl, rfl⟩
          go_wp2_with (first | (refine wpList_app_run _ rfl _ _ 22 22 rfl _ _ rfl rfl A4.out ?_))
          go_roundw
          case rel => exact ⟨k + 1, by omega, by go_num, HN.out⟩
          case measure => simp [intOf]; omega
      · have hd : decide ((k : Int) < (n : Int)) = false := decide_eq_false (by omega)
        rw [List.take_of_length_le (by rw [HL.out]; omega)] at i1 i2
        have HS : Hid (putGr zs = (putG (dn zs), 0)) := by show _ = _; unfold putGr; rw [if_pos ⟨by rw [HL.out]; omega, i1⟩]
        have e2 : [5, n] ++ dn zs = putG (dn zs) := by unfold putG; rw [dn_length, HL.out]; rfl
        rw [e2] at i2
        have HW := hide (wrote_own i2 (putG_lt i1 (by rw [HL.out]; exact hn)) i3 0)
        clear i1 i2 i3 HJ e2
        go_wp2_with fail
        go_ret2
        rw [HS.out]
        exact HW.out
  · have HB1 : Hid (false = decide (1 ≤ ((n : Nat) : Int) ∧ ((n : Nat) : Int) ≤ (255 : Nat))) := (decide_eq_false (by omega)).symm
    have HS : Hid (putGr zs = ([], 2)) := by show _ = _; unfold putGr; rw [if_neg (by omega)]
    rw [HS.out]
    clear h h1
    go_enter Tryd.func25, Tryd.ntmps25
    go_wp2_with fail
    refine (isCount_at ((n : Nat) : Int) 255 _ false HB1.out).mono ?_
    rintro e wx ⟨rfl, rfl⟩
    go_wp2_with fail
    go_ret2
    exact ⟨none, 0, rfl, Src.nilS _, Below.refl _ _⟩
set_option maxRecDepth 100000 in
set_option maxHeartbeats 2000000 in
theorem rputGreeting_at (a : Option Addr) (n c : Nat) (zs : List Int) (w : World) (h : SrcI w a n c zs) : Calls Tryd.prog 26 #[.slice a n c] w (Wrote (putGr zs) w) := by
  have hl := h.hlen
  have hc := h.hcap
  have hm := h.hmax
  unfold maxLen at hm
  by_cases h1 : 1 ≤ n ∧ n ≤ 255
  · have g1 : decide ((n : Int) < 1) = false := decide_eq_false (by omega)
    have g1' : decide (n < 1) = false := decide_eq_false (by omega)
    have g2 : decide (255 < (n : Int)) = false := decide_eq_false (by omega)
    have g2' : decide (255 < n) = false := decide_eq_false (by omega)
    obtain ⟨W1, hW1⟩ : ∃ W1, W1 = w.alloc (.cells #[.int .u8 5, .int .u8 (n : Nat)] 5) := ⟨_, rfl⟩
    have o1 : Own W1 w.heap.size 5 (.slice (some ⟨w.heap.size, 0, none⟩) 2 2) (nums .u8 [5, n]) := by rw [hW1]; exact own_two w 5 n
    have b1 : Below w.heap.size w W1 := by rw [hW1]; exact (Below.refl _ _).alloc (Nat.le_refl _) _
    have HI : Hid ((zs.take 0).all byB = true ∧ Own W1 w.heap.size 5 (.slice (some ⟨w.heap.size, 0, none⟩) 2 2) (nums .u8 ([5, n] ++ dn (zs.take 0))) ∧ Below w.heap.size w W1) := ⟨rfl, by simpa [dn] using o1, b1⟩
    have HW1 := hide hW1.symm
    have H := hide h
    have hn := h1.2
    have hn1 := h1.1
    have HL := hide hl
    clear h o1 b1 hW1 h1 hl
    go_enter Tryd.func26, Tryd.ntmps26
    go_wp2_with fail
    rw [HW1.out]
    go_loopw [4, 5] (fun o i wr => ∃ k : Nat, k ≤ n ∧ i = .int .i64 k ∧ Hid ((zs.take k).all byB = true ∧ Own wr w.heap.size 5 o (nums .u8 ([5, n] ++ dn (zs.take k))) ∧ Below w.heap.size w wr)) (fun _ i _ => n - (intOf i).toNat)
    case atStart => exact ⟨0, by omega, rfl, HI.out⟩
    case round =>
      obtain ⟨k, hk, rfl, HJ⟩ := hrel
      obtain ⟨i1, i2, i3⟩ := HJ.out
      by_cases hkn : k < n
      · have hd : decide ((k : Int) < (n : Int)) = true := decide_eq_true (by omega)
        have hkl : k < zs.length := by rw [HL.out]; exact hkn
        obtain ⟨xb, xo, rfl, hxl, hcx⟩ := H.out.lies (by omega)
        have e1 : wr.cell? ⟨xb, xo + k, none⟩ = some (.int .i64 (zs.getD k 0)) := (i3.cell (p := ⟨xb, xo + k, none⟩) hxl).trans (hcx k hkn)
        cases hb : byB (zs.getD k 0) with
        | false =>
          have HS : Hid (putGr zs = ([], 2)) := by show _ = _; unfold putGr; rw [if_neg (fun e => by have := e.2; rw [not_all hkl hb] at this; cases this)]
          have HB2 : Hid (false = decide (0 ≤ zs.getD k 0 ∧ zs.getD k 0 ≤ 255)) := hb.symm
          have I3 := hide i3
          generalize zs.getD k 0 = z at e1 HB2
          clear i1 i2 i3 HJ hcx hb hkl
          go_wp2_with fail
          refine (small_at z _ false HB2.out).mono ?_
          rintro e w5 ⟨rfl, rfl⟩
          go_wp2_with fail
          go_ret2
          rw [HS.out]
          exact ⟨none, 0, rfl, Src.nilS _, I3.out⟩
        | true =>
          have HB2 : Hid (true = decide (0 ≤ zs.getD k 0 ∧ zs.getD k 0 ≤ 255)) := hb.symm
          have hz := of_decide_eq_true (show decide (0 ≤ zs.getD k 0 ∧ zs.getD k 0 ≤ 255) = true from hb)
          have ht := take_snocI zs k hkl
          have ha := all_snocI zs k hkl
          rw [i1, hb] at ha
          obtain ⟨m, hmz⟩ : ∃ m : Nat, zs.getD k 0 = m := ⟨(zs.getD k 0).toNat, by omega⟩
          rw [hmz] at e1 HB2 ht hz
          have hm256 : m < 256 := by omega
          obtain ⟨v4, w4, a4, o4, b4⟩ := run_app1 i2 m (by simp [dn]; omega) i3.size
          have o4' : Own w4 w.heap.size 5 v4 (nums .u8 ([5, n] ++ dn (zs.take (k + 1)))) := by rw [ht]; simpa [dn] using o4
          have HN : Hid ((zs.take (k + 1)).all byB = true ∧ Own w4 w.heap.size 5 v4 (nums .u8 ([5, n] ++ dn (zs.take (k + 1)))) ∧ Below w.heap.size w w4) := ⟨by rw [ha]; rfl, o4', i3.trans b4⟩
          have A4 := hide a4
          clear i1 i2 i3 HJ hcx hb hkl ht ha a4 o4 o4' b4 hmz hz
          go_wp2_with fail
          refine (small_at (m : Int) _ true HB2.out).mono ?_
          rintro e w5 ⟨rfl, rfl⟩
          go_wp2_with (first | (refine wpList_app_run _ rfl _ _ 22 22 rfl _ _ rfl rfl A4.out ?_))
          go_roundw
          case rel => exact ⟨k + 1, by omega, by go_num, HN.out⟩
          case measure => simp [intOf]; omega
      · have hd : decide ((k : Int) < (n : Int)) = false := decide_eq_false (by omega)
        rw [List.take_of_length_le (by rw [HL.out]; omega)] at i1 i2
        have HS : Hid (putGr zs = (putG (dn zs), 0)) := by show _ = _; unfold putGr; rw [if_pos ⟨by rw [HL.out]; omega, i1⟩]
        have e2 : [5, n] ++ dn zs = putG (dn zs) := by unfold putG; rw [dn_length, HL.out]; rfl
        rw [e2] at i2
        have HW := hide (wrote_own i2 (putG_lt i1 (by rw [HL.out]; exact hn)) i3 0)
        clear i1 i2 i3 HJ e2
        go_wp2_with fail
        go_ret2
        rw [HS.out]
        exact HW.out
  · have HS : Hid (putGr zs = ([], 2)) := by show _ = _; unfold putGr; rw [if_neg (by omega)]
    rw [HS.out]
    by_cases h0 : n < 1
    · have g1 : decide ((n : Int) < 1) = true := decide_eq_true (by omega)
      have g1' : decide (n < 1) = true := decide_eq_true h0
      clear h h1
      go_enter Tryd.func26, Tryd.ntmps26
      go_wp2_with fail
      go_ret2
      exact ⟨none, 0, rfl, Src.nilS _, Below.refl _ _⟩
    · have g1 : decide ((n : Int) < 1) = false := decide_eq_false (by omega)
      have g1' : decide (n < 1) = false := decide_eq_false h0
      have g2 : decide (255 < (n : Int)) = true := decide_eq_true (by omega)
      have g2' : decide (255 < n) = true := decide_eq_true (by omega)
      clear h h1
      go_enter Tryd.func26, Tryd.ntmps26
      go_wp2_with fail
      go_ret2
      exact ⟨none, 0, rfl, Src.nilS _, Below.refl _ _⟩
end Go.Proofs.YtefgjmijbedbkaaDoor
