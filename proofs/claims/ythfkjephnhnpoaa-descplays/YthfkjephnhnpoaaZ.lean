/-
  The reference table's Open, New and Live, and 'same' of the statements' package; conditions as each theorem has them.
-/
import Derived.Test.YthfkjephnhnpoaaY
set_option linter.unusedSimpArgs false
set_option linter.unusedVariables false
namespace Go.Proofs.Ythfkjephnhnpoaa
open Go.RowKit

set_option maxHeartbeats 1000000 in
theorem ropen_full (y b : Nat) (es : List En) (k n : Int) (w : World) (h : RT w y b es) (hf : lst es = es.length) :
    Calls Try.prog 28 #[.pointer (some ⟨y, 0, none⟩), .int .i64 k, .int .i64 n] w fun x w' => x = .returned (.tuple #[hnd 0 0, .int .i64 4]) ∧ Below w.heap.size w w' := by
  obtain ⟨a, cap, hc⟩ := h.head
  obtain ⟨N, hN⟩ : ∃ N, N = es.length := ⟨_, rfl⟩
  have hl := h.lt
  have hm := h.max
  rw [← hN] at hc hm hf
  have hc' := alloc_cell hc (boxH 0 0)
  have H := hide h
  have HF := hide hf
  have HN := hide hN
  clear h hf hN
  go_enter Try.func28, Try.ntmps28
  go_wp2_with fail
  go_loopw [8] (fun i wr => ∃ j : Nat, j ≤ N ∧ i = .int .i64 j ∧ Hid (wr = w.alloc (boxH 0 0))) (fun i _ => N - (intOf i).toNat)
  case atStart => exact ⟨0, Nat.zero_le _, rfl, rfl⟩
  case round =>
    obtain ⟨j, hj, rfl, HW⟩ := hrel
    have hw := HW.out
    subst hw
    by_cases hlt : j < N
    · obtain ⟨e, he⟩ := get_lt (show j < es.length by rw [← HN.out]; exact hlt)
      have hst := lst_held es j e (by rw [HF.out]; exact hlt) he
      obtain ⟨cap2, rest, r⟩ := (H.out.alloc (boxH 0 0)).get he
      have hc2 := yhd_cell r.head
      rw [← HN.out, hc'] at hc2
      simp only [Option.some.injEq, Value.slice.injEq, true_and] at hc2
      obtain ⟨e1, e2⟩ := hc2
      subst e1 e2
      obtain ⟨d0, d1, _⟩ := r.cells he
      have h3 := (H.out.ok j e he).st
      have h4 : e.st = 1 ∨ e.st = 2 := by omega
      clear he r hst h3
      rcases h4 with h4 | h4
      · rw [show decide (e.st = 1) = true by simp [h4]] at d0
        rw [show decide (e.st = 2) = false by simp [h4]] at d1
        go_wp2_with fail
        go_roundw
        case rel => exact ⟨j + 1, by omega, by go_num, trivial⟩
        case measure => simp [intOf]; omega
      · rw [show decide (e.st = 1) = false by simp [h4]] at d0
        rw [show decide (e.st = 2) = true by simp [h4]] at d1
        go_wp2_with fail
        go_roundw
        case rel => exact ⟨j + 1, by omega, by go_num, trivial⟩
        case measure => simp [intOf]; omega
    · obtain rfl : j = N := by omega
      go_wp2_with fail
      go_returns
      exact ⟨rfl, (Below.refl _ _).alloc (Nat.le_refl _) _⟩

set_option maxHeartbeats 2000000 in
theorem ropen_ok (y b : Nat) (es : List En) (i : Nat) (e : En) (k n : Int) (w : World) (h : RT w y b es) (hf : lst es = i) (he : es[i]? = some e) :
    Calls Try.prog 28 #[.pointer (some ⟨y, 0, none⟩), .int .i64 k, .int .i64 n] w fun x w' => x = .returned (.tuple #[hnd i e.gen, .int .i64 0]) ∧ RT w' y b (es.set i { e with st := 1, k := k, n := n }) ∧ Kept b b w w' := by
  obtain ⟨cap, rest, r⟩ := (h.alloc (boxH 0 0)).get he
  have hc' := yhd_cell r.head
  obtain ⟨N, hN⟩ : ∃ N, N = es.length := ⟨_, rfl⟩
  have hl := h.lt
  have hm := h.max
  have hi := (List.getElem?_eq_some_iff.1 he).1
  rw [← hN] at hc' hm hi
  have H := hide h
  have HR := hide r
  have HF := hide hf
  have HN := hide hN
  have HE := hide he
  have n1 : ¬ y = b := r.ne
  have n2 : ¬ b = y := Ne.symm r.ne
  have n3 : ¬ b = w.heap.size := by omega
  have n4 : ¬ w.heap.size = b := by omega
  have n5 : ¬ y = w.heap.size := by omega
  have n6 : ¬ w.heap.size = y := by omega
  clear h hf hN he r
  go_enter Try.func28, Try.ntmps28
  go_wp2_with fail
  go_loopw [8] (fun v wr => ∃ j : Nat, j ≤ i ∧ v = .int .i64 j ∧ Hid (wr = w.alloc (boxH 0 0))) (fun v _ => N - (intOf v).toNat)
  case atStart => exact ⟨0, Nat.zero_le _, rfl, rfl⟩
  case round =>
    obtain ⟨j, hj, rfl, HW⟩ := hrel
    have hw := HW.out
    subst hw
    by_cases hlt : j < i
    · obtain ⟨a, ha⟩ := get_lt (show j < es.length by rw [← HN.out]; omega)
      have hst := lst_held es j a (by rw [HF.out]; exact hlt) ha
      obtain ⟨d0, d1, _⟩ := HR.out.cells ha
      have h3 := (H.out.ok j a ha).st
      have h4 : a.st = 1 ∨ a.st = 2 := by omega
      clear ha hst h3
      rcases h4 with h4 | h4
      · rw [show decide (a.st = 1) = true by simp [h4]] at d0
        rw [show decide (a.st = 2) = false by simp [h4]] at d1
        go_wp2_with fail
        go_roundw
        case rel => exact ⟨j + 1, by omega, by go_num, trivial⟩
        case measure => simp [intOf]; omega
      · rw [show decide (a.st = 1) = false by simp [h4]] at d0
        rw [show decide (a.st = 2) = true by simp [h4]] at d1
        go_wp2_with fail
        go_roundw
        case rel => exact ⟨j + 1, by omega, by go_num, trivial⟩
        case measure => simp [intOf]; omega
    · obtain rfl : j = i := by omega
      have hst := lst_free es e (by rw [HF.out]; exact HE.out)
      obtain ⟨d0, d1, d2, d3, d4⟩ := HR.out.cells HE.out
      rw [show decide (e.st = 1) = false by simp [hst]] at d0
      rw [show decide (e.st = 2) = false by simp [hst]] at d1
      have f0 := HR.out.frozen (j * 5)
      have f3 := HR.out.frozen (j * 5 + 3)
      have f4 := HR.out.frozen (j * 5 + 4)
      have HST := hide hst
      clear hst hlt hj
      obtain ⟨W0, hW0⟩ : ∃ W0, W0 = w.alloc (boxH 0 0) := ⟨_, rfl⟩
      rw [← hW0] at hc' d0 d1 d2 d3 d4 f0 f3 f4 HR ⊢
      have bx : Box W0 w.heap.size 0 0 := by rw [hW0]; exact box_new _ _ _
      obtain ⟨x0, x1⟩ := bx.cells
      have xf0 := bx.frozen 0
      have xf1 := bx.frozen 1
      have HT0 : Hid (RT W0 y b es) := by rw [hW0]; exact H.out.alloc _
      have HB0 : Hid (Below w.heap.size w W0) := by rw [hW0]; exact (Below.refl _ _).alloc (Nat.le_refl _) _
      have BX := hide bx
      clear bx hW0
      go_wp2_with fail
      go_region_held3 (fun w' => w'.cell? ⟨y, 0, none⟩ = some (.slice (some ⟨b, 0, none⟩) N cap)) (go_keep) (fail)
      go_wp2_with fail
      obtain ⟨W3, hW3⟩ : ∃ W3, W3 = ((W0.setCell ⟨b, j * 5, none⟩ (.bool true)).setCell ⟨b, j * 5 + 3, none⟩ (.int .i64 k)).setCell ⟨b, j * 5 + 4, none⟩ (.int .i64 n) := ⟨_, rfl⟩
      rw [← hW3]
      have r0 : RRow W0 b (flat5 es) rest := HR.out.row
      have hjl : j < es.length := by rw [← HN.out]; exact hi
      have r3 := ((r0.set (j * 5) (.bool true) (by rw [flat5_length]; omega)).set (j * 5 + 3) (.int .i64 k) (by simp only [List.length_set, flat5_length]; omega)).set (j * 5 + 4) (.int .i64 n) (by simp only [List.length_set, flat5_length]; omega)
      rw [flat5_set0 es j e HE.out HST.out, flat5_set3 _ j _ k (set_at HE.out _), flat5_set4 _ j _ n (set_at (set_at HE.out _) _), List.set_set, List.set_set, ← hW3] at r3
      have k3 : Kept b b W0 W3 := by rw [hW3]; exact (((Kept.refl b b W0).set _ _).set _ _).set _ _
      have b3 : Box W3 w.heap.size 0 0 := BX.out.kept k3 n4
      have hy3 : W3.heap[y]? = W0.heap[y]? := k3.block y HT0.out.lt.1 n1 n1
      clear hW3 r0
      have hbox := box_set b3 j e.gen
      refine bodyPost_ret (res_cell_tmp rfl _ _ w.heap.size 32 #[.int .i64 (j : Nat), .int .i64 (e.gen : Nat)] (0, 0) _ rfl hbox Try.underlying32 rfl info32) rfl ?_
      have hk0 := H.out.ok j e HE.out
      refine ⟨rfl, HT0.out.put HR.out j { e with st := 1, k := k, n := n } ⟨(show (1 : Nat) < 3 by decide), hk0.one, hk0.top, fun _ => hk0.last (by rw [HST.out]; decide)⟩ ?_ ?_, ?_⟩
      · exact ((Below.heap_setCell _ _ _ _ n5).trans (Below.heap_setCell _ _ _ _ n5)).trans hy3
      · exact ((Below.heap_setCell _ _ _ _ n3).trans (Below.heap_setCell _ _ _ _ n3)).trans r3
      · exact (kept_over (kept_over (kept_new HB0.out k3) _ (Nat.le_refl _) _ _) _ (Nat.le_refl _) _ _).drew

end Go.Proofs.Ythfkjephnhnpoaa
