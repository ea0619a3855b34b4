/-
  The leaf functions of package desc; conditions as each theorem has them.
-/
import Derived.Test.YthfkjephnhnpoaaA
set_option linter.unusedSimpArgs false
set_option linter.unusedVariables false
namespace Go.Proofs.Ythfkjephnhnpoaa
open Go.RowKit

set_option maxHeartbeats 400000 in
theorem isMade_at (r : Nat) (b : Bool) (w : World) (h : w.cell? ⟨r, 0, none⟩ = some (.bool b)) : Calls Try.prog 23 #[.pointer (some ⟨r, 0, none⟩)] w fun e w' => e = .returned (.bool b) ∧ w = w' := by
  go_enter Try.func23, Try.ntmps23
  go_wp2
  go_ret
  exact ⟨rfl, rfl⟩

abbrev hnd (i : Int) (g : Int) : Value := .agg #[.int .i64 i, .int .i64 g]

set_option maxHeartbeats 400000 in
theorem handle_at (r g n i : Nat) (e : En) (w : World) (h1 : w.cell? ⟨r, 1, none⟩ = some (.slice (some ⟨g, 0, none⟩) n n)) (hi : i < n) (hn : n ≤ 4096) (h2 : w.cell? ⟨g, i * 4 + 1, none⟩ = some (.int .i64 (e.gen : Nat))) :
    Calls Try.prog 27 #[.pointer (some ⟨r, 0, none⟩), .int .i64 i] w fun x w' => x = .returned (hnd i e.gen) ∧ w' = w.alloc (.cells #[.int .i64 i, .int .i64 (e.gen : Nat)] 32) := by
  have hr := lt_of_cell h1
  have hg := lt_of_cell h2
  go_enter Try.func27, Try.ntmps27
  go_wp2
  go_returns
  exact ⟨rfl, rfl⟩

set_option maxHeartbeats 400000 in
theorem has_in (r g n i : Nat) (w : World) (h1 : w.cell? ⟨r, 1, none⟩ = some (.slice (some ⟨g, 0, none⟩) n n)) (hi : i < n) (hn : n ≤ 4096) :
    Calls Try.prog 33 #[.pointer (some ⟨r, 0, none⟩), .int .i64 i] w fun x w' => x = .returned (.bool true) ∧ w = w' := by
  go_enter Try.func33, Try.ntmps33
  go_wp2
  go_ret
  exact ⟨rfl, rfl⟩

set_option maxHeartbeats 400000 in
theorem has_out (r g n : Nat) (i : Int) (w : World) (h1 : w.cell? ⟨r, 1, none⟩ = some (.slice (some ⟨g, 0, none⟩) n n)) (hi : i < 0 ∨ (n : Int) ≤ i) (hn : n ≤ 4096) :
    Calls Try.prog 33 #[.pointer (some ⟨r, 0, none⟩), .int .i64 i] w fun x w' => x = .returned (.bool false) ∧ w = w' := by
  by_cases h : i < 0
  · go_enter Try.func33, Try.ntmps33
    go_wp2
    go_ret
    exact ⟨rfl, rfl⟩
  · have h2 : (n : Int) ≤ i := by omega
    have hd : decide (i < (n : Int)) = false := by simp; omega
    have HD := hide hd
    clear hd
    go_enter Try.func33, Try.ntmps33
    go_wp2
    go_ret
    exact ⟨by rw [← HD.out]; rfl, rfl⟩

theorem alloc_cell {w : World} {a : Addr} {v : Value} (h : w.cell? a = some v) (o : Obj) : (w.alloc o).cell? a = some v := by
  rw [World.cell?_of_block (w := w) (Below.heap_alloc _ _ _ (lt_of_cell h))]; exact h

theorem alloc_cellD {w : World} {a : Addr} {v : Value} (h : w.cell? a = some v) (o : Obj) (n : Nat) : ((w.alloc o).drewN n).cell? a = some v := alloc_cell h o

abbrev boxH (x y : Int) : Obj := .cells #[.int .i64 x, .int .i64 y] 32

set_option maxHeartbeats 400000 in
theorem find_out (r g : Nat) (es : List En) (x y : Int) (w : World) (h : IsTab w r g es) (hx : x < 0 ∨ (es.length : Int) ≤ x) :
    Calls Try.prog 24 #[.pointer (some ⟨r, 0, none⟩), hnd x y] w fun e w' => e = .returned (.tuple #[.pointer none, .int .i64 5]) ∧ Below w.heap.size w w' := by
  obtain ⟨c0, c1⟩ := thd_cells h.head
  have hr := h.lt.1
  have hm := h.max
  have H := hide h
  clear h

  go_enter Try.func24, Try.ntmps24
  go_wp2_with fail
  refine (isMade_at r true _ (alloc_cell c0 _)).mono ?_
  rintro e w1 ⟨rfl, rfl⟩
  go_wp2_with fail
  refine (has_out r g es.length x _ (alloc_cell c1 _) hx hm).mono ?_
  rintro e w1 ⟨rfl, rfl⟩
  go_wp2_with fail
  go_ret2
  exact ⟨rfl, (Below.refl _ _).alloc (Nat.le_refl _) _⟩

set_option maxHeartbeats 400000 in
theorem find_ok (r g : Nat) (es : List En) (i : Nat) (e : En) (w : World) (h : IsTab w r g es) (he : es[i]? = some e) (hs : e.st = 1) :
    Calls Try.prog 24 #[.pointer (some ⟨r, 0, none⟩), hnd i e.gen] w fun x w' => x = .returned (.tuple #[.pointer (some ⟨g, i * 4, none⟩), .int .i64 0]) ∧ Below w.heap.size w w' := by
  obtain ⟨c0, c1⟩ := thd_cells h.head
  obtain ⟨d0, d1, d2, d3⟩ := h.row.cells he
  rw [hs] at d0
  have hr := h.lt.1
  have hg := h.lt.2
  have hm := h.max
  have hi := (List.getElem?_eq_some_iff.1 he).1
  have h1 := (h.ok i e he).one
  have h2 := (h.ok i e he).top
  have H := hide h
  clear h

  go_enter Try.func24, Try.ntmps24
  go_wp2_with fail
  refine (isMade_at r true _ (alloc_cell c0 _)).mono ?_
  rintro e w1 ⟨rfl, rfl⟩
  go_wp2_with fail
  refine (has_in r g es.length i _ (alloc_cell c1 _) hi hm).mono ?_
  rintro e w1 ⟨rfl, rfl⟩
  go_wp2_with fail
  go_quiet (fail)
  go_wp2_with fail
  go_region_with (go_at_call 27; refine (handle_at r g es.length i e _ (alloc_cellD c1 _ _) hi hm (alloc_cellD d1 _ _)).mono ?_; rintro e w1 ⟨rfl, rfl⟩)
  all_goals
    go_wp2_with fail
    go_ret2
    exact ⟨rfl, (below_drewN ((Below.refl _ _).alloc (Nat.le_refl _) _) _).alloc (by simp) _⟩

set_option maxHeartbeats 400000 in
theorem find_low (r g : Nat) (es : List En) (i : Nat) (e : En) (y : Int) (w : World) (h : IsTab w r g es) (he : es[i]? = some e) (hy : y < 1) :
    Calls Try.prog 24 #[.pointer (some ⟨r, 0, none⟩), hnd i y] w fun x w' => x = .returned (.tuple #[.pointer none, .int .i64 5]) ∧ Below w.heap.size w w' := by
  obtain ⟨c0, c1⟩ := thd_cells h.head
  have hr := h.lt.1
  have hm := h.max
  have hi := (List.getElem?_eq_some_iff.1 he).1
  clear h
  go_enter Try.func24, Try.ntmps24
  go_wp2_with fail
  refine (isMade_at r true _ (alloc_cell c0 _)).mono ?_
  rintro e w1 ⟨rfl, rfl⟩
  go_wp2_with fail
  refine (has_in r g es.length i _ (alloc_cell c1 _) hi hm).mono ?_
  rintro e w1 ⟨rfl, rfl⟩
  go_wp2_with fail
  go_ret2
  exact ⟨rfl, (Below.refl _ _).alloc (Nat.le_refl _) _⟩

set_option maxHeartbeats 1000000 in
theorem find_open (r g : Nat) (es : List En) (i : Nat) (e : En) (y : Int) (w : World) (h : IsTab w r g es) (he : es[i]? = some e) (hy : 1 ≤ y) (hs : e.st = 1) (hne : ¬ y = e.gen) :
    Calls Try.prog 24 #[.pointer (some ⟨r, 0, none⟩), hnd i y] w fun x w' => x = .returned (.tuple #[.pointer none, .int .i64 (if y < e.gen then 30 else 5)]) ∧ Below w.heap.size w w' := by
  obtain ⟨c0, c1⟩ := thd_cells h.head
  obtain ⟨d0, d1, d2, d3⟩ := h.row.cells he
  rw [hs] at d0
  have hr := h.lt.1
  have hg := h.lt.2
  have hm := h.max
  have hi := (List.getElem?_eq_some_iff.1 he).1
  have h1 := (h.ok i e he).one
  have h2 := (h.ok i e he).top
  have HN := hide hne
  clear h
  by_cases hlt : y < e.gen
  all_goals
    have hlt' := hlt
    rw [show (if y < (e.gen : Int) then (30 : Int) else 5) = _ by first | exact if_pos hlt | exact if_neg hlt]
    go_enter Try.func24, Try.ntmps24
    go_wp2_with fail
    refine (isMade_at r true _ (alloc_cell c0 _)).mono ?_
    rintro e w1 ⟨rfl, rfl⟩
    go_wp2_with fail
    refine (has_in r g es.length i _ (alloc_cell c1 _) hi hm).mono ?_
    rintro e w1 ⟨rfl, rfl⟩
    go_wp2_with fail
    go_quiet (fail)
    go_wp2_with fail
    go_region_with (go_at_call 27; refine (handle_at r g es.length i e _ (alloc_cellD c1 _ _) hi hm (alloc_cellD d1 _ _)).mono ?_; rintro e w1 ⟨rfl, rfl⟩)
    all_goals
      go_wp2_with fail
      go_quiet (fail)
      go_wp2_with fail
      go_ret2
      exact ⟨rfl, below_drewN ((below_drewN ((Below.refl _ _).alloc (Nat.le_refl _) _) _).alloc (by simp) _) _⟩

set_option maxHeartbeats 1000000 in
theorem find_shut (r g : Nat) (es : List En) (i : Nat) (e : En) (y : Int) (w : World) (h : IsTab w r g es) (he : es[i]? = some e) (hy : 1 ≤ y) (hs : e.st ≠ 1) :
    Calls Try.prog 24 #[.pointer (some ⟨r, 0, none⟩), hnd i y] w fun x w' => x = .returned (.tuple #[.pointer none, .int .i64 (if y < e.gen then 30 else 5)]) ∧ Below w.heap.size w w' := by
  obtain ⟨c0, c1⟩ := thd_cells h.head
  obtain ⟨d0, d1, d2, d3⟩ := h.row.cells he
  have hr := h.lt.1
  have hg := h.lt.2
  have hm := h.max
  have hi := (List.getElem?_eq_some_iff.1 he).1
  have h1 := (h.ok i e he).one
  have h2 := (h.ok i e he).top
  have h3 := (h.ok i e he).st
  have h4 : e.st = 0 ∨ e.st = 2 := by omega
  clear h hs h3
  by_cases hlt : y < e.gen
  all_goals
    rw [show (if y < (e.gen : Int) then (30 : Int) else 5) = _ by first | exact if_pos hlt | exact if_neg hlt]
    rcases h4 with h4 | h4
    all_goals
      rw [h4] at d0
      go_enter Try.func24, Try.ntmps24
      go_wp2_with fail
      refine (isMade_at r true _ (alloc_cell c0 _)).mono ?_
      rintro e w1 ⟨rfl, rfl⟩
      go_wp2_with fail
      refine (has_in r g es.length i _ (alloc_cell c1 _) hi hm).mono ?_
      rintro e w1 ⟨rfl, rfl⟩
      go_wp2_with fail
      go_quiet (fail)
      go_wp2_with fail
      go_quiet (fail)
      go_wp2_with fail
      go_ret2
      exact ⟨rfl, below_drewN (below_drewN ((Below.refl _ _).alloc (Nat.le_refl _) _) _) _⟩

end Go.Proofs.Ythfkjephnhnpoaa
