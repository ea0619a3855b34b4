/-
  ownAhead and ownInFrame of package sched; conditions as each theorem has them.
-/
import Derived.Test.YtidalhdhaagpaaaF
import Derived.Shelf.Abstract
set_option linter.unusedSimpArgs false
set_option linter.unusedVariables false
namespace Go.Proofs.Ytidalhdhaagpaaa
open Go.RowKit

abbrev boxI (x : Int) : Obj := .cells #[.int .i64 x] 3
theorem boxI_cell {w : World} {b : Nat} {x : Int} (h : w.heap[b]? = some (boxI x)) : w.cell? ⟨b, 0, none⟩ = some (.int .i64 x) := by simp [World.cell?, h]
theorem boxI_set {w : World} {b : Nat} {x : Int} (h : w.heap[b]? = some (boxI x)) (y : Int) : (w.setCell ⟨b, 0, none⟩ (.int .i64 y)).heap[b]? = some (boxI y) := by
  rw [heap_setCell_same h]
  rfl
theorem set_other {w : World} {b g : Nat} {x : Obj} (h : w.heap[b]? = some x) (hg : b ≠ g) (o : Nat) (v : Value) : (w.setCell ⟨g, o, none⟩ v).heap[b]? = some x := by
  rw [Below.heap_setCell _ _ _ _ (by simp; omega)]; exact h

set_option maxHeartbeats 400000 in
theorem ahead_go (j e c pe pc : Nat) (w : World) (he : w.heap[pe]? = some (boxI e)) (hc : w.heap[pc]? = some (boxI c)) (hj : j < e) (hcm : c ≤ 1000) :
    Calls Try.prog 38 #[.int .i64 j, .pointer (some ⟨pe, 0, none⟩), .pointer (some ⟨pc, 0, none⟩)] w fun x w' => x = .returned (.bool true) ∧ w' = w.setCell ⟨pc, 0, none⟩ (.int .i64 (c + 1 : Nat)) := by
  have c0 := boxI_cell he
  have c1 := boxI_cell hc
  have f1 := cells_frozen hc 0
  have e1 : decide ((e : Int) ≤ j) = false := by simp; omega
  have e1' : decide (e ≤ j) = false := by simp; omega
  clear he hc
  go_enter Try.func38, Try.ntmps38
  go_wp2
  go_ret
  exact ⟨rfl, rfl⟩

set_option maxHeartbeats 400000 in
theorem ahead_stop (j e pe pc : Nat) (w : World) (he : w.heap[pe]? = some (boxI e)) (hj : e ≤ j) :
    Calls Try.prog 38 #[.int .i64 j, .pointer (some ⟨pe, 0, none⟩), .pointer (some ⟨pc, 0, none⟩)] w fun x w' => x = .returned (.bool false) ∧ w = w' := by
  have c0 := boxI_cell he
  have e1 : decide ((e : Int) ≤ j) = true := by simp; omega
  have e1' : decide (e ≤ j) = true := by simp; omega
  clear he
  go_enter Try.func38, Try.ntmps38
  go_wp2
  go_ret
  exact ⟨rfl, rfl⟩

theorem enters38 : ∀ (args : Array Value) (w : World), (callFunc 38 args).run Try.prog w = .ok (.enter 38 args) w := Go.Proofs.enters_of Try.func38 (by kernel_rfl) rfl

structure AheadI (T : List (Int × Int)) (t : Int) (e : Nat) (w : World) (j : Nat) (wx : World) : Prop where
  be : wx.heap[w.heap.size]? = some (boxI e)
  bc : wx.heap[w.heap.size + 1]? = some (boxI (C T t (min j e)))
  bel : Below w.heap.size w wx

theorem ahead_visits (T : List (Int × Int)) (t : Int) (b o n e : Nat) (w : World) (h : Tab w (some ⟨b, o, none⟩) b o n T) (hg : Good T) (he : e ≤ 2 * n) :
    Visits T t b o n 38 #[.pointer (some ⟨w.heap.size, 0, none⟩), .pointer (some ⟨w.heap.size + 1, 0, none⟩)] (AheadI T t e w) (fun wx => wx.heap[w.heap.size + 1]? = some (boxI (C T t e)) ∧ Below w.heap.size w wx) where
  len := h.len
  pos := by have := hg.pos; rw [h.len] at this; exact this
  max := by have := hg.max; rw [h.len] at this; exact this
  tab := fun j wx i => h.below i.bel
  alloc := fun j wx x i => ⟨alloc_old _ i.be, alloc_old _ i.bc, Below.alw i.bel _⟩
  skip := fun j wx hn i => ⟨i.be, by
    have := i.bc
    rcases Nat.lt_or_ge j e with hl | hl
    · rw [Nat.min_eq_left (by omega)] at this
      rw [Nat.min_eq_left (by omega), C_not hn]; exact this
    · rw [Nat.min_eq_right (by omega)] at this
      rw [Nat.min_eq_right (by omega)]; exact this, i.bel⟩
  visit := fun j wx hj ho i => by
    have hmax := hg.max
    rw [h.len] at hmax
    rcases Nat.lt_or_ge j e with hl | hl
    · have hbc := i.bc
      rw [Nat.min_eq_left (by omega)] at hbc
      refine (ahead_go j e (C T t j) w.heap.size (w.heap.size + 1) wx i.be hbc hl (by have := C_le T t j; omega)).mono ?_
      rintro x w2 ⟨rfl, rfl⟩
      refine Or.inl ⟨rfl, set_other i.be (by omega) _ _, ?_, below_set i.bel (by omega) _ _⟩
      rw [Nat.min_eq_left (by omega), C_own ho]
      exact boxI_set hbc _
    · refine (ahead_stop j e w.heap.size (w.heap.size + 1) wx i.be hl).mono ?_
      rintro x w2 ⟨rfl, rfl⟩
      have hbc := i.bc
      rw [Nat.min_eq_right (by omega)] at hbc
      exact Or.inr ⟨rfl, hbc, i.bel⟩
  fin := fun wx i => by
    have hbc := i.bc
    rw [Nat.min_eq_right (by omega)] at hbc
    exact ⟨hbc, i.bel⟩

set_option maxHeartbeats 1000000 in
theorem ahead_at (T : List (Int × Int)) (t : Int) (b o n cp e : Nat) (w : World) (h : Tab w (some ⟨b, o, none⟩) b o n T) (hg : Good T) (he : e ≤ 2 * n) :
    Calls Try.prog 31 #[.slice (some ⟨b, o, none⟩) n cp, .int .i64 t, .int .i64 e] w fun x w' => x = .returned (.int .i64 (C T t e)) ∧ Below w.heap.size w w' := by
  have hmf : ∀ (fn : Fn) (first cap : Array Value) (w : World), (Instr.makeFunc fn first cap).run Try.prog w = .ok (.func fn first cap) w := fun _ _ _ _ => rfl
  have HR := hide (round_at T t b o n cp 38 _ _ _ (ahead_visits T t b o n e w h hg he) ((w.alloc (boxI e)).alloc (boxI 0)) ⟨alloc_old _ (alloc_new _ _), by
    have := alloc_new (w.alloc (boxI e)) (boxI 0)
    simpa [C] using this, Below.alw (Below.alw (Below.refl _ _) _) _⟩ enters38)
  clear h hg
  go_enter Try.func31, Try.ntmps31
  go_wp2_with fail
  refine HR.out.mono ?_
  rintro x w2 ⟨rfl, hbc, hb⟩
  have c0 := boxI_cell hbc
  have HB := hide hb
  clear hbc hb HR
  go_wp2_with fail
  go_ret
  exact ⟨rfl, HB.out⟩

set_option maxHeartbeats 1000000 in
theorem inFrame_at (T : List (Int × Int)) (t : Int) (b o n cp : Nat) (w : World) (h : Tab w (some ⟨b, o, none⟩) b o n T) (hg : Good T) :
    Calls Try.prog 30 #[.slice (some ⟨b, o, none⟩) n cp, .int .i64 t] w fun x w' => x = .returned (.int .i64 (C T t n)) ∧ Below w.heap.size w w' := by
  have HR := hide (ahead_at T t b o n cp n w h hg (by omega))
  clear h hg
  go_enter Try.func30, Try.ntmps30
  go_wp2_with fail
  refine HR.out.mono ?_
  rintro x w2 ⟨rfl, hb⟩
  have HB := hide hb
  clear hb HR
  go_wp2_with fail
  go_ret
  exact ⟨rfl, HB.out⟩

end Go.Proofs.Ytidalhdhaagpaaa
