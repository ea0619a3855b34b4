/-
  What stays of the memory, and a table of slots as it lies in memory; conditions as each theorem has them.
-/
import Derived.Test.YtidalhdhaagpaaaM
import Derived.WalkKit
import Derived.WalkSpells
import Derived.WalkLawsBesides
import Derived.BigQuiet
import Derived.Deep.RegionHeld3
import Derived.Deep.OwnRows
import Derived.Lib.SliceRun
import Derived.Handy
import Derived.Laws.Rows
import Derived.Laws.ResultCell
import Derived.OwnWalk
set_option linter.unusedSimpArgs false
set_option linter.unusedVariables false
namespace Go.Proofs.Ytidalhdhaagpaaa
open Go.RowKit

theorem hide {p : Prop} (h : p) : Hid p := h

theorem add_none (b o j : Nat) : (⟨b, o, none⟩ : Addr).add j = ⟨b, o + j, none⟩ := by unfold Addr.add; split <;> simp_all
theorem lt_of_some {w : World} {r : Nat} {o : Obj} (h : w.heap[r]? = some o) : r < w.heap.size := (Array.getElem?_eq_some_iff.1 h).1
theorem heap_setCell_same {w : World} {r : Nat} {C : Array Value} {t : TypeId} (h : w.heap[r]? = some (.cells C t)) (o : Nat) (v : Value) : (w.setCell ⟨r, o, none⟩ v).heap[r]? = some (.cells (C.setIfInBounds o v) t) := by
  simp [World.setCell, Array.getElem?_modify, h]
theorem alloc_new (w : World) (o : Obj) : (w.alloc o).heap[w.heap.size]? = some o := by
  show (w.heap.push o)[w.heap.size]? = _
  simp
theorem alloc_old {w : World} {g : Nat} {x : Obj} (o : Obj) (h : w.heap[g]? = some x) : (w.alloc o).heap[g]? = some x := by
  rw [Below.heap_alloc _ _ _ (lt_of_some h)]; exact h
theorem lt_of_cell {w : World} {a : Addr} {v : Value} (h : w.cell? a = some v) : a.block < w.heap.size := by
  unfold World.cell? at h
  cases e : w.heap[a.block]? with
  | none => simp [e] at h
  | some x => exact lt_of_some e
theorem alloc_cell {w : World} {a : Addr} {v : Value} (h : w.cell? a = some v) (o : Obj) : (w.alloc o).cell? a = some v := by
  rw [World.cell?_of_block (w := w) (Below.heap_alloc _ _ _ (lt_of_cell h))]; exact h
theorem below_drewN {B : Nat} {w w' : World} (h : Below B w w') (n : Nat) : Below B w (w'.drewN n) := ⟨h.os, h.tape, h.output, h.size, h.block⟩
theorem cells_frozen {w : World} {b : Nat} {C : Array Value} {t : TypeId} (h : w.heap[b]? = some (.cells C t)) (o : Nat) : w.frozen? ⟨b, o, none⟩ = false := by
  simp [World.frozen?, h]

/-- What was made anew stays as nothing to what was there. -/
theorem below_new {w w' : World} (o : Obj) (h : Below (w.alloc o).heap.size (w.alloc o) w') : Below w.heap.size w w' :=
  ((Below.refl _ _).alloc (Nat.le_refl _) o).trans (h.mono (by simp))
theorem Below.alw {w w' : World} (h : Below w.heap.size w w') (o : Obj) : Below w.heap.size w (w'.alloc o) := h.alloc h.size o
theorem Below.then {w a b : World} (h : Below w.heap.size w a) (k : Below a.heap.size a b) : Below w.heap.size w b := h.trans (k.mono h.size)

abbrev slt (x y : Int) : Value := .agg #[.int .i64 x, .int .i64 y]
abbrev boxS (x y : Int) : Obj := .cells #[.int .i64 x, .int .i64 y] 25

/-- The slots T as they lie in memory. -/
structure Tab (w : World) (a : Option Addr) (b o n : Nat) (T : List (Int × Int)) : Prop where
  len : T.length = n
  ptr : 0 < n → a = some ⟨b, o, none⟩ ∧ b < w.heap.size
  cells : ∀ i p, T[i]? = some p → w.cell? ⟨b, o + i * 2, none⟩ = some (.int .i64 p.1) ∧ w.cell? ⟨b, o + i * 2 + 1, none⟩ = some (.int .i64 p.2)
  max : n ≤ 8796093022207

theorem Tab.below {w w' : World} {a : Option Addr} {b o n : Nat} {T : List (Int × Int)} (h : Tab w a b o n T) (k : Below w.heap.size w w') : Tab w' a b o n T :=
  ⟨h.len, fun h0 => ⟨(h.ptr h0).1, Nat.lt_of_lt_of_le (h.ptr h0).2 k.size⟩, fun i p hp => by
    obtain ⟨c0, c1⟩ := h.cells i p hp
    exact ⟨(k.cell (p := ⟨b, o + i * 2, none⟩) (lt_of_cell c0)).trans c0, (k.cell (p := ⟨b, o + i * 2 + 1, none⟩) (lt_of_cell c1)).trans c1⟩, h.max⟩
theorem Tab.alloc {w : World} {a : Option Addr} {b o n : Nat} {T : List (Int × Int)} (h : Tab w a b o n T) (x : Obj) : Tab (w.alloc x) a b o n T := h.below ((Below.refl _ _).alloc (Nat.le_refl _) _)

structure okSlot (p : Int × Int) : Prop where
  t0 : -1 ≤ p.1
  t1 : p.1 < 8
  b0 : 1 ≤ p.2
  b1 : p.2 ≤ 4096

def oks (T : List (Int × Int)) (k : Nat) : Prop := ∀ (j : Nat) (p : Int × Int), j < k → T[j]? = some p → okSlot p
def seen (T : List (Int × Int)) (k : Nat) : Prop := ∃ (j : Nat) (p : Int × Int), j < k ∧ T[j]? = some p ∧ 0 ≤ p.1
structure Good (T : List (Int × Int)) : Prop where
  max : T.length ≤ 64
  oks : oks T T.length
  seen : seen T T.length
theorem Good.pos {T : List (Int × Int)} (h : Good T) : 0 < T.length := by obtain ⟨j, _, hj, _⟩ := h.seen; omega
/-- What Check answers. -/
noncomputable def errT (T : List (Int × Int)) : Int := @ite Int (Good T) (Classical.propDecidable _) 0 50
theorem errT_good {T : List (Int × Int)} (h : Good T) : errT T = 0 := if_pos h
theorem errT_bad {T : List (Int × Int)} (h : ¬ Good T) : errT T = 50 := if_neg h

theorem oks_succ {T : List (Int × Int)} {k : Nat} {p : Int × Int} (h : oks T k) (hp : T[k]? = some p) (ho : okSlot p) : oks T (k + 1) := fun j q hj hq => by
  rcases Nat.lt_or_ge j k with hl | hl
  · exact h j q hl hq
  · obtain rfl : j = k := by omega
    rw [hp] at hq
    cases hq
    exact ho
theorem seen_more {T : List (Int × Int)} {k : Nat} (h : seen T k) : seen T (k + 1) := by
  obtain ⟨j, q, h1, h2, h3⟩ := h
  exact ⟨j, q, by omega, h2, h3⟩
theorem seen_here {T : List (Int × Int)} {k : Nat} {p : Int × Int} (hp : T[k]? = some p) (h : 0 ≤ p.1) : seen T (k + 1) := ⟨k, p, by omega, hp, h⟩
theorem seen_not {T : List (Int × Int)} {k : Nat} {p : Int × Int} (h : ¬ seen T k) (hp : T[k]? = some p) (hn : p.1 < 0) : ¬ seen T (k + 1) := by
  rintro ⟨j, q, h1, h2, h3⟩
  rcases Nat.lt_or_ge j k with hl | hl
  · exact h ⟨j, q, hl, h2, h3⟩
  · obtain rfl : j = k := by omega
    rw [hp] at h2
    cases h2
    omega
theorem get_lt {T : List (Int × Int)} {k : Nat} (h : k < T.length) : ∃ p, T[k]? = some p := ⟨_, List.getElem?_eq_getElem h⟩
theorem oks_not {T : List (Int × Int)} {k : Nat} {p : Int × Int} (hp : T[k]? = some p) (ho : ¬ okSlot p) : ¬ Good T := fun g => ho (g.oks k p (List.getElem?_eq_some_iff.1 hp).1 hp)

end Go.Proofs.Ytidalhdhaagpaaa
