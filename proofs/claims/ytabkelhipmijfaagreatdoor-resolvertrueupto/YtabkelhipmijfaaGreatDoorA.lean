/-
  What stays of the memory, and numbers as they lie in memory; conditions as each theorem has them.
-/
import Derived.Test.YtabkelhipmijfaaGreatDoorRows
import Derived.Test.YtabkelhipmijfaaGreatDoorM
import Derived.WalkKit
import Derived.WalkSpells
import Derived.WalkLawsBesides
import Derived.BigQuiet
import Derived.BigRegion
import Derived.Deep.RegionHeld3
import Derived.Laws.CopyOwn
import Derived.Laws.IdiomCopy
import Derived.Deep.OwnRows
import Derived.Lib.SliceRun
import Derived.Handy
import Derived.Laws.Rows
import Derived.Laws.Tables
import Derived.Laws.ResultCell
import Derived.OwnWalk
set_option linter.unusedSimpArgs false
set_option linter.unusedVariables false
namespace Go.Proofs.YtabkelhipmijfaaGreatDoor
open Go.RowKit

theorem hide {p : Prop} (h : p) : Hid p := h

/-- Nothing that was there has turned but what lies in the blocks r and g. -/
structure Kept (r g : Nat) (w w' : World) : Prop where
  os : w'.os = w.os
  tape : w'.tape = w.tape
  output : w'.output = w.output
  size : w.heap.size ≤ w'.heap.size
  block : ∀ k, k < w.heap.size → k ≠ r → k ≠ g → w'.heap[k]? = w.heap[k]?

theorem Kept.refl (r g : Nat) (w : World) : Kept r g w w := ⟨rfl, rfl, rfl, Nat.le_refl _, fun _ _ _ _ => rfl⟩
theorem Kept.trans {r g : Nat} {a b c : World} (h : Kept r g a b) (k : Kept r g b c) : Kept r g a c :=
  ⟨k.os.trans h.os, k.tape.trans h.tape, k.output.trans h.output, Nat.le_trans h.size k.size, fun i hi h1 h2 => (k.block i (Nat.lt_of_lt_of_le hi h.size) h1 h2).trans (h.block i hi h1 h2)⟩
theorem Kept.drewN {r g : Nat} {a b : World} (h : Kept r g a b) (n : Nat) : Kept r g a (b.drewN n) := ⟨h.os, h.tape, h.output, h.size, h.block⟩
theorem Kept.of_drewN {r g : Nat} {a b : World} {n : Nat} (h : Kept r g (a.drewN n) b) : Kept r g a b := ⟨h.os, h.tape, h.output, h.size, h.block⟩
theorem Kept.wide {x r g : Nat} {a b : World} (h : Kept x x a b) (hx : x = r ∨ x = g) : Kept r g a b :=
  ⟨h.os, h.tape, h.output, h.size, fun k hk h1 h2 => h.block k hk (by rcases hx with rfl | rfl <;> assumption) (by rcases hx with rfl | rfl <;> assumption)⟩
theorem Kept.below {r g B : Nat} {a b : World} (h : Kept r g a b) (hr : B ≤ r) (hg : B ≤ g) (hB : B ≤ a.heap.size) : Below B a b :=
  ⟨h.os, h.tape, h.output, h.size, fun k hk => h.block k (by omega) (by omega) (by omega)⟩
theorem Kept.of_below {r g : Nat} {a b : World} (h : Below a.heap.size a b) : Kept r g a b := ⟨h.os, h.tape, h.output, h.size, fun k hk _ _ => h.block k hk⟩
theorem Kept.setCell {r g : Nat} {a b : World} (h : Kept r g a b) {p : Addr} (hp : p.block = r ∨ p.block = g) (u : Value) : Kept r g a (b.setCell p u) :=
  h.trans ⟨rfl, rfl, rfl, by simp [World.setCell], fun k hk h1 h2 => Below.heap_setCell _ _ _ _ (by rcases hp with e | e <;> omega)⟩
theorem Kept.setRow {r g : Nat} {a b : World} (h : Kept r g a b) {p : Nat} (hp : p = r ∨ p = g) (cs : Array Value) : Kept r g a (b.setRow p cs) :=
  h.trans ⟨rfl, rfl, rfl, by simp [World.setRow], fun k hk h1 h2 => setRow_other b p k cs (by rcases hp with e | e <;> omega)⟩
theorem Kept.alloc {r g : Nat} {a b : World} (h : Kept r g a b) (o : Obj) : Kept r g a (b.alloc o) :=
  h.trans ⟨rfl, rfl, rfl, by simp, fun k hk _ _ => Below.heap_alloc _ _ _ hk⟩

theorem Kept.set {r : Nat} {a b : World} (h : Kept r r a b) (o : Nat) (u : Value) : Kept r r a (b.setCell ⟨r, o, none⟩ u) := h.setCell (Or.inl rfl) u


theorem heap_setCell_same {w : World} {r : Nat} {C : Array Value} {t : TypeId} (h : w.heap[r]? = some (.cells C t)) (o : Nat) (v : Value) : (w.setCell ⟨r, o, none⟩ v).heap[r]? = some (.cells (C.setIfInBounds o v) t) := by
  simp [World.setCell, Array.getElem?_modify, h]


theorem add_none (b o j : Nat) : (⟨b, o, none⟩ : Addr).add j = ⟨b, o + j, none⟩ := by unfold Addr.add; split <;> simp_all
theorem lt_of_some {w : World} {r : Nat} {o : Obj} (h : w.heap[r]? = some o) : r < w.heap.size := (Array.getElem?_eq_some_iff.1 h).1
theorem Kept.at_ {r g : Nat} {w w' : World} (h : Kept r g w w') {k : Nat} {o : Obj} (hk : w.heap[k]? = some o) (h1 : k ≠ r) (h2 : k ≠ g) : w'.heap[k]? = some o := by rw [h.block k (lt_of_some hk) h1 h2]; exact hk


theorem alloc_new (w : World) (o : Obj) : (w.alloc o).heap[w.heap.size]? = some o := by
  show (w.heap.push o)[w.heap.size]? = _
  simp
theorem alloc_new2 (w : World) (o1 o2 : Obj) : ((w.alloc o1).alloc o2).heap[w.heap.size + 1]? = some o2 := by
  have := alloc_new (w.alloc o1) o2
  rwa [show (w.alloc o1).heap.size = w.heap.size + 1 by simp] at this
theorem alloc_old {w : World} {g : Nat} {x : Obj} (o : Obj) (h : w.heap[g]? = some x) : (w.alloc o).heap[g]? = some x := by
  rw [Below.heap_alloc _ _ _ (lt_of_some h)]; exact h

/-- Nothing that was there has turned but what lies in the blocks M. -/
structure KeptM (M : Nat → Prop) (w w' : World) : Prop where
  os : w'.os = w.os
  tape : w'.tape = w.tape
  output : w'.output = w.output
  size : w.heap.size ≤ w'.heap.size
  block : ∀ k, k < w.heap.size → ¬ M k → w'.heap[k]? = w.heap[k]?
theorem KeptM.refl (M : Nat → Prop) (w : World) : KeptM M w w := ⟨rfl, rfl, rfl, Nat.le_refl _, fun _ _ _ => rfl⟩
theorem KeptM.below {M : Nat → Prop} {w w' : World} {B : Nat} (h : KeptM M w w') (hM : ∀ k, M k → B ≤ k) (hB : B ≤ w.heap.size) : Below B w w' :=
  ⟨h.os, h.tape, h.output, h.size, fun k hk => h.block k (by omega) (fun hm => by have := hM k hm; omega)⟩
theorem KeptM.of_kept {M : Nat → Prop} {r g : Nat} {w w' : World} (h : Kept r g w w') (hr : M r) (hg : M g) : KeptM M w w' :=
  ⟨h.os, h.tape, h.output, h.size, fun k hk hm => h.block k hk (fun e => hm (e ▸ hr)) (fun e => hm (e ▸ hg))⟩
theorem KeptM.of_below {M : Nat → Prop} {w w' : World} (h : Below w.heap.size w w') : KeptM M w w' := ⟨h.os, h.tape, h.output, h.size, fun k hk _ => h.block k hk⟩
theorem KeptM.drewN {M : Nat → Prop} {w w' : World} (h : KeptM M w w') (n : Nat) : KeptM M w (w'.drewN n) := ⟨h.os, h.tape, h.output, h.size, h.block⟩


theorem lt_of_cell {w : World} {a : Addr} {v : Value} (h : w.cell? a = some v) : a.block < w.heap.size := by
  unfold World.cell? at h
  cases e : w.heap[a.block]? with
  | none => simp [e] at h
  | some x => exact lt_of_some e


theorem below_drewN {B : Nat} {w w' : World} (h : Below B w w') (n : Nat) : Below B w (w'.drewN n) := ⟨h.os, h.tape, h.output, h.size, h.block⟩


theorem Kept.of_size {r g : Nat} {w w' : World} (h : Kept r g w w') : w.heap.size ≤ w'.heap.size := h.size
theorem Kept.one {r g : Nat} {w w' : World} (h : Kept r g w w') (hg : w.heap.size ≤ g) : Kept r r w w' := ⟨h.os, h.tape, h.output, h.size, fun k hk h1 _ => h.block k hk h1 (by omega)⟩

/-- Numbers of a kind as they lie in memory. -/
def nums (k : IntKind) (l : List Nat) : List Value := l.map fun x => Value.int k (x : Nat)
theorem nums_length (k : IntKind) (l : List Nat) : (nums k l).length = l.length := by simp [nums]
theorem nums_set (k : IntKind) (l : List Nat) (i x : Nat) : (nums k l).set i (.int k (x : Nat)) = nums k (l.set i x) := by simp [nums, List.map_set]
theorem nums_append (k : IntKind) (l m : List Nat) : nums k (l ++ m) = nums k l ++ nums k m := by simp [nums]
theorem nums_one (k : IntKind) (l : List Nat) : ∀ v ∈ nums k l, v.oneCell' = true := by intro v hv; simp [nums] at hv; obtain ⟨a, _, rfl⟩ := hv; rfl
theorem nums_at (k : IntKind) (l : List Nat) (j : Nat) (v : Value) (h : (nums k l)[j]? = some v) : j < l.length ∧ v = .int k (l.getD j 0 : Nat) := by
  simp [nums, List.getElem?_map] at h
  obtain ⟨x, hx, rfl⟩ := h
  have := (List.getElem?_eq_some_iff.1 hx).1
  refine ⟨this, ?_⟩
  simp [List.getD, hx]
theorem nums_get (k : IntKind) (l : List Nat) (j : Nat) (h : j < l.length) : (nums k l)[j]? = some (.int k (l.getD j 0 : Nat)) := by
  simp [nums, List.getElem?_map, List.getElem?_eq_getElem h, List.getD]

/-- Block r holds just these cells. -/
def Row (w : World) (r : Nat) (ty : TypeId) (C : List Value) : Prop := w.heap[r]? = some (.cells C.toArray ty)
theorem Row.cell {w : World} {r : Nat} {ty : TypeId} {C : List Value} (h : Row w r ty C) (o : Nat) : w.cell? ⟨r, o, none⟩ = C[o]? := by
  unfold Row at h
  simp [World.cell?, h]
theorem Row.frozen {w : World} {r : Nat} {ty : TypeId} {C : List Value} (h : Row w r ty C) (o : Nat) : w.frozen? ⟨r, o, none⟩ = false := by
  unfold Row at h
  simp [World.frozen?, h]
theorem Row.set {w : World} {r : Nat} {ty : TypeId} {C : List Value} (h : Row w r ty C) (o : Nat) (v : Value) : Row (w.setCell ⟨r, o, none⟩ v) r ty (C.set o v) := by
  unfold Row at h ⊢
  rw [heap_setCell_same h]
  simp
theorem Row.lt {w : World} {r : Nat} {ty : TypeId} {C : List Value} (h : Row w r ty C) : r < w.heap.size := lt_of_some h
theorem Row.keep {w w' : World} {r : Nat} {ty : TypeId} {C : List Value} (h : Row w r ty C) (e : w'.heap[r]? = w.heap[r]?) : Row w' r ty C := e.trans h
theorem Row.drewN {w : World} {r : Nat} {ty : TypeId} {C : List Value} (h : Row w r ty C) (n : Nat) : Row (w.drewN n) r ty C := h
theorem Row.alloc {w : World} {r : Nat} {ty : TypeId} {C : List Value} (h : Row w r ty C) (o : Obj) : Row (w.alloc o) r ty C := alloc_old o h
theorem Row.kept {w w' : World} {r a g : Nat} {ty : TypeId} {C : List Value} (h : Row w r ty C) (k : Kept a g w w') (h1 : r ≠ a) (h2 : r ≠ g) : Row w' r ty C := k.at_ h h1 h2
theorem Row.below {w w' : World} {r B : Nat} {ty : TypeId} {C : List Value} (h : Row w r ty C) (k : Below B w w') (h1 : r < B) : Row w' r ty C := (k.block r h1).trans h
theorem Row.num {w : World} {r : Nat} {ty : TypeId} {k : IntKind} {pre post : List Value} {l : List Nat} (h : Row w r ty (pre ++ nums k l ++ post)) {o j : Nat} (ho : o = pre.length + j) (hj : j < l.length) :
    w.cell? ⟨r, o, none⟩ = some (.int k (l.getD j 0 : Nat)) := by
  rw [h.cell, List.append_assoc, List.getElem?_append_right (by omega), List.getElem?_append_left (by rw [nums_length]; omega), show o - pre.length = j by omega]
  exact nums_get k l j hj
theorem Row.setNum {w : World} {r : Nat} {ty : TypeId} {k : IntKind} {pre post : List Value} {l : List Nat} (h : Row w r ty (pre ++ nums k l ++ post)) {o j : Nat} (ho : o = pre.length + j) (hj : j < l.length) (x : Nat) :
    Row (w.setCell ⟨r, o, none⟩ (.int k (x : Nat))) r ty (pre ++ nums k (l.set j x) ++ post) := by
  have := h.set o (.int k (x : Nat))
  rw [List.append_assoc, List.set_append_right _ _ (by omega), List.set_append_left _ _ (by rw [nums_length]; omega), show o - pre.length = j by omega, nums_set] at this
  rwa [List.append_assoc]
theorem Row.num0 {w : World} {r : Nat} {ty : TypeId} {k : IntKind} {l : List Nat} (h : Row w r ty (nums k l)) {j : Nat} (hj : j < l.length) : w.cell? ⟨r, j, none⟩ = some (.int k (l.getD j 0 : Nat)) := by
  rw [h.cell]; exact nums_get k l j hj
theorem Row.setNum0 {w : World} {r : Nat} {ty : TypeId} {k : IntKind} {l : List Nat} (h : Row w r ty (nums k l)) (j x : Nat) : Row (w.setCell ⟨r, j, none⟩ (.int k (x : Nat))) r ty (nums k (l.set j x)) := by
  have := h.set j (.int k (x : Nat))
  rwa [nums_set] at this
theorem Row.new (w : World) (C : Array Value) (ty : TypeId) : Row (w.alloc (.cells C ty)) w.heap.size ty C.toList := by
  have := alloc_new w (.cells C ty)
  simpa [Row] using this

end Go.Proofs.YtabkelhipmijfaaGreatDoor
