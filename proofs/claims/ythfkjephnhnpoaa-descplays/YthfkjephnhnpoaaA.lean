/-
  What stays of the memory, entries as they lie in memory, and a table of descriptors in memory; conditions as each theorem has them.
-/
import Derived.Test.YthfkjephnhnpoaaRows
import Derived.WalkKit
import Derived.WalkSpells
import Derived.WalkLawsBesides
import Derived.BigQuiet
import Derived.Deep.RegionHeld3
import Derived.Laws.CopyOwn
import Derived.Laws.IdiomCopy
import Derived.Deep.OwnRows
import Derived.Lib.SliceRun
import Derived.Handy
import Derived.Laws.Rows
import Derived.Laws.ResultCell
import Derived.OwnWalk
set_option linter.unusedSimpArgs false
set_option linter.unusedVariables false
namespace Go.Proofs.Ythfkjephnhnpoaa
open Go.RowKit

theorem hide {p : Prop} (h : p) : Hid p := h

/-- Nothing that was there has turned but what lies in the blocks r and g. -/
structure Kept (r g : Nat) (w w' : World) : Prop where
  os : w'.os = w.os
  tape : w'.tape = w.tape
  output : w'.output = w.output
  size : w.heap.size ≤ w'.heap.size
  block : ∀ k, k < w.heap.size → k ≠ r → k ≠ g → w'.heap[k]? = w.heap[k]?

theorem Kept.refl (r g : Nat) (w : World) : Kept r g w w := ⟨rfl, rfl, rfl, Nat.le_refl _, fun _ _ _ _ => rfl⟩
theorem Kept.trans {r g : Nat} {a b c : World} (h : Kept r g a b) (k : Kept r g b c) : Kept r g a c :=
  ⟨k.os.trans h.os, k.tape.trans h.tape, k.output.trans h.output, Nat.le_trans h.size k.size, fun i hi h1 h2 => (k.block i (Nat.lt_of_lt_of_le hi h.size) h1 h2).trans (h.block i hi h1 h2)⟩
theorem Kept.drewN {r g : Nat} {a b : World} (h : Kept r g a b) (n : Nat) : Kept r g a (b.drewN n) := ⟨h.os, h.tape, h.output, h.size, h.block⟩
theorem Kept.of_drewN {r g : Nat} {a b : World} {n : Nat} (h : Kept r g (a.drewN n) b) : Kept r g a b := ⟨h.os, h.tape, h.output, h.size, h.block⟩
theorem Kept.wide {x r g : Nat} {a b : World} (h : Kept x x a b) (hx : x = r ∨ x = g) : Kept r g a b :=
  ⟨h.os, h.tape, h.output, h.size, fun k hk h1 h2 => h.block k hk (by rcases hx with rfl | rfl <;> assumption) (by rcases hx with rfl | rfl <;> assumption)⟩
theorem Kept.below {r g B : Nat} {a b : World} (h : Kept r g a b) (hr : B ≤ r) (hg : B ≤ g) (hB : B ≤ a.heap.size) : Below B a b :=
  ⟨h.os, h.tape, h.output, h.size, fun k hk => h.block k (by omega) (by omega) (by omega)⟩
theorem Kept.of_below {r g : Nat} {a b : World} (h : Below a.heap.size a b) : Kept r g a b := ⟨h.os, h.tape, h.output, h.size, fun k hk _ _ => h.block k hk⟩
theorem Kept.setCell {r g : Nat} {a b : World} (h : Kept r g a b) {p : Addr} (hp : p.block = r ∨ p.block = g) (u : Value) : Kept r g a (b.setCell p u) :=
  h.trans ⟨rfl, rfl, rfl, by simp [World.setCell], fun k hk h1 h2 => Below.heap_setCell _ _ _ _ (by rcases hp with e | e <;> omega)⟩
theorem Kept.setRow {r g : Nat} {a b : World} (h : Kept r g a b) {p : Nat} (hp : p = r ∨ p = g) (cs : Array Value) : Kept r g a (b.setRow p cs) :=
  h.trans ⟨rfl, rfl, rfl, by simp [World.setRow], fun k hk h1 h2 => setRow_other b p k cs (by rcases hp with e | e <;> omega)⟩
theorem Kept.alloc {r g : Nat} {a b : World} (h : Kept r g a b) (o : Obj) : Kept r g a (b.alloc o) :=
  h.trans ⟨rfl, rfl, rfl, by simp, fun k hk _ _ => Below.heap_alloc _ _ _ hk⟩

theorem Kept.set {r : Nat} {a b : World} (h : Kept r r a b) (o : Nat) (u : Value) : Kept r r a (b.setCell ⟨r, o, none⟩ u) := h.setCell (Or.inl rfl) u


theorem heap_setCell_same {w : World} {r : Nat} {C : Array Value} {t : TypeId} (h : w.heap[r]? = some (.cells C t)) (o : Nat) (v : Value) : (w.setCell ⟨r, o, none⟩ v).heap[r]? = some (.cells (C.setIfInBounds o v) t) := by
  simp [World.setCell, Array.getElem?_modify, h]


theorem add_none (b o j : Nat) : (⟨b, o, none⟩ : Addr).add j = ⟨b, o + j, none⟩ := by unfold Addr.add; split <;> simp_all
theorem lt_of_some {w : World} {r : Nat} {o : Obj} (h : w.heap[r]? = some o) : r < w.heap.size := (Array.getElem?_eq_some_iff.1 h).1
theorem Kept.at_ {r g : Nat} {w w' : World} (h : Kept r g w w') {k : Nat} {o : Obj} (hk : w.heap[k]? = some o) (h1 : k ≠ r) (h2 : k ≠ g) : w'.heap[k]? = some o := by rw [h.block k (lt_of_some hk) h1 h2]; exact hk


theorem alloc_new (w : World) (o : Obj) : (w.alloc o).heap[w.heap.size]? = some o := by
  show (w.heap.push o)[w.heap.size]? = _
  simp
theorem alloc_new2 (w : World) (o1 o2 : Obj) : ((w.alloc o1).alloc o2).heap[w.heap.size + 1]? = some o2 := by
  have := alloc_new (w.alloc o1) o2
  rwa [show (w.alloc o1).heap.size = w.heap.size + 1 by simp] at this
theorem alloc_old {w : World} {g : Nat} {x : Obj} (o : Obj) (h : w.heap[g]? = some x) : (w.alloc o).heap[g]? = some x := by
  rw [Below.heap_alloc _ _ _ (lt_of_some h)]; exact h

/-- Nothing that was there has turned but what lies in the blocks M. -/
structure KeptM (M : Nat → Prop) (w w' : World) : Prop where
  os : w'.os = w.os
  tape : w'.tape = w.tape
  output : w'.output = w.output
  size : w.heap.size ≤ w'.heap.size
  block : ∀ k, k < w.heap.size → ¬ M k → w'.heap[k]? = w.heap[k]?
theorem KeptM.refl (M : Nat → Prop) (w : World) : KeptM M w w := ⟨rfl, rfl, rfl, Nat.le_refl _, fun _ _ _ => rfl⟩
theorem KeptM.below {M : Nat → Prop} {w w' : World} {B : Nat} (h : KeptM M w w') (hM : ∀ k, M k → B ≤ k) (hB : B ≤ w.heap.size) : Below B w w' :=
  ⟨h.os, h.tape, h.output, h.size, fun k hk => h.block k (by omega) (fun hm => by have := hM k hm; omega)⟩
theorem KeptM.of_kept {M : Nat → Prop} {r g : Nat} {w w' : World} (h : Kept r g w w') (hr : M r) (hg : M g) : KeptM M w w' :=
  ⟨h.os, h.tape, h.output, h.size, fun k hk hm => h.block k hk (fun e => hm (e ▸ hr)) (fun e => hm (e ▸ hg))⟩
theorem KeptM.of_below {M : Nat → Prop} {w w' : World} (h : Below w.heap.size w w') : KeptM M w w' := ⟨h.os, h.tape, h.output, h.size, fun k hk _ => h.block k hk⟩
theorem KeptM.drewN {M : Nat → Prop} {w w' : World} (h : KeptM M w w') (n : Nat) : KeptM M w (w'.drewN n) := ⟨h.os, h.tape, h.output, h.size, h.block⟩


theorem lt_of_cell {w : World} {a : Addr} {v : Value} (h : w.cell? a = some v) : a.block < w.heap.size := by
  unfold World.cell? at h
  cases e : w.heap[a.block]? with
  | none => simp [e] at h
  | some x => exact lt_of_some e


theorem below_drewN {B : Nat} {w w' : World} (h : Below B w w') (n : Nat) : Below B w (w'.drewN n) := ⟨h.os, h.tape, h.output, h.size, h.block⟩

/-- An entry: its state (0 free, 1 open, 2 spent), its generation, its kind and its number. -/
structure En where
  st : Nat
  gen : Nat
  k : Int
  n : Int

structure En.Ok (e : En) : Prop where
  st : e.st < 3
  one : 1 ≤ e.gen
  top : e.gen ≤ 1048577
  last : e.st ≠ 2 → e.gen ≤ 1048576

/-- Entries as they lie in memory. -/
def flat : List En → List Value
  | [] => []
  | e :: t => .int .u8 (e.st : Nat) :: .int .i64 (e.gen : Nat) :: .int .i64 e.k :: .int .i64 e.n :: flat t

theorem flat_length : ∀ es : List En, (flat es).length = 4 * es.length
  | [] => rfl
  | e :: t => by simp only [flat, List.length_cons, flat_length t]; omega

theorem flat_at : ∀ (es : List En) (i : Nat) (e : En), es[i]? = some e →
    (flat es)[i * 4]? = some (.int .u8 (e.st : Nat)) ∧ (flat es)[i * 4 + 1]? = some (.int .i64 (e.gen : Nat)) ∧ (flat es)[i * 4 + 2]? = some (.int .i64 e.k) ∧ (flat es)[i * 4 + 3]? = some (.int .i64 e.n)
  | [], i, e, h => by simp at h
  | a :: t, 0, e, h => by
    simp at h
    subst h
    simp [flat]
  | a :: t, i + 1, e, h => by
    have := flat_at t i e (by simpa using h)
    rw [show (i + 1) * 4 = i * 4 + 4 by omega]
    simpa [flat] using this

theorem flat_set0 : ∀ (es : List En) (i : Nat) (e : En) (x : Nat), es[i]? = some e → (flat es).set (i * 4) (.int .u8 (x : Nat)) = flat (es.set i { e with st := x })
  | [], i, e, x, h => by simp at h
  | a :: t, 0, e, x, h => by simp at h; subst h; simp [flat]
  | a :: t, i + 1, e, x, h => by
    have := flat_set0 t i e x (by simpa using h)
    rw [show (i + 1) * 4 = i * 4 + 4 by omega]
    simp [flat, this]
theorem flat_set1 : ∀ (es : List En) (i : Nat) (e : En) (x : Nat), es[i]? = some e → (flat es).set (i * 4 + 1) (.int .i64 (x : Nat)) = flat (es.set i { e with gen := x })
  | [], i, e, x, h => by simp at h
  | a :: t, 0, e, x, h => by simp at h; subst h; simp [flat]
  | a :: t, i + 1, e, x, h => by
    have := flat_set1 t i e x (by simpa using h)
    rw [show (i + 1) * 4 + 1 = i * 4 + 1 + 4 by omega]
    simp [flat, this]
theorem flat_set2 : ∀ (es : List En) (i : Nat) (e : En) (x : Int), es[i]? = some e → (flat es).set (i * 4 + 2) (.int .i64 x) = flat (es.set i { e with k := x })
  | [], i, e, x, h => by simp at h
  | a :: t, 0, e, x, h => by simp at h; subst h; simp [flat]
  | a :: t, i + 1, e, x, h => by
    have := flat_set2 t i e x (by simpa using h)
    rw [show (i + 1) * 4 + 2 = i * 4 + 2 + 4 by omega]
    simp [flat, this]
theorem flat_set3 : ∀ (es : List En) (i : Nat) (e : En) (x : Int), es[i]? = some e → (flat es).set (i * 4 + 3) (.int .i64 x) = flat (es.set i { e with n := x })
  | [], i, e, x, h => by simp at h
  | a :: t, 0, e, x, h => by simp at h; subst h; simp [flat]
  | a :: t, i + 1, e, x, h => by
    have := flat_set3 t i e x (by simpa using h)
    rw [show (i + 1) * 4 + 3 = i * 4 + 3 + 4 by omega]
    simp [flat, this]
theorem flat_one : ∀ (es : List En), ∀ v ∈ flat es, v.oneCell' = true
  | [], v, h => by simp [flat] at h
  | e :: t, v, h => by
    simp only [flat, List.mem_cons] at h
    rcases h with rfl | rfl | rfl | rfl | h
    · rfl
    · rfl
    · rfl
    · rfl
    · exact flat_one t v h

def thd (n g : Nat) : Obj := .cells #[.bool true, .slice (some ⟨g, 0, none⟩) n n] 54
theorem thd_cells {w : World} {r n g : Nat} (h : w.heap[r]? = some (thd n g)) : w.cell? ⟨r, 0, none⟩ = some (.bool true) ∧ w.cell? ⟨r, 1, none⟩ = some (.slice (some ⟨g, 0, none⟩) n n) := by
  unfold thd at h
  simp [World.cell?, h]
theorem thd_frozen {w : World} {r n g : Nat} (h : w.heap[r]? = some (thd n g)) (o : Nat) : w.frozen? ⟨r, o, none⟩ = false := by
  unfold thd at h
  simp [World.frozen?, h]

/-- The entries es in block g. -/
def Row (w : World) (g : Nat) (es : List En) : Prop := w.heap[g]? = some (.cells (flat es).toArray 58)
theorem Row.cells {w : World} {g : Nat} {es : List En} (h : Row w g es) {i : Nat} {e : En} (he : es[i]? = some e) :
    w.cell? ⟨g, i * 4, none⟩ = some (.int .u8 (e.st : Nat)) ∧ w.cell? ⟨g, i * 4 + 1, none⟩ = some (.int .i64 (e.gen : Nat)) ∧ w.cell? ⟨g, i * 4 + 2, none⟩ = some (.int .i64 e.k) ∧ w.cell? ⟨g, i * 4 + 3, none⟩ = some (.int .i64 e.n) := by
  have := flat_at es i e he
  unfold Row at h
  simpa [World.cell?, h] using this
theorem Row.frozen {w : World} {g : Nat} {es : List En} (h : Row w g es) (o : Nat) : w.frozen? ⟨g, o, none⟩ = false := by
  unfold Row at h
  simp [World.frozen?, h]
theorem Row.set0 {w : World} {g : Nat} {es : List En} (h : Row w g es) {i : Nat} {e : En} (he : es[i]? = some e) (x : Nat) : Row (w.setCell ⟨g, i * 4, none⟩ (.int .u8 (x : Nat))) g (es.set i { e with st := x }) := by
  unfold Row at h ⊢
  rw [heap_setCell_same h, ← flat_set0 es i e x he]
  simp
theorem Row.set1 {w : World} {g : Nat} {es : List En} (h : Row w g es) {i : Nat} {e : En} (he : es[i]? = some e) (x : Nat) : Row (w.setCell ⟨g, i * 4 + 1, none⟩ (.int .i64 (x : Nat))) g (es.set i { e with gen := x }) := by
  unfold Row at h ⊢
  rw [heap_setCell_same h, ← flat_set1 es i e x he]
  simp
theorem Row.set2 {w : World} {g : Nat} {es : List En} (h : Row w g es) {i : Nat} {e : En} (he : es[i]? = some e) (x : Int) : Row (w.setCell ⟨g, i * 4 + 2, none⟩ (.int .i64 x)) g (es.set i { e with k := x }) := by
  unfold Row at h ⊢
  rw [heap_setCell_same h, ← flat_set2 es i e x he]
  simp
theorem Row.set3 {w : World} {g : Nat} {es : List En} (h : Row w g es) {i : Nat} {e : En} (he : es[i]? = some e) (x : Int) : Row (w.setCell ⟨g, i * 4 + 3, none⟩ (.int .i64 x)) g (es.set i { e with n := x }) := by
  unfold Row at h ⊢
  rw [heap_setCell_same h, ← flat_set3 es i e x he]
  simp
theorem set_at {es : List En} {i : Nat} {e : En} (he : es[i]? = some e) (x : En) : (es.set i x)[i]? = some x := by
  have := (List.getElem?_eq_some_iff.1 he).1
  simp [this]

/-- A table that New made: its head in block r, its entries es in block g. -/
structure IsTab (w : World) (r g : Nat) (es : List En) : Prop where
  head : w.heap[r]? = some (thd es.length g)
  row : Row w g es
  ne : r ≠ g
  max : es.length ≤ 4096
  ok : ∀ (i : Nat) (e : En), es[i]? = some e → e.Ok

theorem IsTab.keep {w w' : World} {r g : Nat} {es : List En} (h : IsTab w r g es) (h1 : w'.heap[r]? = w.heap[r]?) (h2 : w'.heap[g]? = w.heap[g]?) : IsTab w' r g es :=
  ⟨h1.trans h.head, h2.trans h.row, h.ne, h.max, h.ok⟩
theorem IsTab.lt {w : World} {r g : Nat} {es : List En} (h : IsTab w r g es) : r < w.heap.size ∧ g < w.heap.size := ⟨lt_of_some h.head, lt_of_some h.row⟩
theorem IsTab.below {w w' : World} {r g B : Nat} {es : List En} (h : IsTab w r g es) (b : Below B w w') (hr : r < B) (hg : g < B) : IsTab w' r g es := h.keep (b.block r hr) (b.block g hg)
theorem IsTab.drewN {w : World} {r g : Nat} {es : List En} (h : IsTab w r g es) (n : Nat) : IsTab (w.drewN n) r g es := h.keep rfl rfl
theorem IsTab.put {w w' : World} {r g : Nat} {es : List En} (h : IsTab w r g es) (i : Nat) (e : En) (ho : e.Ok) (h1 : w'.heap[r]? = w.heap[r]?) (h2 : Row w' g (es.set i e)) : IsTab w' r g (es.set i e) := by
  refine ⟨by rw [List.length_set]; exact h1.trans h.head, h2, h.ne, by rw [List.length_set]; exact h.max, fun j x hx => ?_⟩
  rw [List.getElem?_set] at hx
  split at hx
  · split at hx
    · simp at hx; subst hx; exact ho
    · cases hx
  · exact h.ok j x hx

end Go.Proofs.Ythfkjephnhnpoaa
