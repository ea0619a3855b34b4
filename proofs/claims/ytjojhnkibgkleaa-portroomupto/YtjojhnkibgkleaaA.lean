/-
  A port as it lies in memory: its endpoints, their rings, its datagrams and outputs; what stays of the memory; conditions as each theorem has them.
-/
import Derived.Test.YtjojhnkibgkleaaN
import Derived.BigRegion
import Derived.Deep.RegionHeld3
import Derived.Laws.CopyOwn
import Derived.Laws.IdiomCopy
import Derived.Deep.OwnRows
import Derived.Lib.SliceRun
import Derived.Handy
import Derived.Laws.Rows
import Derived.Laws.Tables
import Derived.Laws.ResultCell
import Derived.OwnWalk
import Derived.Deep.MidRow
import Derived.Deep.LoopGhost
import Derived.WalkMore
import Derived.Lib.SlBytesConst
import Derived.Lib.Strings
import Derived.Lib.AppendStr
import Derived.LaidMore
set_option linter.unusedSimpArgs false
set_option linter.unusedVariables false
namespace Go.Proofs.Ytjojhnkibgkleaa
open Go.RowKit Go.Lib

/-- Nothing that was there has turned but what lies in the blocks of S. -/
structure KeptS (S : Nat → Prop) (w w' : World) : Prop where
  os : w'.os = w.os
  tape : w'.tape = w.tape
  output : w'.output = w.output
  size : w.heap.size ≤ w'.heap.size
  block : ∀ k, k < w.heap.size → ¬ S k → w'.heap[k]? = w.heap[k]?
theorem KeptS.refl (S : Nat → Prop) (w : World) : KeptS S w w := ⟨rfl, rfl, rfl, Nat.le_refl _, fun _ _ _ => rfl⟩
theorem KeptS.trans {S T : Nat → Prop} {a b c : World} (h : KeptS S a b) (k : KeptS T b c) (hT : ∀ x, T x → S x ∨ a.heap.size ≤ x) : KeptS S a c :=
  ⟨k.os.trans h.os, k.tape.trans h.tape, k.output.trans h.output, Nat.le_trans h.size k.size, fun i hi h1 => (k.block i (Nat.lt_of_lt_of_le hi h.size) (fun t => by
    rcases hT i t with h2 | h2
    · exact h1 h2
    · omega)).trans (h.block i hi h1)⟩
theorem KeptS.drewN {S : Nat → Prop} {a b : World} (h : KeptS S a b) (n : Nat) : KeptS S a (b.drewN n) := ⟨h.os, h.tape, h.output, h.size, h.block⟩
theorem KeptS.of_drewN {S : Nat → Prop} {a b : World} {n : Nat} (h : KeptS S (a.drewN n) b) : KeptS S a b := ⟨h.os, h.tape, h.output, h.size, h.block⟩
theorem KeptS.of_below {S : Nat → Prop} {a b : World} (h : Below a.heap.size a b) : KeptS S a b := ⟨h.os, h.tape, h.output, h.size, fun k hk _ => h.block k hk⟩
theorem KeptS.of_kept {S : Nat → Prop} {r g : Nat} {a b : World} (h : Kept r g a b) (hr : S r) (hg : S g) : KeptS S a b :=
  ⟨h.os, h.tape, h.output, h.size, fun k hk hn => h.block k hk (fun e => hn (e ▸ hr)) (fun e => hn (e ▸ hg))⟩
theorem KeptS.mono {S T : Nat → Prop} {a b : World} (h : KeptS S a b) (hT : ∀ x, S x → T x ∨ a.heap.size ≤ x) : KeptS T a b := (KeptS.refl T a).trans h hT
theorem KeptS.setCell {S : Nat → Prop} {a b : World} (h : KeptS S a b) {p : Addr} (hp : S p.block) (u : Value) : KeptS S a (b.setCell p u) :=
  h.trans ⟨rfl, rfl, rfl, by simp [World.setCell], fun k hk h1 => Below.heap_setCell _ _ _ _ (fun e => h1 (e ▸ hp))⟩ (fun _ => Or.inl)
theorem KeptS.setRow {S : Nat → Prop} {a b : World} (h : KeptS S a b) {p : Nat} (hp : S p) (cs : Array Value) : KeptS S a (b.setRow p cs) :=
  h.trans ⟨rfl, rfl, rfl, by simp [World.setRow], fun k hk h1 => setRow_other b p k cs (fun e => h1 (e ▸ hp))⟩ (fun _ => Or.inl)
theorem KeptS.alloc {S : Nat → Prop} {a b : World} (h : KeptS S a b) (o : Obj) : KeptS S a (b.alloc o) :=
  h.trans (T := fun _ => False) ⟨rfl, rfl, rfl, by simp, fun k hk _ => Below.heap_alloc _ _ _ hk⟩ (fun _ h => h.elim)
theorem KeptS.below {S : Nat → Prop} {a b : World} (h : KeptS S a b) {B : Nat} (hB : B ≤ a.heap.size) (hS : ∀ x, S x → B ≤ x) : Below B a b :=
  ⟨h.os, h.tape, h.output, h.size, fun k hk => h.block k (by omega) (fun s => by have := hS k s; omega)⟩
/-- What belongs to a port behind a call: what did, and what the call made. -/
def grow (S : Nat → Prop) (w w' : World) : Nat → Prop := fun k => S k ∨ (w.heap.size ≤ k ∧ k < w'.heap.size)

/-- An endpoint's six cells. -/
def enC (p : Value) (x : En) : List Value := [p, .int .i64 x.st, .int .i64 x.room, .bool x.nw, .bool x.oth, .bool x.ths]
theorem enC_len (p : Value) (x : En) : (enC p x).length = 6 := rfl
def rp (R : Nat → Nat) (i : Nat) : Value := .pointer (some ⟨R i, 0, none⟩)
/-- The row of the endpoints, in block g. -/
def Row (w : World) (g : Nat) (V : Nat → Value) (L : List En) : Prop := ∃ cs : List Value, w.heap[g]? = some (.cells cs.toArray 89) ∧ cs.length = 6 * L.length ∧ ∀ i, i < L.length → ∀ j, j < 6 → cs[i * 6 + j]? = (enC (V i) (at0 L i))[j]?
theorem Row.lt {w : World} {g : Nat} {V : Nat → Value} {L : List En} (h : Row w g V L) : g < w.heap.size := by
  obtain ⟨cs, h, _⟩ := h
  exact lt_of_some h
theorem Row.keep {w w' : World} {g : Nat} {V : Nat → Value} {L : List En} (h : Row w g V L) (k : w'.heap[g]? = w.heap[g]?) : Row w' g V L := by
  obtain ⟨cs, h1, h2⟩ := h
  exact ⟨cs, k.trans h1, h2⟩
theorem Row.cell {w : World} {g : Nat} {V : Nat → Value} {L : List En} (h : Row w g V L) {i : Nat} (hi : i < L.length) {j : Nat} (hj : j < 6) : w.cell? ⟨g, i * 6 + j, none⟩ = (enC (V i) (at0 L i))[j]? := by
  obtain ⟨cs, h1, h2, h3⟩ := h
  rw [← h3 i hi j hj]
  simp [World.cell?, h1]
theorem Row.frozen {w : World} {g : Nat} {V : Nat → Value} {L : List En} (h : Row w g V L) (o : Nat) : w.frozen? ⟨g, o, none⟩ = false := by
  obtain ⟨cs, h1, h2, h3⟩ := h
  simp [World.frozen?, h1]
/-- The six cells of an endpoint at a place. -/
structure EnAt (w : World) (b o : Nat) (p : Value) (x : En) : Prop where
  c0 : w.cell? ⟨b, o, none⟩ = some p
  c1 : w.cell? ⟨b, o + 1, none⟩ = some (.int .i64 x.st)
  c2 : w.cell? ⟨b, o + 2, none⟩ = some (.int .i64 x.room)
  c3 : w.cell? ⟨b, o + 3, none⟩ = some (.bool x.nw)
  c4 : w.cell? ⟨b, o + 4, none⟩ = some (.bool x.oth)
  c5 : w.cell? ⟨b, o + 5, none⟩ = some (.bool x.ths)
theorem Row.at_ {w : World} {g : Nat} {V : Nat → Value} {L : List En} (h : Row w g V L) {i : Nat} (hi : i < L.length) : EnAt w g (i * 6) (V i) (at0 L i) :=
  ⟨by have := h.cell hi (j := 0) (by omega); simpa [enC] using this, by have := h.cell hi (j := 1) (by omega); simpa [enC] using this, by have := h.cell hi (j := 2) (by omega); simpa [enC] using this, by have := h.cell hi (j := 3) (by omega); simpa [enC] using this, by have := h.cell hi (j := 4) (by omega); simpa [enC] using this, by have := h.cell hi (j := 5) (by omega); simpa [enC] using this⟩
theorem EnAt.keep {w w' : World} {b o : Nat} {p : Value} {x : En} (h : EnAt w b o p x) (k : w'.heap[b]? = w.heap[b]?) : EnAt w' b o p x :=
  ⟨(World.cell?_of_block k).trans h.c0, (World.cell?_of_block k).trans h.c1, (World.cell?_of_block k).trans h.c2, (World.cell?_of_block k).trans h.c3, (World.cell?_of_block k).trans h.c4, (World.cell?_of_block k).trans h.c5⟩
def upd (V : Nat → Value) (i : Nat) (v : Value) : Nat → Value := fun j => if j = i then v else V j
theorem upd_same (V : Nat → Value) (i : Nat) : upd V i (V i) = V := by
  funext j
  unfold upd
  split
  · rename_i h; rw [h]
  · rfl
/-- A row of which the six cells of one endpoint are others now. -/
theorem Row.turn {w' : World} {g : Nat} {V : Nat → Value} {L : List En} {cs : List Value} (h2 : cs.length = 6 * L.length) (h3 : ∀ i, i < L.length → ∀ j, j < 6 → cs[i * 6 + j]? = (enC (V i) (at0 L i))[j]?) {i : Nat} (hi : i < L.length) {cs' : List Value} (hw : w'.heap[g]? = some (.cells cs'.toArray 89)) (hl : cs'.length = cs.length)
    (v : Value) (x : En) (hin : ∀ j, j < 6 → cs'[i * 6 + j]? = (enC v x)[j]?) (hout : ∀ m, m < i * 6 ∨ i * 6 + 6 ≤ m → cs'[m]? = cs[m]?) : Row w' g (upd V i v) (L.set i x) := by
  refine ⟨cs', hw, by rw [List.length_set]; omega, fun k hk j hj => ?_⟩
  rw [List.length_set] at hk
  rw [at0_set x hi]
  unfold upd
  by_cases e : k = i
  · subst e
    rw [if_pos rfl, if_pos rfl]
    exact hin j hj
  · rw [if_neg e, if_neg e, hout (k * 6 + j) (by omega)]
    exact h3 k hk j hj
theorem Row.set {w : World} {g : Nat} {V : Nat → Value} {L : List En} (h : Row w g V L) {i : Nat} (hi : i < L.length) {j : Nat} (hj : j < 6) (u v : Value) (x : En) (hx : (enC (V i) (at0 L i)).set j u = enC v x) : Row (w.setCell ⟨g, i * 6 + j, none⟩ u) g (upd V i v) (L.set i x) := by
  obtain ⟨cs, h1, h2, h3⟩ := h
  refine Row.turn h2 h3 hi (cs' := cs.set (i * 6 + j) u) ?_ (by simp) v x (fun m hm => ?_) (fun m hm => ?_)
  · rw [heap_setCell_same h1]
    simp
  · rw [← hx, List.getElem?_set, List.getElem?_set]
    have := h3 i hi m hm
    by_cases e : j = m
    · subst e
      rw [if_pos rfl, if_pos rfl, if_pos (by omega), if_pos (by rw [enC_len]; exact hj)]
    · rw [if_neg (by omega), if_neg e]
      exact this
  · rw [List.getElem?_set, if_neg (by omega)]
/-- What stands of an endpoint that begins anew. -/
def stC (s : Int) : List Value := [.int .i64 s, .int .i64 0, .bool false, .bool false, .bool false]
theorem Row.seg {w w' : World} {g : Nat} {V : Nat → Value} {L : List En} (h : Row w g V L) {i : Nat} (hi : i < L.length) (s : Int)
    (hw : ∀ cs : Array Value, w.heap[g]? = some (.cells cs 89) → w'.heap[g]? = some (.cells ((cs.toList.take (i * 6 + 1)) ++ stC s ++ cs.toList.drop (i * 6 + 1 + 5)).toArray 89)) : Row w' g V (L.set i { z s with q := (at0 L i).q }) := by
  obtain ⟨cs, h1, h2, h3⟩ := h
  have hw := hw _ h1
  simp only [List.toList_toArray] at hw
  have := Row.turn (V := V) h2 h3 hi hw (by simp [stC]; omega) (V i) { z s with q := (at0 L i).q } (fun m hm => ?_) (fun m hm => ?_)
  · rwa [upd_same] at this
  · rw [List.getElem?_append, List.getElem?_append]
    have h0 := h3 i hi 0 (by omega)
    rcases Nat.eq_zero_or_pos m with e | e
    · subst e
      rw [if_pos (by simp [stC]; omega), if_pos (by simp; omega), List.getElem?_take, if_pos (by omega)]
      rw [h0]
      rfl
    · rw [if_pos (by simp [stC]; omega), if_neg (by simp; omega)]
      simp only [List.length_take]
      rw [show i * 6 + m - min (i * 6 + 1) cs.length = m - 1 by omega]
      have : m = 1 ∨ m = 2 ∨ m = 3 ∨ m = 4 ∨ m = 5 := by omega
      rcases this with rfl | rfl | rfl | rfl | rfl <;> rfl
  · rw [List.getElem?_append, List.getElem?_append]
    rcases hm with hm | hm
    · rw [if_pos (by simp [stC]; omega), if_pos (by simp; omega), List.getElem?_take, if_pos (by omega)]
    · rw [if_neg (by simp [stC]; omega), List.getElem?_drop]
      congr 1
      simp [stC]
      omega

end Go.Proofs.Ytjojhnkibgkleaa
