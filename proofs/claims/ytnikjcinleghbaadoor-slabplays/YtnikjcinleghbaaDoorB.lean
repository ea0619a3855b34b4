/-
  What stays of the memory, rows of bytes, and a slab in memory; conditions as each theorem has them.
-/
import Derived.Test.YtnikjcinleghbaaDoorA
import Derived.Laws.CopyOwn
import Derived.Laws.IdiomCopy
import Derived.Deep.OwnRows
import Derived.Lib.SliceRun
set_option linter.unusedSimpArgs false
set_option linter.unusedVariables false
namespace Go.Proofs.YtnikjcinleghbaaDoor
open Go.RowKit

/-- Nothing that was there has turned but what lies in the blocks r and g. -/
structure Kept (r g : Nat) (w w' : World) : Prop where
  os : w'.os = w.os
  tape : w'.tape = w.tape
  output : w'.output = w.output
  size : w.heap.size ≤ w'.heap.size
  block : ∀ k, k < w.heap.size → k ≠ r → k ≠ g → w'.heap[k]? = w.heap[k]?

theorem Kept.refl (r g : Nat) (w : World) : Kept r g w w := ⟨rfl, rfl, rfl, Nat.le_refl _, fun _ _ _ _ => rfl⟩
theorem Kept.trans {r g : Nat} {a b c : World} (h : Kept r g a b) (k : Kept r g b c) : Kept r g a c :=
  ⟨k.os.trans h.os, k.tape.trans h.tape, k.output.trans h.output, Nat.le_trans h.size k.size, fun i hi h1 h2 => (k.block i (Nat.lt_of_lt_of_le hi h.size) h1 h2).trans (h.block i hi h1 h2)⟩
theorem Kept.drewN {r g : Nat} {a b : World} (h : Kept r g a b) (n : Nat) : Kept r g a (b.drewN n) := ⟨h.os, h.tape, h.output, h.size, h.block⟩
theorem Kept.of_drewN {r g : Nat} {a b : World} {n : Nat} (h : Kept r g (a.drewN n) b) : Kept r g a b := ⟨h.os, h.tape, h.output, h.size, h.block⟩
theorem Kept.wide {x r g : Nat} {a b : World} (h : Kept x x a b) (hx : x = r ∨ x = g) : Kept r g a b :=
  ⟨h.os, h.tape, h.output, h.size, fun k hk h1 h2 => h.block k hk (by rcases hx with rfl | rfl <;> assumption) (by rcases hx with rfl | rfl <;> assumption)⟩
theorem Kept.below {r g B : Nat} {a b : World} (h : Kept r g a b) (hr : B ≤ r) (hg : B ≤ g) (hB : B ≤ a.heap.size) : Below B a b :=
  ⟨h.os, h.tape, h.output, h.size, fun k hk => h.block k (by omega) (by omega) (by omega)⟩
theorem Kept.of_below {r g : Nat} {a b : World} (h : Below a.heap.size a b) : Kept r g a b := ⟨h.os, h.tape, h.output, h.size, fun k hk _ _ => h.block k hk⟩
theorem Kept.setCell {r g : Nat} {a b : World} (h : Kept r g a b) {p : Addr} (hp : p.block = r ∨ p.block = g) (u : Value) : Kept r g a (b.setCell p u) :=
  h.trans ⟨rfl, rfl, rfl, by simp [World.setCell], fun k hk h1 h2 => Below.heap_setCell _ _ _ _ (by rcases hp with e | e <;> omega)⟩
theorem Kept.setRow {r g : Nat} {a b : World} (h : Kept r g a b) {p : Nat} (hp : p = r ∨ p = g) (cs : Array Value) : Kept r g a (b.setRow p cs) :=
  h.trans ⟨rfl, rfl, rfl, by simp [World.setRow], fun k hk h1 h2 => setRow_other b p k cs (by rcases hp with e | e <;> omega)⟩
theorem Kept.alloc {r g : Nat} {a b : World} (h : Kept r g a b) (o : Obj) : Kept r g a (b.alloc o) :=
  h.trans ⟨rfl, rfl, rfl, by simp, fun k hk _ _ => Below.heap_alloc _ _ _ hk⟩

theorem Kept.set {r : Nat} {a b : World} (h : Kept r r a b) (o : Nat) (u : Value) : Kept r r a (b.setCell ⟨r, o, none⟩ u) := h.setCell (Or.inl rfl) u

/-- 'copy' into a row that is known whole: cs goes over, nothing else turns. -/
theorem run_copy_seg {P : Program} (w : World) (dT sT ty elem : TypeId) (hu : P.underlying dT = some (.slice elem)) (hsz : (P.info? elem).map (·.size) = some 1)
    (dp sp : Option Addr) (dLen dCap sLen sCap : Nat)
    (g off : Nat) (cur : List Value) (t : TypeId) (hg : w.heap[g]? = some (.cells cur.toArray t (0, 0))) (cs : List Value) (hn : cs.length = Nat.min sLen dLen)
    (hpos : 0 < cs.length → dp = some ⟨g, off, none⟩ ∧ ∃ ad, sp = some ad ∧ ∀ j v, cs[j]? = some v → w.cell? (ad.add j) = some v)
    (hfit : off + cs.length ≤ cur.length) (h1 : ∀ v ∈ cs, v.oneCell' = true) :
    ∃ w', (Builtin.copy_ #[dT, sT] ty #[.slice dp dLen dCap, .slice sp sLen sCap]).run P w = .ok (goInt cs.length) w' ∧ w'.heap[g]? = some (.cells (splice cur off cs).toArray t (0, 0)) ∧ Kept g g w w' := by
  by_cases h0 : cs.length = 0
  · obtain rfl : cs = [] := List.eq_nil_of_length_eq_zero h0
    exact ⟨w, run_copy_none (P := P) w dT sT ty elem dp sp dLen dCap sLen sCap hu hsz (by simpa using hn.symm), by simpa [splice] using hg, Kept.refl _ _ _⟩
  · obtain ⟨rfl, ad, rfl, hsrc⟩ := hpos (by omega)
    refine ⟨_, run_copy_row (P := P) w dT sT ty elem g off dLen dCap ad sLen sCap cur.toArray t cs hu hsz hg hn hsrc (by simpa using hfit) h1, ?_, (Kept.refl _ _ _).setRow (Or.inl rfl) _⟩
    simpa [splice] using setRow_heap w g _ _ t _ hg

theorem heap_setCell_same {w : World} {r : Nat} {C : Array Value} {t : TypeId} (h : w.heap[r]? = some (.cells C t)) (o : Nat) (v : Value) : (w.setCell ⟨r, o, none⟩ v).heap[r]? = some (.cells (C.setIfInBounds o v) t) := by
  simp [World.setCell, Array.getElem?_modify, h]

/-- Numbers as bytes in memory. -/
def vals (l : List Int) : List Value := l.map (Value.int .u8)
theorem vals_length (l : List Int) : (vals l).length = l.length := by simp [vals]
theorem vals_splice (l : List Int) (o : Nat) (b : List Int) : splice (vals l) o (vals b) = vals (splice l o b) := by simp [splice, vals]
theorem vals_one (l : List Int) : ∀ v ∈ vals l, v.oneCell' = true := by intro v hv; simp [vals] at hv; obtain ⟨a, _, rfl⟩ := hv; rfl
theorem vals_at (l : List Int) (j : Nat) (v : Value) (h : (vals l)[j]? = some v) : j < l.length ∧ v = .int .u8 (l.getD j 0) := by
  simp [vals, List.getElem?_map] at h
  obtain ⟨x, hx, rfl⟩ := h
  have := (List.getElem?_eq_some_iff.1 hx).1
  refine ⟨this, ?_⟩
  simp [List.getD, hx]

theorem getD_splice (L : List Int) (off : Nat) (cs : List Int) (k : Nat) (h : off + cs.length ≤ L.length) :
    (splice L off cs).getD k 0 = if k < off then L.getD k 0 else if k < off + cs.length then cs.getD (k - off) 0 else L.getD k 0 := by
  unfold splice
  simp only [List.getD, List.getElem?_append, List.length_take, List.getElem?_take, List.getElem?_drop]
  have e : min off L.length = off := by omega
  rw [e]
  by_cases h1 : k < off
  · simp [h1]
  · by_cases h2 : k < off + cs.length
    · have h3 : k - off < cs.length := by omega
      simp [h1, h2, h3]
    · have h3 : ¬ k - off < cs.length := by omega
      simp [h1, h2, h3]
      congr 2
      omega

/-- What came in as a slice of bytes: its numbers bs, which lie in a block (where there are any). -/
structure Src (w : World) (a : Option Addr) (len cap : Nat) (bs : List Int) : Prop where
  hlen : bs.length = len
  hcap : len ≤ cap
  hmax : cap ≤ maxLen
  nil : a = none → cap = 0
  lies : 0 < len → ∃ b o, a = some ⟨b, o, none⟩ ∧ ∀ i, i < len → w.cell? ⟨b, o + i, none⟩ = some (.int .u8 (bs.getD i 0))
  byte : ∀ x ∈ bs, 0 ≤ x ∧ x < 256

theorem add_none (b o j : Nat) : (⟨b, o, none⟩ : Addr).add j = ⟨b, o + j, none⟩ := by unfold Addr.add; split <;> simp_all
theorem lt_of_some {w : World} {r : Nat} {o : Obj} (h : w.heap[r]? = some o) : r < w.heap.size := (Array.getElem?_eq_some_iff.1 h).1
theorem Kept.at_ {r g : Nat} {w w' : World} (h : Kept r g w w') {k : Nat} {o : Obj} (hk : w.heap[k]? = some o) (h1 : k ≠ r) (h2 : k ≠ g) : w'.heap[k]? = some o := by rw [h.block k (lt_of_some hk) h1 h2]; exact hk

theorem info5 : (Tryd.prog.info? 5).map (·.size) = some 1 := by kernel_rfl

theorem info5' : (Tryd.prog.info? 5).map (fun i => (i.zero, i.size, i.bytes)) = some (some (.int .u8 0), 1, 1) := by kernel_rfl

def zeros (n : Nat) : List Int := List.replicate n 0
theorem zeros_length (n : Nat) : (zeros n).length = n := by simp [zeros]

/-- 'make([]byte, n)': a new block of n zeros. -/
theorem run_make0 (n : Nat) (hn : n ≤ 4194304) (w : World) : (Instr.makeSlice 30 (.int .i64 n) (.int .i64 n)).run Tryd.prog w = .ok (.slice (some ⟨w.heap.size, 0, none⟩) n n) (w.alloc (.cells (vals (zeros n)).toArray 5)) := by
  have h := run_make_row' (P := Tryd.prog) 30 5 (.int .u8 0) 1 Tryd.underlying30 info5' rfl .i64 .i64 n (by omega) (by omega) w
  rw [h]
  have e : madeCells #[Value.int .u8 0] n = (vals (zeros n)).toArray := by
    rw [← Array.toList_inj, toList_madeCells_one]
    simp [vals, zeros]
  rw [e]

theorem splice_all (L cs : List Int) (h : cs.length = L.length) : splice L 0 cs = cs := by
  simp [splice, h]
theorem splice_two (L a b : List Int) (h : a.length + b.length = L.length) : splice (splice L 0 a) a.length b = a ++ b := by
  simp [splice, ← h]

theorem row_cell {w : World} {g : Nat} {zs : List Int} (hg : w.heap[g]? = some (.cells (vals zs).toArray 5)) (i : Nat) (hi : i < zs.length) : w.cell? ⟨g, i, none⟩ = some (.int .u8 (zs.getD i 0)) := by
  simp [World.cell?, hg, vals, List.getD, hi]
theorem alloc_new (w : World) (o : Obj) : (w.alloc o).heap[w.heap.size]? = some o := by
  show (w.heap.push o)[w.heap.size]? = _
  simp
theorem alloc_new2 (w : World) (o1 o2 : Obj) : ((w.alloc o1).alloc o2).heap[w.heap.size + 1]? = some o2 := by
  have := alloc_new (w.alloc o1) o2
  rwa [show (w.alloc o1).heap.size = w.heap.size + 1 by simp] at this
theorem alloc_old {w : World} {g : Nat} {x : Obj} (o : Obj) (h : w.heap[g]? = some x) : (w.alloc o).heap[g]? = some x := by
  rw [Below.heap_alloc _ _ _ (lt_of_some h)]; exact h
theorem Kept.below_new {w w' : World} {h : Nat} {B : Nat} (k : Kept h h w w') (hB : B ≤ h) (hs : B ≤ w.heap.size) : Below B w w' := k.below hB hB hs

theorem src_block {w : World} {b : Nat} {l : List Int} {fr : Nat × Nat} {n : Nat} (hg : w.heap[b]? = some (.cells (vals l).toArray 5 fr)) (hn : l.length = n) (hm : n ≤ 4194304) (hb : ∀ x ∈ l, 0 ≤ x ∧ x < 256) : Src w (some ⟨b, 0, none⟩) n n l :=
  ⟨hn, Nat.le_refl _, by unfold maxLen; omega, fun h => (by cases h), fun _ => ⟨b, 0, rfl, fun i hi => by rw [Nat.zero_add]; simp [World.cell?, hg, vals, List.getD, show i < l.length by omega]⟩, hb⟩


/-- 'clear' of a part of a row that is known whole. -/
theorem run_clear_seg (w : World) (ty : TypeId) (g off n c : Nat) (zs : List Int) (hg : w.heap[g]? = some (.cells (vals zs).toArray 5)) (hfit : off + n ≤ zs.length) :
    ∃ w', (Builtin.clear_ #[30] ty #[.slice (some ⟨g, off, none⟩) n c]).run Tryd.prog w = .ok (.tuple #[]) w' ∧ w'.heap[g]? = some (.cells (vals (splice zs off (zeros n))).toArray 5) ∧ Kept g g w w' := by
  have hz : ∀ w, (zeroValue 5).run Tryd.prog w = .ok (.int .u8 0) w := fun w => by kernel_rfl
  by_cases h0 : n = 0
  · subst h0
    refine ⟨w, ?_, by simpa [splice, zeros] using hg, Kept.refl _ _ _⟩
    simp [Builtin.clear_, run_underlying Tryd.underlying30]
  · have hst := run_storeCells_at (P := Tryd.prog) g off 5 (List.replicate n (.int .u8 0)) 0 (vals zs).toArray w hg (by simp [vals]; omega) (by intro v hv; rw [List.eq_of_mem_replicate hv]; rfl)
    simp only [Nat.add_zero] at hst
    have hzc : (Builtin.zeroCells #[Value.int .u8 0] n).toList = List.replicate n (.int .u8 0) := by
      simp [Builtin.zeroCells]
      apply List.ext_getElem
      · simp
      · intro i h1 h2
        simp [Nat.mod_one]
    obtain ⟨m, rfl⟩ : ∃ m, n = m + 1 := ⟨n - 1, by omega⟩
    have er : (List.take off (vals zs) ++ List.replicate (m + 1) (Value.int .u8 0) ++ List.drop (off + (List.replicate (m + 1) (Value.int .u8 0)).length) (vals zs)) = vals (splice zs off (zeros (m + 1))) := by
      simp [splice, vals, zeros, List.map_take, List.map_drop]
    have hst2 : (storeCells ⟨g, off, none⟩ (List.replicate (m + 1) (Value.int .u8 0))).run Tryd.prog w = .ok () (w.setRow g (vals (splice zs off (zeros (m + 1)))).toArray) := by
      rw [← er]; exact hst
    clear hst er
    refine ⟨w.setRow g (vals (splice zs off (zeros (m + 1)))).toArray, ?_, setRow_heap w g _ _ 5 _ hg, (Kept.refl _ _ _).setRow (Or.inl rfl) _⟩
    simp [Builtin.clear_, run_underlying Tryd.underlying30, hz, Value.cells, hzc, hst2]

/-- A slab that New made: bl blocks of sz bytes, the words ws of its free set, its arena in block g. -/
def hdr (bl sz : Nat) (ws : List Nat) (g : Nat) : Obj := .cells ((Value.bool true :: .int .i64 bl :: .int .i64 sz :: (ws.map fun x => Value.int .u64 (x : Nat))) ++ [Value.slice (some ⟨g, 0, none⟩) (bl * sz) (bl * sz)]).toArray 59

theorem hdr_cells {w : World} {r bl sz g : Nat} {ws : List Nat} (h : w.heap[r]? = some (hdr bl sz ws g)) (hl : ws.length = 64) :
    w.cell? ⟨r, 0, none⟩ = some (.bool true) ∧ w.cell? ⟨r, 1, none⟩ = some (.int .i64 bl) ∧ w.cell? ⟨r, 2, none⟩ = some (.int .i64 sz) ∧ WordsAt w r 3 ws ∧ w.cell? ⟨r, 67, none⟩ = some (.slice (some ⟨g, 0, none⟩) (bl * sz) (bl * sz)) := by
  unfold hdr at h
  refine ⟨by simp [World.cell?, h], by simp [World.cell?, h], by simp [World.cell?, h], ⟨fun i hi => ?_⟩, ?_⟩
  · simp only [World.cell?, h]
    rw [Nat.add_comm 3 i]
    simp [List.getElem?_append, hl, hi, List.getD]
  · simp only [World.cell?, h]
    simp [List.getElem?_append, hl]

theorem hdr_frozen {w : World} {r bl sz g : Nat} {ws : List Nat} (h : w.heap[r]? = some (hdr bl sz ws g)) (o : Nat) : w.frozen? ⟨r, o, none⟩ = false := by
  unfold hdr at h
  simp [World.frozen?, h]

theorem hdr_set {w : World} {r bl sz g : Nat} {ws : List Nat} (h : w.heap[r]? = some (hdr bl sz ws g)) (hl : ws.length = 64) (q x : Nat) (hq : q < 64) : (w.setCell ⟨r, 3 + q, none⟩ (.int .u64 (x : Nat))).heap[r]? = some (hdr bl sz (ws.set q x) g) := by
  unfold hdr at h ⊢
  rw [heap_setCell_same h]
  congr 2
  apply Array.ext'
  rw [Nat.add_comm 3 q]
  simp [List.set_append, hl, hq, List.map_set]

theorem add_at (r bl sz g b : Nat) (ws : List Nat) (w : World) (hb : b < 4096) (h : w.heap[r]? = some (hdr bl sz ws g)) (hl : ws.length = 64) (hlt : ∀ i, ws.getD i 0 < 18446744073709551616) :
    Calls Tryd.prog 26 #[.pointer (some ⟨r, 3, none⟩), .int .i64 b] w fun e w' => e = .returned (.tuple #[]) ∧ w'.heap[r]? = some (hdr bl sz (wset ws b) g) ∧ Kept r r w w' := by
  obtain ⟨_, _, _, hw, _⟩ := hdr_cells h hl
  refine (add_core r 3 b (b / 64) (2 ^ (b % 64)) _ _ w hb (by omega) (by omega) (hw.cell _ (by omega)) (hdr_frozen h _) rfl (bits_or_u64_nat _ _ (hlt _) (pow_lt64 b))).mono ?_
  rintro e w' ⟨rfl, n, rfl⟩
  exact ⟨rfl, hdr_set h hl _ _ (by omega), ((Kept.refl r r w).set _ _).drewN n⟩

theorem remove_at (r bl sz g b : Nat) (ws : List Nat) (w : World) (hb : b < 4096) (h : w.heap[r]? = some (hdr bl sz ws g)) (hl : ws.length = 64) (hlt : ∀ i, ws.getD i 0 < 18446744073709551616) :
    Calls Tryd.prog 29 #[.pointer (some ⟨r, 3, none⟩), .int .i64 b] w fun e w' => e = .returned (.tuple #[]) ∧ w'.heap[r]? = some (hdr bl sz (wclr ws b) g) ∧ Kept r r w w' := by
  obtain ⟨_, _, _, hw, _⟩ := hdr_cells h hl
  refine (remove_core r 3 b (b / 64) (2 ^ (b % 64)) _ _ w hb (by omega) (by omega) (hw.cell _ (by omega)) (hdr_frozen h _) rfl (bits_andNot_u64_nat _ _ (hlt _) (pow_lt64 b))).mono ?_
  rintro e w' ⟨rfl, n, rfl⟩
  exact ⟨rfl, hdr_set h hl _ _ (by omega), ((Kept.refl r r w).set _ _).drewN n⟩

end Go.Proofs.YtnikjcinleghbaaDoor
