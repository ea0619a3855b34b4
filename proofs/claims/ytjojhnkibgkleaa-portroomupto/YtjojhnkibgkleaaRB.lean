/-
  The inner functions of package ring (advance, pieces): what they answer and what they write, at a ring that was made; conditions as each theorem has them.
-/
import Derived.Test.YtjojhnkibgkleaaRA
import Derived.Laws.CopyOwn
import Derived.Laws.IdiomCopy
set_option linter.unusedSimpArgs false
set_option linter.unusedVariables false
set_option maxRecDepth 8000
namespace Go.Proofs.Ytjojhnkibgkleaa
open Go.RowKit

theorem hide {p : Prop} (h : p) : Hid p := h

/-- Nothing that was there has turned but what lies in the blocks r and g. -/
structure Kept (r g : Nat) (w w' : World) : Prop where
  os : w'.os = w.os
  tape : w'.tape = w.tape
  output : w'.output = w.output
  size : w.heap.size ≤ w'.heap.size
  block : ∀ k, k < w.heap.size → k ≠ r → k ≠ g → w'.heap[k]? = w.heap[k]?

theorem Kept.refl (r g : Nat) (w : World) : Kept r g w w := ⟨rfl, rfl, rfl, Nat.le_refl _, fun _ _ _ _ => rfl⟩
theorem Kept.trans {r g : Nat} {a b c : World} (h : Kept r g a b) (k : Kept r g b c) : Kept r g a c :=
  ⟨k.os.trans h.os, k.tape.trans h.tape, k.output.trans h.output, Nat.le_trans h.size k.size, fun i hi h1 h2 => (k.block i (Nat.lt_of_lt_of_le hi h.size) h1 h2).trans (h.block i hi h1 h2)⟩
theorem Kept.drewN {r g : Nat} {a b : World} (h : Kept r g a b) (n : Nat) : Kept r g a (b.drewN n) := ⟨h.os, h.tape, h.output, h.size, h.block⟩
theorem Kept.of_drewN {r g : Nat} {a b : World} {n : Nat} (h : Kept r g (a.drewN n) b) : Kept r g a b := ⟨h.os, h.tape, h.output, h.size, h.block⟩
theorem Kept.wide {x r g : Nat} {a b : World} (h : Kept x x a b) (hx : x = r ∨ x = g) : Kept r g a b :=
  ⟨h.os, h.tape, h.output, h.size, fun k hk h1 h2 => h.block k hk (by rcases hx with rfl | rfl <;> assumption) (by rcases hx with rfl | rfl <;> assumption)⟩
theorem Kept.below {r g B : Nat} {a b : World} (h : Kept r g a b) (hr : B ≤ r) (hg : B ≤ g) (hB : B ≤ a.heap.size) : Below B a b :=
  ⟨h.os, h.tape, h.output, h.size, fun k hk => h.block k (by omega) (by omega) (by omega)⟩
theorem Kept.of_below {r g : Nat} {a b : World} (h : Below a.heap.size a b) : Kept r g a b := ⟨h.os, h.tape, h.output, h.size, fun k hk _ _ => h.block k hk⟩
theorem Kept.setCell {r g : Nat} {a b : World} (h : Kept r g a b) {p : Addr} (hp : p.block = r ∨ p.block = g) (u : Value) : Kept r g a (b.setCell p u) :=
  h.trans ⟨rfl, rfl, rfl, by simp [World.setCell], fun k hk h1 h2 => Below.heap_setCell _ _ _ _ (by rcases hp with e | e <;> omega)⟩
theorem Kept.setRow {r g : Nat} {a b : World} (h : Kept r g a b) {p : Nat} (hp : p = r ∨ p = g) (cs : Array Value) : Kept r g a (b.setRow p cs) :=
  h.trans ⟨rfl, rfl, rfl, by simp [World.setRow], fun k hk h1 h2 => setRow_other b p k cs (by rcases hp with e | e <;> omega)⟩
theorem Kept.alloc {r g : Nat} {a b : World} (h : Kept r g a b) (o : Obj) : Kept r g a (b.alloc o) :=
  h.trans ⟨rfl, rfl, rfl, by simp, fun k hk _ _ => Below.heap_alloc _ _ _ hk⟩

theorem Kept.set {r : Nat} {a b : World} (h : Kept r r a b) (o : Nat) (u : Value) : Kept r r a (b.setCell ⟨r, o, none⟩ u) := h.setCell (Or.inl rfl) u

/-- 'copy' into a row that is known whole: cs goes over, nothing else turns. -/
theorem run_copy_seg {P : Program} (w : World) (dT sT ty elem : TypeId) (hu : P.underlying dT = some (.slice elem)) (hsz : (P.info? elem).map (·.size) = some 1)
    (dp sp : Option Addr) (dLen dCap sLen sCap : Nat)
    (g off : Nat) (cur : List Value) (t : TypeId) (hg : w.heap[g]? = some (.cells cur.toArray t (0, 0))) (cs : List Value) (hn : cs.length = Nat.min sLen dLen)
    (hpos : 0 < cs.length → dp = some ⟨g, off, none⟩ ∧ ∃ ad, sp = some ad ∧ ∀ j v, cs[j]? = some v → w.cell? (ad.add j) = some v)
    (hfit : off + cs.length ≤ cur.length) (h1 : ∀ v ∈ cs, v.oneCell' = true) :
    ∃ w', (Builtin.copy_ #[dT, sT] ty #[.slice dp dLen dCap, .slice sp sLen sCap]).run P w = .ok (goInt cs.length) w' ∧ w'.heap[g]? = some (.cells (splice cur off cs).toArray t (0, 0)) ∧ Kept g g w w' := by
  by_cases h0 : cs.length = 0
  · obtain rfl : cs = [] := List.eq_nil_of_length_eq_zero h0
    exact ⟨w, run_copy_none (P := P) w dT sT ty elem dp sp dLen dCap sLen sCap hu hsz (by simpa using hn.symm), by simpa [splice] using hg, Kept.refl _ _ _⟩
  · obtain ⟨rfl, ad, rfl, hsrc⟩ := hpos (by omega)
    refine ⟨_, run_copy_row (P := P) w dT sT ty elem g off dLen dCap ad sLen sCap cur.toArray t cs hu hsz hg hn hsrc (by simpa using hfit) h1, ?_, (Kept.refl _ _ _).setRow (Or.inl rfl) _⟩
    simpa [splice] using setRow_heap w g _ _ t _ hg

theorem heap_setCell_same {w : World} {r : Nat} {C : Array Value} {t : TypeId} (h : w.heap[r]? = some (.cells C t)) (o : Nat) (v : Value) : (w.setCell ⟨r, o, none⟩ v).heap[r]? = some (.cells (C.setIfInBounds o v) t) := by
  simp [World.setCell, Array.getElem?_modify, h]

/-- A place goes on by m in an array of n. -/
def goOn (p m n : Int) : Int := if n ≤ p + m then p + m - n else p + m


set_option maxHeartbeats 1000000 in
theorem advance_in (r g n : Nat) (ip ic op oc m : Int) (w : World) (hb : w.heap[r]? = some (hdr g n ip ic op oc)) (hp0 : 0 ≤ ip) (hp1 : ip ≤ n) (hn : n ≤ 65536) (hm0 : 0 ≤ m) (hm1 : m ≤ 65536) :
    Calls Try.prog 95 #[.pointer (some ⟨r, 2, none⟩), .int .i64 m, .int .i64 n] w fun e w' => e = .returned (.tuple #[]) ∧ w'.heap[r]? = some (hdr g n (goOn ip m n) ((ic + m) % 4294967296) op oc) ∧ Kept r r w w' := by
  obtain ⟨h0, h1, h2, h3, h4, h5⟩ := hdr_cells hb
  have hf := hdr_frozen hb
  have HB : Hid (w.heap[r]? = some (hdr g n ip ic op oc)) := hb
  clear hb
  unfold goOn
  by_cases hc : (n : Int) ≤ ip + m
  · go_enter Try.func95, Try.ntmps95
    go_wp2
    go_end0
    refine ⟨rfl, ?_, (((Kept.refl r r w).set _ _).set _ _).set _ _⟩
    have h := HB.out
    unfold hdr at h ⊢
    rw [heap_setCell_same (heap_setCell_same (heap_setCell_same h _ _) _ _) _ _]
    simp
  · go_enter Try.func95, Try.ntmps95
    go_wp2
    go_end0
    refine ⟨rfl, ?_, ((Kept.refl r r w).set _ _).set _ _⟩
    have h := HB.out
    unfold hdr at h ⊢
    rw [heap_setCell_same (heap_setCell_same h _ _) _ _]
    simp

set_option maxHeartbeats 1000000 in
theorem advance_out (r g n : Nat) (ip ic op oc m : Int) (w : World) (hb : w.heap[r]? = some (hdr g n ip ic op oc)) (hp0 : 0 ≤ op) (hp1 : op ≤ n) (hn : n ≤ 65536) (hm0 : 0 ≤ m) (hm1 : m ≤ 65536) :
    Calls Try.prog 95 #[.pointer (some ⟨r, 4, none⟩), .int .i64 m, .int .i64 n] w fun e w' => e = .returned (.tuple #[]) ∧ w'.heap[r]? = some (hdr g n ip ic (goOn op m n) ((oc + m) % 4294967296)) ∧ Kept r r w w' := by
  obtain ⟨h0, h1, h2, h3, h4, h5⟩ := hdr_cells hb
  have hf := hdr_frozen hb
  have HB : Hid (w.heap[r]? = some (hdr g n ip ic op oc)) := hb
  clear hb
  unfold goOn
  by_cases hc : (n : Int) ≤ op + m
  · go_enter Try.func95, Try.ntmps95
    go_wp2
    go_end0
    refine ⟨rfl, ?_, (((Kept.refl r r w).set _ _).set _ _).set _ _⟩
    have h := HB.out
    unfold hdr at h ⊢
    rw [heap_setCell_same (heap_setCell_same (heap_setCell_same h _ _) _ _) _ _]
    simp
  · go_enter Try.func95, Try.ntmps95
    go_wp2
    go_end0
    refine ⟨rfl, ?_, ((Kept.refl r r w).set _ _).set _ _⟩
    have h := HB.out
    unfold hdr at h ⊢
    rw [heap_setCell_same (heap_setCell_same h _ _) _ _]
    simp

/-- The next m bytes lie ahead of the array's end. -/
theorem pieces_one (r o g n p m : Nat) (w : World) (hc : w.cell? ⟨r, o, none⟩ = some (.int .i64 p)) (hp : p < n ∨ n = 0 ∧ p = 0) (hn : n ≤ 65536) (hm : m ≤ n - p) :
    Calls Try.prog 96 #[.pointer (some ⟨r, o, none⟩), .slice (some ⟨g, 0, none⟩) n n, .int .i64 m] w fun e w' => e = .returned (.tuple #[.slice (some ⟨g, p, none⟩) m (n - p), .slice none 0 0]) ∧ ∃ k, w' = w.drewN k := by
  rcases hp with hp | ⟨rfl, rfl⟩
  · go_enter Try.func96, Try.ntmps96
    go_wp2
    go_ret2
    exact ⟨rfl, 0, rfl⟩
  · obtain rfl : m = 0 := by omega
    go_enter Try.func96, Try.ntmps96
    go_wp2
    go_ret2
    exact ⟨rfl, 0, rfl⟩

/-- They go on at its beginning. -/
theorem pieces_two (r o g n p m : Nat) (w : World) (hc : w.cell? ⟨r, o, none⟩ = some (.int .i64 p)) (hp : p < n) (hn : n ≤ 65536) (hm : n - p < m) (hm1 : m ≤ n) :
    Calls Try.prog 96 #[.pointer (some ⟨r, o, none⟩), .slice (some ⟨g, 0, none⟩) n n, .int .i64 m] w fun e w' => e = .returned (.tuple #[.slice (some ⟨g, p, none⟩) (n - p) (n - p), .slice (some ⟨g, 0, none⟩) (m - (n - p)) n]) ∧ ∃ k, w' = w.drewN k := by
  go_enter Try.func96, Try.ntmps96
  go_wp2
  go_quiet (fail)
  go_wp2
  go_ret2
  exact ⟨rfl, _, rfl⟩

end Go.Proofs.Ytjojhnkibgkleaa
