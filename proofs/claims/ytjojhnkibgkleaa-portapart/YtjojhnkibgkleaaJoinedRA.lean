/-
  The leaf functions of package ring: what isMade, within, Len, Cap, Free and Moved answer, at a ring that was made and at one that was not; no conditions but those in each theorem.; The inner functions of package ring (advance, pieces): what they answer and what they write, at a ring that was made; The inner functions write and read of package ring: what they answer and what they write, at a ring that was made; The inner function read, and New and Clone, of package ring: what they answer and what they make; conditions as each theorem has them.
-/
import Derived.Test.YtjojhnkibgkleaaRows
import Derived.WalkKit
import Derived.WalkSpells
import Derived.WalkLawsBesides
import Derived.BigQuiet
import Derived.Laws.CopyOwn
import Derived.Laws.IdiomCopy
import Derived.Deep.OwnRows
set_option linter.unusedSimpArgs false
set_option linter.unusedVariables false
set_option maxRecDepth 8000
namespace Go.Proofs.Ytjojhnkibgkleaa
open Go.RowKit

set_option maxHeartbeats 400000 in
theorem isMade_nil (w : World) : Calls Try.prog 89 #[.pointer none] w fun e w' => e = .returned (.bool false) ∧ w = w' := by
  go_enter Try.func89, Try.ntmps89
  go_wp2
  go_ret
  exact ⟨rfl, rfl⟩

set_option maxHeartbeats 400000 in
theorem isMade_at (r : Nat) (m : Bool) (w : World) (h0 : w.cell? ⟨r, 0, none⟩ = some (.bool m)) : Calls Try.prog 89 #[.pointer (some ⟨r, 0, none⟩)] w fun e w' => e = .returned (.bool m) ∧ w = w' := by
  go_enter Try.func89, Try.ntmps89
  go_wp2
  go_ret
  exact ⟨rfl, rfl⟩

def inside (n most : Int) : Int := if n < 0 then 0 else if most < n then most else n

set_option maxHeartbeats 400000 in
theorem within_any (n most : Int) (w : World) : Calls Try.prog 91 #[.int .i64 n, .int .i64 most] w fun e w' => e = .returned (.int .i64 (inside n most)) ∧ w = w' := by
  unfold inside
  by_cases h1 : n < 0
  · go_enter Try.func91, Try.ntmps91
    go_wp2
    go_ret
    simp [h1]
  · by_cases h2 : most < n
    · go_enter Try.func91, Try.ntmps91
      go_wp2
      go_ret
      simp [h1, h2]
    · go_enter Try.func91, Try.ntmps91
      go_wp2
      go_ret
      simp [h1, h2]

/-- A pointer to no ring that New made: nil, or to one that does not say that it was made. -/
def Unmade (w : World) (v : Value) : Prop := v = .pointer none ∨ ∃ r : Nat, v = .pointer (some ⟨r, 0, none⟩) ∧ w.cell? ⟨r, 0, none⟩ = some (.bool false)

/-- The cells of a ring that New made: its array lies in block g, n bytes. -/
def hdr (g n : Nat) (ip ic op oc : Int) : Obj := .cells #[.bool true, .slice (some ⟨g, 0, none⟩) n n, .int .i64 ip, .int .u32 ic, .int .i64 op, .int .u32 oc] 117

theorem hdr_cells {w : World} {r g n : Nat} {ip ic op oc : Int} (h : w.heap[r]? = some (hdr g n ip ic op oc)) :
    w.cell? ⟨r, 0, none⟩ = some (.bool true) ∧ w.cell? ⟨r, 1, none⟩ = some (.slice (some ⟨g, 0, none⟩) n n) ∧ w.cell? ⟨r, 2, none⟩ = some (.int .i64 ip) ∧ w.cell? ⟨r, 3, none⟩ = some (.int .u32 ic) ∧ w.cell? ⟨r, 4, none⟩ = some (.int .i64 op) ∧ w.cell? ⟨r, 5, none⟩ = some (.int .u32 oc) := by
  unfold hdr at h
  simp [World.cell?, h]

theorem hdr_frozen {w : World} {r g n : Nat} {ip ic op oc : Int} (h : w.heap[r]? = some (hdr g n ip ic op oc)) (o : Nat) : w.frozen? ⟨r, o, none⟩ = false := by
  unfold hdr at h
  simp [World.frozen?, h]

set_option maxHeartbeats 400000 in
theorem len_un (v : Value) (w : World) (hv : Unmade w v) : Calls Try.prog 68 #[v] w fun e w' => e = .returned (.int .i64 0) ∧ w = w' := by
  rcases hv with rfl | ⟨r, rfl, h0⟩
  all_goals
    go_enter Try.func68, Try.ntmps68
    go_wp2
    go_ret
    exact ⟨rfl, rfl⟩

set_option maxHeartbeats 400000 in
theorem cap_un (v : Value) (w : World) (hv : Unmade w v) : Calls Try.prog 94 #[v] w fun e w' => e = .returned (.int .i64 0) ∧ w = w' := by
  rcases hv with rfl | ⟨r, rfl, h0⟩
  all_goals
    go_enter Try.func94, Try.ntmps94
    go_wp2
    go_ret
    exact ⟨rfl, rfl⟩

set_option maxHeartbeats 400000 in
theorem free_un (v : Value) (w : World) (hv : Unmade w v) : Calls Try.prog 80 #[v] w fun e w' => e = .returned (.int .i64 0) ∧ w = w' := by
  rcases hv with rfl | ⟨r, rfl, h0⟩
  all_goals
    go_enter Try.func80, Try.ntmps80
    go_wp2
    go_ret
    exact ⟨rfl, rfl⟩

set_option maxHeartbeats 400000 in
theorem peek_un (v : Value) (n : Int) (w : World) (hv : Unmade w v) : Calls Try.prog 69 #[v, .int .i64 n] w fun e w' => e = .returned (.slice none 0 0) ∧ w = w' := by
  rcases hv with rfl | ⟨r, rfl, h0⟩
  all_goals
    go_enter Try.func69, Try.ntmps69
    go_wp2
    go_ret
    exact ⟨rfl, rfl⟩

set_option maxHeartbeats 400000 in
theorem drop_un (v : Value) (n : Int) (w : World) (hv : Unmade w v) : Calls Try.prog 81 #[v, .int .i64 n] w fun e w' => e = .returned (.int .i64 0) ∧ w = w' := by
  rcases hv with rfl | ⟨r, rfl, h0⟩
  all_goals
    go_enter Try.func81, Try.ntmps81
    go_wp2
    go_ret
    exact ⟨rfl, rfl⟩

set_option maxHeartbeats 400000 in
theorem take_un (v : Value) (n : Int) (w : World) (hv : Unmade w v) : Calls Try.prog 50 #[v, .int .i64 n] w fun e w' => e = .returned (.slice none 0 0) ∧ w = w' := by
  rcases hv with rfl | ⟨r, rfl, h0⟩
  all_goals
    go_enter Try.func50, Try.ntmps50
    go_wp2
    go_ret
    exact ⟨rfl, rfl⟩

set_option maxHeartbeats 400000 in
theorem clear_un (v : Value) (w : World) (hv : Unmade w v) : Calls Try.prog 82 #[v] w fun e w' => e = .returned (.tuple #[]) ∧ w = w' := by
  rcases hv with rfl | ⟨r, rfl, h0⟩
  all_goals
    go_enter Try.func82, Try.ntmps82
    go_wp2
    go_end0
    exact ⟨rfl, rfl⟩

set_option maxHeartbeats 400000 in
theorem clone_un (v : Value) (w : World) (hv : Unmade w v) : Calls Try.prog 75 #[v] w fun e w' => e = .returned (.pointer none) ∧ w = w' := by
  rcases hv with rfl | ⟨r, rfl, h0⟩
  all_goals
    go_enter Try.func75, Try.ntmps75
    go_wp2
    go_ret
    exact ⟨rfl, rfl⟩

set_option maxHeartbeats 400000 in
theorem put_un (v : Value) (b : Value) (w : World) (hv : Unmade w v) : Calls Try.prog 79 #[v, b] w fun e w' => e = .returned (.int .i64 0) ∧ w = w' := by
  rcases hv with rfl | ⟨r, rfl, h0⟩
  all_goals
    go_enter Try.func79, Try.ntmps79
    go_wp2
    go_ret
    exact ⟨rfl, rfl⟩

set_option maxHeartbeats 400000 in
theorem len_at (r g n : Nat) (ip ic op oc L : Int) (w : World) (hb : w.heap[r]? = some (hdr g n ip ic op oc)) (hL : (ic - oc) % 4294967296 = L) :
    Calls Try.prog 68 #[.pointer (some ⟨r, 0, none⟩)] w fun e w' => e = .returned (.int .i64 L) ∧ ∃ n, w' = w.drewN n := by
  obtain ⟨h0, h1, h2, h3, h4, h5⟩ := hdr_cells hb
  clear hb
  subst hL
  go_enter Try.func68, Try.ntmps68
  go_wp2
  go_quiet (fail)
  go_wp2
  go_ret
  exact ⟨rfl, _, rfl⟩

set_option maxHeartbeats 400000 in
theorem cap_at (r g n : Nat) (ip ic op oc : Int) (w : World) (hb : w.heap[r]? = some (hdr g n ip ic op oc)) :
    Calls Try.prog 94 #[.pointer (some ⟨r, 0, none⟩)] w fun e w' => e = .returned (.int .i64 n) ∧ w = w' := by
  obtain ⟨h0, h1, h2, h3, h4, h5⟩ := hdr_cells hb
  clear hb
  go_enter Try.func94, Try.ntmps94
  go_wp2
  go_ret
  exact ⟨rfl, rfl⟩

set_option maxHeartbeats 400000 in
theorem free_at (r g n : Nat) (ip ic op oc L : Int) (w : World) (hb : w.heap[r]? = some (hdr g n ip ic op oc)) (hL : (ic - oc) % 4294967296 = L) (hn : n ≤ 65536) :
    Calls Try.prog 80 #[.pointer (some ⟨r, 0, none⟩)] w fun e w' => e = .returned (.int .i64 (n - L)) ∧ ∃ n, w' = w.drewN n := by
  have hL0 : 0 ≤ L := by omega
  have hL1 : L < 4294967296 := by omega
  have H : Hid ((ic - oc) % 4294967296 = L) := hL
  clear hL
  go_enter Try.func80, Try.ntmps80
  go_wp2_with fail
  refine (cap_at r g n ip ic op oc _ hb).mono ?_
  rintro e w1 ⟨rfl, rfl⟩
  go_wp2_with fail
  refine (len_at r g n ip ic op oc L _ hb H.out).mono ?_
  rintro e w1 ⟨rfl, m, rfl⟩
  go_wp2
  go_ret
  exact ⟨rfl, _, rfl⟩

end Go.Proofs.Ytjojhnkibgkleaa

set_option linter.unusedSimpArgs false
set_option linter.unusedVariables false
set_option maxRecDepth 8000
namespace Go.Proofs.Ytjojhnkibgkleaa
open Go.RowKit

theorem hide {p : Prop} (h : p) : Hid p := h

/-- Nothing that was there has turned but what lies in the blocks r and g. -/
structure Kept (r g : Nat) (w w' : World) : Prop where
  os : w'.os = w.os
  tape : w'.tape = w.tape
  output : w'.output = w.output
  size : w.heap.size ≤ w'.heap.size
  block : ∀ k, k < w.heap.size → k ≠ r → k ≠ g → w'.heap[k]? = w.heap[k]?

theorem Kept.refl (r g : Nat) (w : World) : Kept r g w w := ⟨rfl, rfl, rfl, Nat.le_refl _, fun _ _ _ _ => rfl⟩
theorem Kept.trans {r g : Nat} {a b c : World} (h : Kept r g a b) (k : Kept r g b c) : Kept r g a c :=
  ⟨k.os.trans h.os, k.tape.trans h.tape, k.output.trans h.output, Nat.le_trans h.size k.size, fun i hi h1 h2 => (k.block i (Nat.lt_of_lt_of_le hi h.size) h1 h2).trans (h.block i hi h1 h2)⟩
theorem Kept.drewN {r g : Nat} {a b : World} (h : Kept r g a b) (n : Nat) : Kept r g a (b.drewN n) := ⟨h.os, h.tape, h.output, h.size, h.block⟩
theorem Kept.of_drewN {r g : Nat} {a b : World} {n : Nat} (h : Kept r g (a.drewN n) b) : Kept r g a b := ⟨h.os, h.tape, h.output, h.size, h.block⟩
theorem Kept.wide {x r g : Nat} {a b : World} (h : Kept x x a b) (hx : x = r ∨ x = g) : Kept r g a b :=
  ⟨h.os, h.tape, h.output, h.size, fun k hk h1 h2 => h.block k hk (by rcases hx with rfl | rfl <;> assumption) (by rcases hx with rfl | rfl <;> assumption)⟩
theorem Kept.below {r g B : Nat} {a b : World} (h : Kept r g a b) (hr : B ≤ r) (hg : B ≤ g) (hB : B ≤ a.heap.size) : Below B a b :=
  ⟨h.os, h.tape, h.output, h.size, fun k hk => h.block k (by omega) (by omega) (by omega)⟩
theorem Kept.of_below {r g : Nat} {a b : World} (h : Below a.heap.size a b) : Kept r g a b := ⟨h.os, h.tape, h.output, h.size, fun k hk _ _ => h.block k hk⟩
theorem Kept.setCell {r g : Nat} {a b : World} (h : Kept r g a b) {p : Addr} (hp : p.block = r ∨ p.block = g) (u : Value) : Kept r g a (b.setCell p u) :=
  h.trans ⟨rfl, rfl, rfl, by simp [World.setCell], fun k hk h1 h2 => Below.heap_setCell _ _ _ _ (by rcases hp with e | e <;> omega)⟩
theorem Kept.setRow {r g : Nat} {a b : World} (h : Kept r g a b) {p : Nat} (hp : p = r ∨ p = g) (cs : Array Value) : Kept r g a (b.setRow p cs) :=
  h.trans ⟨rfl, rfl, rfl, by simp [World.setRow], fun k hk h1 h2 => setRow_other b p k cs (by rcases hp with e | e <;> omega)⟩
theorem Kept.alloc {r g : Nat} {a b : World} (h : Kept r g a b) (o : Obj) : Kept r g a (b.alloc o) :=
  h.trans ⟨rfl, rfl, rfl, by simp, fun k hk _ _ => Below.heap_alloc _ _ _ hk⟩

theorem Kept.set {r : Nat} {a b : World} (h : Kept r r a b) (o : Nat) (u : Value) : Kept r r a (b.setCell ⟨r, o, none⟩ u) := h.setCell (Or.inl rfl) u

/-- 'copy' into a row that is known whole: cs goes over, nothing else turns. -/
theorem run_copy_seg {P : Program} (w : World) (dT sT ty elem : TypeId) (hu : P.underlying dT = some (.slice elem)) (hsz : (P.info? elem).map (·.size) = some 1)
    (dp sp : Option Addr) (dLen dCap sLen sCap : Nat)
    (g off : Nat) (cur : List Value) (t : TypeId) (hg : w.heap[g]? = some (.cells cur.toArray t (0, 0))) (cs : List Value) (hn : cs.length = Nat.min sLen dLen)
    (hpos : 0 < cs.length → dp = some ⟨g, off, none⟩ ∧ ∃ ad, sp = some ad ∧ ∀ j v, cs[j]? = some v → w.cell? (ad.add j) = some v)
    (hfit : off + cs.length ≤ cur.length) (h1 : ∀ v ∈ cs, v.oneCell' = true) :
    ∃ w', (Builtin.copy_ #[dT, sT] ty #[.slice dp dLen dCap, .slice sp sLen sCap]).run P w = .ok (goInt cs.length) w' ∧ w'.heap[g]? = some (.cells (splice cur off cs).toArray t (0, 0)) ∧ Kept g g w w' := by
  by_cases h0 : cs.length = 0
  · obtain rfl : cs = [] := List.eq_nil_of_length_eq_zero h0
    exact ⟨w, run_copy_none (P := P) w dT sT ty elem dp sp dLen dCap sLen sCap hu hsz (by simpa using hn.symm), by simpa [splice] using hg, Kept.refl _ _ _⟩
  · obtain ⟨rfl, ad, rfl, hsrc⟩ := hpos (by omega)
    refine ⟨_, run_copy_row (P := P) w dT sT ty elem g off dLen dCap ad sLen sCap cur.toArray t cs hu hsz hg hn hsrc (by simpa using hfit) h1, ?_, (Kept.refl _ _ _).setRow (Or.inl rfl) _⟩
    simpa [splice] using setRow_heap w g _ _ t _ hg

theorem heap_setCell_same {w : World} {r : Nat} {C : Array Value} {t : TypeId} (h : w.heap[r]? = some (.cells C t)) (o : Nat) (v : Value) : (w.setCell ⟨r, o, none⟩ v).heap[r]? = some (.cells (C.setIfInBounds o v) t) := by
  simp [World.setCell, Array.getElem?_modify, h]

/-- A place goes on by m in an array of n. -/
def goOn (p m n : Int) : Int := if n ≤ p + m then p + m - n else p + m


set_option maxHeartbeats 1000000 in
theorem advance_in (r g n : Nat) (ip ic op oc m : Int) (w : World) (hb : w.heap[r]? = some (hdr g n ip ic op oc)) (hp0 : 0 ≤ ip) (hp1 : ip ≤ n) (hn : n ≤ 65536) (hm0 : 0 ≤ m) (hm1 : m ≤ 65536) :
    Calls Try.prog 95 #[.pointer (some ⟨r, 2, none⟩), .int .i64 m, .int .i64 n] w fun e w' => e = .returned (.tuple #[]) ∧ w'.heap[r]? = some (hdr g n (goOn ip m n) ((ic + m) % 4294967296) op oc) ∧ Kept r r w w' := by
  obtain ⟨h0, h1, h2, h3, h4, h5⟩ := hdr_cells hb
  have hf := hdr_frozen hb
  have HB : Hid (w.heap[r]? = some (hdr g n ip ic op oc)) := hb
  clear hb
  unfold goOn
  by_cases hc : (n : Int) ≤ ip + m
  · go_enter Try.func95, Try.ntmps95
    go_wp2
    go_end0
    refine ⟨rfl, ?_, (((Kept.refl r r w).set _ _).set _ _).set _ _⟩
    have h := HB.out
    unfold hdr at h ⊢
    rw [heap_setCell_same (heap_setCell_same (heap_setCell_same h _ _) _ _) _ _]
    simp
  · go_enter Try.func95, Try.ntmps95
    go_wp2
    go_end0
    refine ⟨rfl, ?_, ((Kept.refl r r w).set _ _).set _ _⟩
    have h := HB.out
    unfold hdr at h ⊢
    rw [heap_setCell_same (heap_setCell_same h _ _) _ _]
    simp

set_option maxHeartbeats 1000000 in
theorem advance_out (r g n : Nat) (ip ic op oc m : Int) (w : World) (hb : w.heap[r]? = some (hdr g n ip ic op oc)) (hp0 : 0 ≤ op) (hp1 : op ≤ n) (hn : n ≤ 65536) (hm0 : 0 ≤ m) (hm1 : m ≤ 65536) :
    Calls Try.prog 95 #[.pointer (some ⟨r, 4, none⟩), .int .i64 m, .int .i64 n] w fun e w' => e = .returned (.tuple #[]) ∧ w'.heap[r]? = some (hdr g n ip ic (goOn op m n) ((oc + m) % 4294967296)) ∧ Kept r r w w' := by
  obtain ⟨h0, h1, h2, h3, h4, h5⟩ := hdr_cells hb
  have hf := hdr_frozen hb
  have HB : Hid (w.heap[r]? = some (hdr g n ip ic op oc)) := hb
  clear hb
  unfold goOn
  by_cases hc : (n : Int) ≤ op + m
  · go_enter Try.func95, Try.ntmps95
    go_wp2
    go_end0
    refine ⟨rfl, ?_, (((Kept.refl r r w).set _ _).set _ _).set _ _⟩
    have h := HB.out
    unfold hdr at h ⊢
    rw [heap_setCell_same (heap_setCell_same (heap_setCell_same h _ _) _ _) _ _]
    simp
  · go_enter Try.func95, Try.ntmps95
    go_wp2
    go_end0
    refine ⟨rfl, ?_, ((Kept.refl r r w).set _ _).set _ _⟩
    have h := HB.out
    unfold hdr at h ⊢
    rw [heap_setCell_same (heap_setCell_same h _ _) _ _]
    simp

/-- The next m bytes lie ahead of the array's end. -/
theorem pieces_one (r o g n p m : Nat) (w : World) (hc : w.cell? ⟨r, o, none⟩ = some (.int .i64 p)) (hp : p < n ∨ n = 0 ∧ p = 0) (hn : n ≤ 65536) (hm : m ≤ n - p) :
    Calls Try.prog 96 #[.pointer (some ⟨r, o, none⟩), .slice (some ⟨g, 0, none⟩) n n, .int .i64 m] w fun e w' => e = .returned (.tuple #[.slice (some ⟨g, p, none⟩) m (n - p), .slice none 0 0]) ∧ ∃ k, w' = w.drewN k := by
  rcases hp with hp | ⟨rfl, rfl⟩
  · go_enter Try.func96, Try.ntmps96
    go_wp2
    go_ret2
    exact ⟨rfl, 0, rfl⟩
  · obtain rfl : m = 0 := by omega
    go_enter Try.func96, Try.ntmps96
    go_wp2
    go_ret2
    exact ⟨rfl, 0, rfl⟩

/-- They go on at its beginning. -/
theorem pieces_two (r o g n p m : Nat) (w : World) (hc : w.cell? ⟨r, o, none⟩ = some (.int .i64 p)) (hp : p < n) (hn : n ≤ 65536) (hm : n - p < m) (hm1 : m ≤ n) :
    Calls Try.prog 96 #[.pointer (some ⟨r, o, none⟩), .slice (some ⟨g, 0, none⟩) n n, .int .i64 m] w fun e w' => e = .returned (.tuple #[.slice (some ⟨g, p, none⟩) (n - p) (n - p), .slice (some ⟨g, 0, none⟩) (m - (n - p)) n]) ∧ ∃ k, w' = w.drewN k := by
  go_enter Try.func96, Try.ntmps96
  go_wp2
  go_quiet (fail)
  go_wp2
  go_ret2
  exact ⟨rfl, _, rfl⟩

end Go.Proofs.Ytjojhnkibgkleaa

set_option linter.unusedSimpArgs false
set_option linter.unusedVariables false
set_option maxRecDepth 8000
namespace Go.Proofs.Ytjojhnkibgkleaa
open Go.RowKit

/-- Numbers as bytes in memory. -/
def vals (l : List Int) : List Value := l.map (Value.int .u8)
theorem vals_length (l : List Int) : (vals l).length = l.length := by simp [vals]
theorem vals_splice (l : List Int) (o : Nat) (b : List Int) : splice (vals l) o (vals b) = vals (splice l o b) := by simp [splice, vals]
theorem vals_one (l : List Int) : ∀ v ∈ vals l, v.oneCell' = true := by intro v hv; simp [vals] at hv; obtain ⟨a, _, rfl⟩ := hv; rfl
theorem vals_at (l : List Int) (j : Nat) (v : Value) (h : (vals l)[j]? = some v) : j < l.length ∧ v = .int .u8 (l.getD j 0) := by
  simp [vals, List.getElem?_map] at h
  obtain ⟨x, hx, rfl⟩ := h
  have := (List.getElem?_eq_some_iff.1 hx).1
  refine ⟨this, ?_⟩
  simp [List.getD, hx]

theorem getD_splice (L : List Int) (off : Nat) (cs : List Int) (k : Nat) (h : off + cs.length ≤ L.length) :
    (splice L off cs).getD k 0 = if k < off then L.getD k 0 else if k < off + cs.length then cs.getD (k - off) 0 else L.getD k 0 := by
  unfold splice
  simp only [List.getD, List.getElem?_append, List.length_take, List.getElem?_take, List.getElem?_drop]
  have e : min off L.length = off := by omega
  rw [e]
  by_cases h1 : k < off
  · simp [h1]
  · by_cases h2 : k < off + cs.length
    · have h3 : k - off < cs.length := by omega
      simp [h1, h2, h3]
    · have h3 : ¬ k - off < cs.length := by omega
      simp [h1, h2, h3]
      congr 2
      omega

/-- What came in as a slice of bytes: its numbers bs, which lie in a block (where there are any). -/
structure Src (w : World) (a : Option Addr) (len cap : Nat) (bs : List Int) : Prop where
  hlen : bs.length = len
  hcap : len ≤ cap
  hmax : cap ≤ maxLen
  nil : a = none → cap = 0
  lies : 0 < len → ∃ b o, a = some ⟨b, o, none⟩ ∧ ∀ i, i < len → w.cell? ⟨b, o + i, none⟩ = some (.int .u8 (bs.getD i 0))
  byte : ∀ x ∈ bs, 0 ≤ x ∧ x < 256

/-- bs laid into an array from p on, going round. -/
def lay (zs : List Int) (p : Nat) (bs : List Int) : List Int :=
  if bs.length ≤ zs.length - p then splice zs p bs else splice (splice zs p (bs.take (zs.length - p))) 0 (bs.drop (zs.length - p))

theorem add_none (b o j : Nat) : (⟨b, o, none⟩ : Addr).add j = ⟨b, o + j, none⟩ := by unfold Addr.add; split <;> simp_all
theorem lt_of_some {w : World} {r : Nat} {o : Obj} (h : w.heap[r]? = some o) : r < w.heap.size := (Array.getElem?_eq_some_iff.1 h).1
theorem Kept.at_ {r g : Nat} {w w' : World} (h : Kept r g w w') {k : Nat} {o : Obj} (hk : w.heap[k]? = some o) (h1 : k ≠ r) (h2 : k ≠ g) : w'.heap[k]? = some o := by rw [h.block k (lt_of_some hk) h1 h2]; exact hk

theorem info5 : (Try.prog.info? 5).map (·.size) = some 1 := by kernel_rfl

set_option maxHeartbeats 1000000 in
theorem write_one (r g n p : Nat) (ic op oc : Int) (zs : List Int) (a : Option Addr) (len cap : Nat) (bs : List Int) (w : World)
    (hb : w.heap[r]? = some (hdr g n p ic op oc)) (hg : w.heap[g]? = some (.cells (vals zs).toArray 5)) (hrg : r ≠ g) (hz : zs.length = n) (hn : n ≤ 65536) (hp : p < n ∨ n = 0 ∧ p = 0)
    (hs : Src w a len cap bs) (hm : len ≤ n - p) :
    Calls Try.prog 93 #[.pointer (some ⟨r, 2, none⟩), .slice (some ⟨g, 0, none⟩) n n, .slice a len cap] w fun e w' => e = .returned (.tuple #[]) ∧
      w'.heap[r]? = some (hdr g n (goOn p len n) ((ic + len) % 4294967296) op oc) ∧ w'.heap[g]? = some (.cells (vals (splice zs p bs)).toArray 5) ∧ Kept r g w w' := by
  obtain ⟨h0, h1, h2, h3, h4, h5⟩ := hdr_cells hb
  have hl := hs.hcap
  have HB := hide hb
  have HG := hide hg
  clear hb hg h0 h1 h3 h4 h5
  go_enter Try.func93, Try.ntmps93
  go_wp2_with fail
  refine (pieces_one r 2 g n p len _ h2 hp hn hm).mono ?_
  rintro e w1 ⟨rfl, k1, rfl⟩
  go_wp2_with fail
  obtain ⟨w2, hr, hg2, hk2⟩ := run_copy_seg (P := Try.prog) (w.drewN k1) 45 45 3 5 Try.underlying45 info5 (some ⟨g, p, none⟩) a len (n - p) len cap g p (vals zs) 5 HG.out (vals bs) (by rw [vals_length, hs.hlen]; simp)
    (fun hpos => ⟨rfl, by
      rw [vals_length, hs.hlen] at hpos
      obtain ⟨b, o, rfl, hc⟩ := hs.lies hpos
      refine ⟨_, rfl, fun j v hv => ?_⟩
      obtain ⟨hj, rfl⟩ := vals_at _ _ _ hv
      rw [add_none]
      exact hc j (by rw [← hs.hlen]; exact hj)⟩) (by rw [vals_length, vals_length, hs.hlen, hz]; omega) (vals_one _)
  rw [vals_length, hs.hlen] at hr
  rw [vals_splice] at hg2
  rw [hr]
  have HG2 := hide hg2
  have HK2 := hide hk2
  clear hg2 hk2 hr
  go_wp2_with fail
  all_goals
    rw [run_copy_none (P := Try.prog) _ 45 45 3 5 none _ 0 0 _ _ Try.underlying45 info5 (by simp)]
    go_wp2_with fail
    refine (advance_in r g n p ic op oc len w2 ((HK2.out.of_drewN).at_ HB.out hrg hrg) (by omega) (by omega) hn (by omega) (by omega)).mono ?_
    rintro e w3 ⟨rfl, hb3, hk3⟩
    have HB3 := hide hb3
    have HK3 := hide hk3
    clear hb3 hk3
    go_wp2_with fail
    go_end0
    exact ⟨rfl, HB3.out, HK3.out.at_ HG2.out (Ne.symm hrg) (Ne.symm hrg), ((HK2.out.of_drewN).wide (Or.inr rfl)).trans (HK3.out.wide (Or.inl rfl))⟩

set_option maxHeartbeats 1000000 in
theorem write_two (r g n p : Nat) (ic op oc : Int) (zs : List Int) (a : Option Addr) (len cap : Nat) (bs : List Int) (w : World)
    (hb : w.heap[r]? = some (hdr g n p ic op oc)) (hg : w.heap[g]? = some (.cells (vals zs).toArray 5)) (hrg : r ≠ g) (hz : zs.length = n) (hn : n ≤ 65536) (hp : p < n)
    (hs : Src w a len cap bs) (hm : n - p < len) (hm1 : len ≤ n) (hap : ∀ b o, a = some ⟨b, o, none⟩ → b ≠ g) :
    Calls Try.prog 93 #[.pointer (some ⟨r, 2, none⟩), .slice (some ⟨g, 0, none⟩) n n, .slice a len cap] w fun e w' => e = .returned (.tuple #[]) ∧
      w'.heap[r]? = some (hdr g n (goOn p len n) ((ic + len) % 4294967296) op oc) ∧ w'.heap[g]? = some (.cells (vals (splice (splice zs p (bs.take (n - p))) 0 (bs.drop (n - p)))).toArray 5) ∧ Kept r g w w' := by
  obtain ⟨h0, h1, h2, h3, h4, h5⟩ := hdr_cells hb
  have hl := hs.hcap
  have hlen := hs.hlen
  obtain ⟨b, o, rfl, hcell⟩ := hs.lies (by omega)
  have hbg := hap b o rfl
  have HB := hide hb
  have HG := hide hg
  have HC := hide hcell
  clear hb hg h0 h1 h3 h4 h5 hcell hap hs
  have HL := hide hlen
  clear hlen
  have hcl : ¬ cap = n - p := by omega
  go_enter Try.func93, Try.ntmps93
  go_wp2_with fail
  refine (pieces_two r 2 g n p len _ h2 hp hn hm hm1).mono ?_
  rintro e w1 ⟨rfl, k1, rfl⟩
  go_wp2_with fail
  obtain ⟨w2, hr, hg2, hk2⟩ := run_copy_seg (P := Try.prog) (w.drewN k1) 45 45 3 5 Try.underlying45 info5 (some ⟨g, p, none⟩) (some ⟨b, o, none⟩) (n - p) (n - p) len cap g p (vals zs) 5 HG.out (vals (bs.take (n - p))) (by have := HL.out; rw [vals_length, List.length_take]; show _ = min _ _; omega)
    (fun hpos => ⟨rfl, _, rfl, fun j v hv => by
      obtain ⟨hj, rfl⟩ := vals_at _ _ _ hv
      rw [List.length_take] at hj
      have := HC.out j (by omega)
      rw [add_none]
      rw [show (List.take (n - p) bs).getD j 0 = bs.getD j 0 by simp [List.getD, List.getElem?_take, show j < n - p by omega]]
      exact this⟩) (by rw [vals_length, vals_length, List.length_take, hz]; omega) (vals_one _)
  rw [vals_length, List.length_take, show min (n - p) bs.length = n - p by have := HL.out; omega] at hr
  rw [vals_splice] at hg2
  rw [hr]
  have HG2 := hide hg2
  have HK2 := hide hk2
  clear hg2 hk2 hr
  go_wp2_with fail
  obtain ⟨w3, hr, hg3, hk3⟩ := run_copy_seg (P := Try.prog) w2 45 45 3 5 Try.underlying45 info5 (some ⟨g, 0, none⟩) (some ⟨b, o + (n - p), none⟩) (len - (n - p)) n (len - (n - p)) (cap - (n - p)) g 0 (vals (splice zs p (bs.take (n - p)))) 5 HG2.out (vals (bs.drop (n - p))) (by have := HL.out; rw [vals_length, List.length_drop]; simp; omega)
    (fun hpos => ⟨rfl, _, rfl, fun j v hv => by
      obtain ⟨hj, rfl⟩ := vals_at _ _ _ hv
      rw [List.length_drop] at hj
      have hL := HL.out
      have := HC.out (n - p + j) (by omega)
      rw [add_none]
      rw [show (List.drop (n - p) bs).getD j 0 = bs.getD (n - p + j) 0 by simp [List.getD]]
      rw [show o + (n - p) + j = o + (n - p + j) by omega]
      have hbk := HK2.out.of_drewN.block b (by
        unfold World.cell? at this
        cases e : w.heap[b]? with
        | none => simp [e] at this
        | some x => exact lt_of_some e) hbg hbg
      rw [World.cell?_of_block (w := w) hbk]
      exact this⟩) (by have := HL.out; rw [vals_length, vals_length, List.length_drop, length_splice _ _ _ (by rw [List.length_take]; omega), hz]; omega) (vals_one _)
  rw [vals_length, List.length_drop, HL.out] at hr
  rw [vals_splice] at hg3
  rw [hr]
  have HG3 := hide hg3
  have HK3 := hide (HK2.out.of_drewN.trans hk3)
  clear hg3 hk3 hr HG2 HK2
  go_wp2_with fail
  refine (advance_in r g n p ic op oc len w3 (HK3.out.at_ HB.out hrg hrg) (by omega) (by omega) hn (by omega) (by omega)).mono ?_
  rintro e w4 ⟨rfl, hb4, hk4⟩
  have HB4 := hide hb4
  have HK4 := hide hk4
  clear hb4 hk4
  go_wp2_with fail
  go_end0
  exact ⟨rfl, HB4.out, HK4.out.at_ HG3.out (Ne.symm hrg) (Ne.symm hrg), (HK3.out.wide (Or.inr rfl)).trans (HK4.out.wide (Or.inl rfl))⟩

end Go.Proofs.Ytjojhnkibgkleaa

set_option linter.unusedSimpArgs false
set_option linter.unusedVariables false
set_option maxRecDepth 8000
namespace Go.Proofs.Ytjojhnkibgkleaa
open Go.RowKit

theorem info5' : (Try.prog.info? 5).map (fun i => (i.zero, i.size, i.bytes)) = some (some (.int .u8 0), 1, 1) := by kernel_rfl

def zeros (n : Nat) : List Int := List.replicate n 0
theorem zeros_length (n : Nat) : (zeros n).length = n := by simp [zeros]

/-- 'make([]byte, n)': a new block of n zeros. -/
theorem run_make0 (n : Nat) (hn : n ≤ 65536) (w : World) : (Instr.makeSlice 45 (.int .i64 n) (.int .i64 n)).run Try.prog w = .ok (.slice (some ⟨w.heap.size, 0, none⟩) n n) (w.alloc (.cells (vals (zeros n)).toArray 5)) := by
  have h := run_make_row' (P := Try.prog) 45 5 (.int .u8 0) 1 Try.underlying45 info5' rfl .i64 .i64 n (by omega) (by omega) w
  rw [h]
  have e : madeCells #[Value.int .u8 0] n = (vals (zeros n)).toArray := by
    rw [← Array.toList_inj, toList_madeCells_one]
    simp [vals, zeros]
  rw [e]

theorem splice_all (L cs : List Int) (h : cs.length = L.length) : splice L 0 cs = cs := by
  simp [splice, h]
theorem splice_two (L a b : List Int) (h : a.length + b.length = L.length) : splice (splice L 0 a) a.length b = a ++ b := by
  simp [splice, ← h]

theorem row_cell {w : World} {g : Nat} {zs : List Int} (hg : w.heap[g]? = some (.cells (vals zs).toArray 5)) (i : Nat) (hi : i < zs.length) : w.cell? ⟨g, i, none⟩ = some (.int .u8 (zs.getD i 0)) := by
  simp [World.cell?, hg, vals, List.getD, hi]
theorem alloc_new (w : World) (o : Obj) : (w.alloc o).heap[w.heap.size]? = some o := by
  show (w.heap.push o)[w.heap.size]? = _
  simp
theorem alloc_new2 (w : World) (o1 o2 : Obj) : ((w.alloc o1).alloc o2).heap[w.heap.size + 1]? = some o2 := by
  have := alloc_new (w.alloc o1) o2
  rwa [show (w.alloc o1).heap.size = w.heap.size + 1 by simp] at this
theorem alloc_old {w : World} {g : Nat} {x : Obj} (o : Obj) (h : w.heap[g]? = some x) : (w.alloc o).heap[g]? = some x := by
  rw [Below.heap_alloc _ _ _ (lt_of_some h)]; exact h
theorem Kept.below_new {w w' : World} {h : Nat} {B : Nat} (k : Kept h h w w') (hB : B ≤ h) (hs : B ≤ w.heap.size) : Below B w w' := k.below hB hB hs

set_option maxHeartbeats 1000000 in
theorem read_one (r g n p m : Nat) (zs : List Int) (w : World)
    (hc : w.cell? ⟨r, 4, none⟩ = some (.int .i64 p)) (hg : w.heap[g]? = some (.cells (vals zs).toArray 5)) (hz : zs.length = n) (hn : n ≤ 65536) (hp : p < n ∨ n = 0 ∧ p = 0) (hm : m ≤ n - p) :
    Calls Try.prog 90 #[.pointer (some ⟨r, 4, none⟩), .slice (some ⟨g, 0, none⟩) n n, .int .i64 m] w fun e w' => e = .returned (.slice (some ⟨w.heap.size, 0, none⟩) m m) ∧
      w'.heap[w.heap.size]? = some (.cells (vals ((zs.drop p).take m)).toArray 5) ∧ Below w.heap.size w w' := by
  have hmk := run_make0 m (by omega)
  have HG := hide hg
  clear hg
  go_enter Try.func90, Try.ntmps90
  go_wp2_with fail
  refine (pieces_one r 4 g n p m _ hc hp hn hm).mono ?_
  rintro e w1 ⟨rfl, k1, rfl⟩
  go_wp2_with fail
  obtain ⟨w2, hr, hg2, hk2⟩ := run_copy_seg (P := Try.prog) ((w.drewN k1).alloc (.cells (vals (zeros m)).toArray 5)) 45 45 3 5 Try.underlying45 info5 (some ⟨w.heap.size, 0, none⟩) (some ⟨g, p, none⟩) m m m (n - p) w.heap.size 0 (vals (zeros m)) 5 (alloc_new _ _) (vals ((zs.drop p).take m)) (by rw [vals_length, List.length_take, List.length_drop, hz]; simp; omega)
    (fun hpos => ⟨rfl, _, rfl, fun j v hv => by
      obtain ⟨hj, rfl⟩ := vals_at _ _ _ hv
      rw [List.length_take, List.length_drop] at hj
      rw [add_none, show ((zs.drop p).take m).getD j 0 = zs.getD (p + j) 0 by simp [List.getD, List.getElem?_take, show j < m by omega]]
      exact row_cell (alloc_old _ HG.out) _ (by omega)⟩) (by rw [vals_length, vals_length, List.length_take, List.length_drop, hz, zeros_length]; omega) (vals_one _)
  rw [vals_length, List.length_take, List.length_drop, hz, show min m (n - p) = m by omega] at hr
  rw [vals_splice, splice_all _ _ (by rw [List.length_take, List.length_drop, hz, zeros_length]; omega)] at hg2
  rw [hr]
  have HG2 := hide hg2
  have HK2 := hide (((below_drewN (Below.refl w.heap.size w) k1).alloc (Nat.le_refl _) (.cells (vals (zeros m)).toArray 5)).trans (hk2.below (B := w.heap.size) (Nat.le_refl _) (Nat.le_refl _) (by simp)))
  clear hg2 hk2 hr hmk
  go_wp2_with fail
  rw [run_copy_none (P := Try.prog) _ 45 45 3 5 _ none _ _ 0 0 Try.underlying45 info5 (by simp)]
  go_wp2_with fail
  go_ret
  exact ⟨rfl, HG2.out, HK2.out⟩

set_option maxHeartbeats 1000000 in
theorem read_two (r g n p m : Nat) (zs : List Int) (w : World)
    (hc : w.cell? ⟨r, 4, none⟩ = some (.int .i64 p)) (hg : w.heap[g]? = some (.cells (vals zs).toArray 5)) (hz : zs.length = n) (hn : n ≤ 65536) (hp : p < n) (hm : n - p < m) (hm1 : m ≤ n) :
    Calls Try.prog 90 #[.pointer (some ⟨r, 4, none⟩), .slice (some ⟨g, 0, none⟩) n n, .int .i64 m] w fun e w' => e = .returned (.slice (some ⟨w.heap.size, 0, none⟩) m m) ∧
      w'.heap[w.heap.size]? = some (.cells (vals (zs.drop p ++ zs.take (m - (n - p)))).toArray 5) ∧ Below w.heap.size w w' := by
  have hmk := run_make0 m (by omega)
  have HG := hide hg
  clear hg
  go_enter Try.func90, Try.ntmps90
  go_wp2_with fail
  refine (pieces_two r 4 g n p m _ hc hp hn hm hm1).mono ?_
  rintro e w1 ⟨rfl, k1, rfl⟩
  go_wp2_with fail
  obtain ⟨w2, hr, hg2, hk2⟩ := run_copy_seg (P := Try.prog) ((w.drewN k1).alloc (.cells (vals (zeros m)).toArray 5)) 45 45 3 5 Try.underlying45 info5 (some ⟨w.heap.size, 0, none⟩) (some ⟨g, p, none⟩) m m (n - p) (n - p) w.heap.size 0 (vals (zeros m)) 5 (alloc_new _ _) (vals (zs.drop p)) (by rw [vals_length, List.length_drop, hz]; show _ = min _ _; omega)
    (fun hpos => ⟨rfl, _, rfl, fun j v hv => by
      obtain ⟨hj, rfl⟩ := vals_at _ _ _ hv
      rw [List.length_drop] at hj
      rw [add_none, show (zs.drop p).getD j 0 = zs.getD (p + j) 0 by simp [List.getD]]
      exact row_cell (alloc_old _ HG.out) _ (by omega)⟩) (by rw [vals_length, vals_length, List.length_drop, hz, zeros_length]; omega) (vals_one _)
  rw [vals_length, List.length_drop, hz] at hr
  rw [vals_splice] at hg2
  rw [hr]
  have HG2 := hide hg2
  have HK2 := hide (((below_drewN (Below.refl w.heap.size w) k1).alloc (Nat.le_refl _) (.cells (vals (zeros m)).toArray 5)).trans (hk2.below (B := w.heap.size) (Nat.le_refl _) (Nat.le_refl _) (by simp)))
  clear hg2 hk2 hr hmk
  go_wp2_with fail
  have hl1 : (splice (zeros m) 0 (zs.drop p)).length = m := by rw [length_splice _ _ _ (by rw [List.length_drop, hz, zeros_length]; omega), zeros_length]
  obtain ⟨w3, hr, hg3, hk3⟩ := run_copy_seg (P := Try.prog) w2 45 45 3 5 Try.underlying45 info5 (some ⟨w.heap.size, n - p, none⟩) (some ⟨g, 0, none⟩) (m - (n - p)) (m - (n - p)) (m - (n - p)) n w.heap.size (n - p) (vals (splice (zeros m) 0 (zs.drop p))) 5 HG2.out (vals (zs.take (m - (n - p)))) (by rw [vals_length, List.length_take, hz]; show _ = min _ _; omega)
    (fun hpos => ⟨rfl, _, rfl, fun j v hv => by
      obtain ⟨hj, rfl⟩ := vals_at _ _ _ hv
      rw [List.length_take] at hj
      rw [add_none, show (zs.take (m - (n - p))).getD j 0 = zs.getD j 0 by simp [List.getD, List.getElem?_take, show j < m - (n - p) by omega]]
      have hgl := lt_of_some HG.out
      rw [Nat.zero_add]
      exact row_cell (by rw [HK2.out.block g hgl]; exact HG.out) _ (by omega)⟩) (by rw [vals_length, vals_length, List.length_take, hz, hl1]; omega) (vals_one _)
  rw [vals_length, List.length_take, hz, show min (m - (n - p)) n = m - (n - p) by omega] at hr
  have hsp := splice_two (zeros m) (zs.drop p) (zs.take (m - (n - p))) (by rw [List.length_drop, List.length_take, hz, zeros_length]; omega)
  rw [List.length_drop, hz] at hsp
  rw [vals_splice, hsp] at hg3
  rw [hr]
  have HG3 := hide hg3
  have HK3 := hide (HK2.out.trans (hk3.below (B := w.heap.size) (Nat.le_refl _) (Nat.le_refl _) HK2.out.size))
  clear hg3 hk3 hr HG2 HK2 hsp hl1
  go_wp2_with fail
  go_ret
  exact ⟨rfl, HG3.out, HK3.out⟩

set_option maxHeartbeats 1000000 in
theorem new_bad (n : Int) (w : World) (h : n < 0 ∨ 65536 < n) :
    Calls Try.prog 39 #[.int .i64 n] w fun e w' => e = .returned (.tuple #[.pointer none, .int .i64 2]) ∧ w = w' := by
  rcases h with h | h
  · go_enter Try.func39, Try.ntmps39
    go_wp2
    go_ret2
    exact ⟨rfl, rfl⟩
  · have h' : ¬ n < 0 := by omega
    go_enter Try.func39, Try.ntmps39
    go_wp2
    go_ret2
    exact ⟨rfl, rfl⟩

set_option maxHeartbeats 1000000 in
theorem new_good (n : Nat) (w : World) (h : n ≤ 65536) :
    Calls Try.prog 39 #[.int .i64 n] w fun e w' => e = .returned (.tuple #[.pointer (some ⟨w.heap.size + 1, 0, none⟩), .int .i64 0]) ∧
      w'.heap[w.heap.size]? = some (.cells (vals (zeros n)).toArray 5) ∧ w'.heap[w.heap.size + 1]? = some (hdr w.heap.size n 0 0 0 0) ∧ Below w.heap.size w w' := by
  have hmk := run_make0 n (by omega)
  go_enter Try.func39, Try.ntmps39
  go_wp2
  go_ret2
  refine ⟨rfl, alloc_old _ (alloc_new _ _), ?_, ((Below.refl w.heap.size w).alloc (Nat.le_refl _) _).alloc (by simp) _⟩
  exact alloc_new2 w _ (hdr w.heap.size n 0 0 0 0)

set_option maxHeartbeats 1000000 in
theorem clone_at (r g n : Nat) (ip ic op oc : Int) (zs : List Int) (w : World) (hb : w.heap[r]? = some (hdr g n ip ic op oc)) (hg : w.heap[g]? = some (.cells (vals zs).toArray 5)) (hz : zs.length = n) (hn : n ≤ 65536) :
    Calls Try.prog 75 #[.pointer (some ⟨r, 0, none⟩)] w fun e w' => e = .returned (.pointer (some ⟨w.heap.size, 0, none⟩)) ∧
      w'.heap[w.heap.size + 1]? = some (.cells (vals zs).toArray 5) ∧ w'.heap[w.heap.size]? = some (hdr (w.heap.size + 1) n ip ic op oc) ∧ Below w.heap.size w w' := by
  have hmk := run_make0 n (by omega)
  obtain ⟨h0, h1, h2, h3, h4, h5⟩ := hdr_cells hb
  have hlt := lt_of_some hb
  have HB := hide hb
  have HG := hide hg
  clear hb hg
  go_enter Try.func75, Try.ntmps75
  go_wp2
  have hcp : ∀ W : World, W.heap[w.heap.size + 1]? = some (.cells (vals (zeros n)).toArray 5) → W.heap[g]? = some (.cells (vals zs).toArray 5) →
      (Builtin.copy_ #[45, 45] 3 #[.slice (some ⟨w.heap.size + 1, 0, none⟩) n n, .slice (some ⟨g, 0, none⟩) n n]).run Try.prog W = .ok (goInt n) (W.setRow (w.heap.size + 1) (vals zs).toArray) := by
    intro W hW1 hW2
    have := run_copy_row (P := Try.prog) W 45 45 3 5 (w.heap.size + 1) 0 n n ⟨g, 0, none⟩ n n (vals (zeros n)).toArray 5 (vals zs) Try.underlying45 info5 hW1 (by rw [vals_length, hz]; simp)
      (fun j v hv => by
        obtain ⟨hj, rfl⟩ := vals_at _ _ _ hv
        rw [add_none, Nat.zero_add]
        exact row_cell hW2 _ hj) (by rw [vals_length, hz]; simp [vals, zeros]) (vals_one _)
    rw [this, vals_length, hz]
    congr 2
    simp [vals, zeros, hz]
  have h6 := hcp (((w.alloc (.cells #[.bool true, .slice (some ⟨w.heap.size + 1, 0, none⟩) n n, .int .i64 ip, .int .u32 ic, .int .i64 op, .int .u32 oc] 117)).alloc (.cells (vals (zeros n)).toArray 5)).drew)
    (alloc_new2 _ _ _) (alloc_old _ (alloc_old _ HG.out))
  clear hcp
  go_region
  clear h6 hmk h0 h1 h2 h3 h4 h5
  go_wp2
  go_ret
  refine ⟨rfl, ?_, ?_, ?_⟩
  · exact setRow_heap (World.drew _) _ _ _ _ _ (alloc_new2 _ _ _)
  · rw [setRow_other _ _ _ _ (by omega)]
    exact alloc_old _ (alloc_new _ _)
  · exact below_setRow (((Below.refl w.heap.size w).alloc (Nat.le_refl _) _).alloc (by simp) _).drew (by omega) _

end Go.Proofs.Ytjojhnkibgkleaa
