/-
  A port as it lies in memory: its endpoints, their rings, its datagrams and outputs; what stays of the memory; Outputs and datagrams as they lie in memory, and a whole port; The leaf functions of package port: what they answer of an endpoint and of a port; conditions as each theorem has them.
-/
import Derived.Test.YtjojhnkibgkleaaJoinedM
import Derived.BigRegion
import Derived.Deep.RegionHeld3
import Derived.Laws.CopyOwn
import Derived.Laws.IdiomCopy
import Derived.Deep.OwnRows
import Derived.Lib.SliceRun
import Derived.Handy
import Derived.Laws.Rows
import Derived.Laws.Tables
import Derived.Laws.ResultCell
import Derived.OwnWalk
import Derived.Deep.MidRow
import Derived.Deep.LoopGhost
import Derived.WalkMore
import Derived.Lib.SlBytesConst
import Derived.Lib.Strings
import Derived.Lib.AppendStr
import Derived.LaidMore
set_option linter.unusedSimpArgs false
set_option linter.unusedVariables false
namespace Go.Proofs.Ytjojhnkibgkleaa
open Go.RowKit Go.Lib

/-- Nothing that was there has turned but what lies in the blocks of S. -/
structure KeptS (S : Nat → Prop) (w w' : World) : Prop where
  os : w'.os = w.os
  tape : w'.tape = w.tape
  output : w'.output = w.output
  size : w.heap.size ≤ w'.heap.size
  block : ∀ k, k < w.heap.size → ¬ S k → w'.heap[k]? = w.heap[k]?
theorem KeptS.refl (S : Nat → Prop) (w : World) : KeptS S w w := ⟨rfl, rfl, rfl, Nat.le_refl _, fun _ _ _ => rfl⟩
theorem KeptS.trans {S T : Nat → Prop} {a b c : World} (h : KeptS S a b) (k : KeptS T b c) (hT : ∀ x, T x → S x ∨ a.heap.size ≤ x) : KeptS S a c :=
  ⟨k.os.trans h.os, k.tape.trans h.tape, k.output.trans h.output, Nat.le_trans h.size k.size, fun i hi h1 => (k.block i (Nat.lt_of_lt_of_le hi h.size) (fun t => by
    rcases hT i t with h2 | h2
    · exact h1 h2
    · omega)).trans (h.block i hi h1)⟩
theorem KeptS.drewN {S : Nat → Prop} {a b : World} (h : KeptS S a b) (n : Nat) : KeptS S a (b.drewN n) := ⟨h.os, h.tape, h.output, h.size, h.block⟩
theorem KeptS.of_drewN {S : Nat → Prop} {a b : World} {n : Nat} (h : KeptS S (a.drewN n) b) : KeptS S a b := ⟨h.os, h.tape, h.output, h.size, h.block⟩
theorem KeptS.of_below {S : Nat → Prop} {a b : World} (h : Below a.heap.size a b) : KeptS S a b := ⟨h.os, h.tape, h.output, h.size, fun k hk _ => h.block k hk⟩
theorem KeptS.of_kept {S : Nat → Prop} {r g : Nat} {a b : World} (h : Kept r g a b) (hr : S r) (hg : S g) : KeptS S a b :=
  ⟨h.os, h.tape, h.output, h.size, fun k hk hn => h.block k hk (fun e => hn (e ▸ hr)) (fun e => hn (e ▸ hg))⟩
theorem KeptS.mono {S T : Nat → Prop} {a b : World} (h : KeptS S a b) (hT : ∀ x, S x → T x ∨ a.heap.size ≤ x) : KeptS T a b := (KeptS.refl T a).trans h hT
theorem KeptS.setCell {S : Nat → Prop} {a b : World} (h : KeptS S a b) {p : Addr} (hp : S p.block) (u : Value) : KeptS S a (b.setCell p u) :=
  h.trans ⟨rfl, rfl, rfl, by simp [World.setCell], fun k hk h1 => Below.heap_setCell _ _ _ _ (fun e => h1 (e ▸ hp))⟩ (fun _ => Or.inl)
theorem KeptS.setRow {S : Nat → Prop} {a b : World} (h : KeptS S a b) {p : Nat} (hp : S p) (cs : Array Value) : KeptS S a (b.setRow p cs) :=
  h.trans ⟨rfl, rfl, rfl, by simp [World.setRow], fun k hk h1 => setRow_other b p k cs (fun e => h1 (e ▸ hp))⟩ (fun _ => Or.inl)
theorem KeptS.alloc {S : Nat → Prop} {a b : World} (h : KeptS S a b) (o : Obj) : KeptS S a (b.alloc o) :=
  h.trans (T := fun _ => False) ⟨rfl, rfl, rfl, by simp, fun k hk _ => Below.heap_alloc _ _ _ hk⟩ (fun _ h => h.elim)
theorem KeptS.below {S : Nat → Prop} {a b : World} (h : KeptS S a b) {B : Nat} (hB : B ≤ a.heap.size) (hS : ∀ x, S x → B ≤ x) : Below B a b :=
  ⟨h.os, h.tape, h.output, h.size, fun k hk => h.block k (by omega) (fun s => by have := hS k s; omega)⟩
/-- What belongs to a port behind a call: what did, and what the call made. -/
def grow (S : Nat → Prop) (w w' : World) : Nat → Prop := fun k => S k ∨ (w.heap.size ≤ k ∧ k < w'.heap.size)

/-- An endpoint's six cells. -/
def enC (p : Value) (x : En) : List Value := [p, .int .i64 x.st, .int .i64 x.room, .bool x.nw, .bool x.oth, .bool x.ths]
theorem enC_len (p : Value) (x : En) : (enC p x).length = 6 := rfl
def rp (R : Nat → Nat) (i : Nat) : Value := .pointer (some ⟨R i, 0, none⟩)
/-- The row of the endpoints, in block g. -/
def Row (w : World) (g : Nat) (V : Nat → Value) (L : List En) : Prop := ∃ cs : List Value, w.heap[g]? = some (.cells cs.toArray 89) ∧ cs.length = 6 * L.length ∧ ∀ i, i < L.length → ∀ j, j < 6 → cs[i * 6 + j]? = (enC (V i) (at0 L i))[j]?
theorem Row.lt {w : World} {g : Nat} {V : Nat → Value} {L : List En} (h : Row w g V L) : g < w.heap.size := by
  obtain ⟨cs, h, _⟩ := h
  exact lt_of_some h
theorem Row.keep {w w' : World} {g : Nat} {V : Nat → Value} {L : List En} (h : Row w g V L) (k : w'.heap[g]? = w.heap[g]?) : Row w' g V L := by
  obtain ⟨cs, h1, h2⟩ := h
  exact ⟨cs, k.trans h1, h2⟩
theorem Row.cell {w : World} {g : Nat} {V : Nat → Value} {L : List En} (h : Row w g V L) {i : Nat} (hi : i < L.length) {j : Nat} (hj : j < 6) : w.cell? ⟨g, i * 6 + j, none⟩ = (enC (V i) (at0 L i))[j]? := by
  obtain ⟨cs, h1, h2, h3⟩ := h
  rw [← h3 i hi j hj]
  simp [World.cell?, h1]
theorem Row.frozen {w : World} {g : Nat} {V : Nat → Value} {L : List En} (h : Row w g V L) (o : Nat) : w.frozen? ⟨g, o, none⟩ = false := by
  obtain ⟨cs, h1, h2, h3⟩ := h
  simp [World.frozen?, h1]
/-- The six cells of an endpoint at a place. -/
structure EnAt (w : World) (b o : Nat) (p : Value) (x : En) : Prop where
  c0 : w.cell? ⟨b, o, none⟩ = some p
  c1 : w.cell? ⟨b, o + 1, none⟩ = some (.int .i64 x.st)
  c2 : w.cell? ⟨b, o + 2, none⟩ = some (.int .i64 x.room)
  c3 : w.cell? ⟨b, o + 3, none⟩ = some (.bool x.nw)
  c4 : w.cell? ⟨b, o + 4, none⟩ = some (.bool x.oth)
  c5 : w.cell? ⟨b, o + 5, none⟩ = some (.bool x.ths)
theorem Row.at_ {w : World} {g : Nat} {V : Nat → Value} {L : List En} (h : Row w g V L) {i : Nat} (hi : i < L.length) : EnAt w g (i * 6) (V i) (at0 L i) :=
  ⟨by have := h.cell hi (j := 0) (by omega); simpa [enC] using this, by have := h.cell hi (j := 1) (by omega); simpa [enC] using this, by have := h.cell hi (j := 2) (by omega); simpa [enC] using this, by have := h.cell hi (j := 3) (by omega); simpa [enC] using this, by have := h.cell hi (j := 4) (by omega); simpa [enC] using this, by have := h.cell hi (j := 5) (by omega); simpa [enC] using this⟩
theorem EnAt.keep {w w' : World} {b o : Nat} {p : Value} {x : En} (h : EnAt w b o p x) (k : w'.heap[b]? = w.heap[b]?) : EnAt w' b o p x :=
  ⟨(World.cell?_of_block k).trans h.c0, (World.cell?_of_block k).trans h.c1, (World.cell?_of_block k).trans h.c2, (World.cell?_of_block k).trans h.c3, (World.cell?_of_block k).trans h.c4, (World.cell?_of_block k).trans h.c5⟩
def upd (V : Nat → Value) (i : Nat) (v : Value) : Nat → Value := fun j => if j = i then v else V j
theorem upd_same (V : Nat → Value) (i : Nat) : upd V i (V i) = V := by
  funext j
  unfold upd
  split
  · rename_i h; rw [h]
  · rfl
/-- A row of which the six cells of one endpoint are others now. -/
theorem Row.turn {w' : World} {g : Nat} {V : Nat → Value} {L : List En} {cs : List Value} (h2 : cs.length = 6 * L.length) (h3 : ∀ i, i < L.length → ∀ j, j < 6 → cs[i * 6 + j]? = (enC (V i) (at0 L i))[j]?) {i : Nat} (hi : i < L.length) {cs' : List Value} (hw : w'.heap[g]? = some (.cells cs'.toArray 89)) (hl : cs'.length = cs.length)
    (v : Value) (x : En) (hin : ∀ j, j < 6 → cs'[i * 6 + j]? = (enC v x)[j]?) (hout : ∀ m, m < i * 6 ∨ i * 6 + 6 ≤ m → cs'[m]? = cs[m]?) : Row w' g (upd V i v) (L.set i x) := by
  refine ⟨cs', hw, by rw [List.length_set]; omega, fun k hk j hj => ?_⟩
  rw [List.length_set] at hk
  rw [at0_set x hi]
  unfold upd
  by_cases e : k = i
  · subst e
    rw [if_pos rfl, if_pos rfl]
    exact hin j hj
  · rw [if_neg e, if_neg e, hout (k * 6 + j) (by omega)]
    exact h3 k hk j hj
theorem Row.set {w : World} {g : Nat} {V : Nat → Value} {L : List En} (h : Row w g V L) {i : Nat} (hi : i < L.length) {j : Nat} (hj : j < 6) (u v : Value) (x : En) (hx : (enC (V i) (at0 L i)).set j u = enC v x) : Row (w.setCell ⟨g, i * 6 + j, none⟩ u) g (upd V i v) (L.set i x) := by
  obtain ⟨cs, h1, h2, h3⟩ := h
  refine Row.turn h2 h3 hi (cs' := cs.set (i * 6 + j) u) ?_ (by simp) v x (fun m hm => ?_) (fun m hm => ?_)
  · rw [heap_setCell_same h1]
    simp
  · rw [← hx, List.getElem?_set, List.getElem?_set]
    have := h3 i hi m hm
    by_cases e : j = m
    · subst e
      rw [if_pos rfl, if_pos rfl, if_pos (by omega), if_pos (by rw [enC_len]; exact hj)]
    · rw [if_neg (by omega), if_neg e]
      exact this
  · rw [List.getElem?_set, if_neg (by omega)]
/-- What stands of an endpoint that begins anew. -/
def stC (s : Int) : List Value := [.int .i64 s, .int .i64 0, .bool false, .bool false, .bool false]
theorem Row.seg {w w' : World} {g : Nat} {V : Nat → Value} {L : List En} (h : Row w g V L) {i : Nat} (hi : i < L.length) (s : Int)
    (hw : ∀ cs : Array Value, w.heap[g]? = some (.cells cs 89) → w'.heap[g]? = some (.cells ((cs.toList.take (i * 6 + 1)) ++ stC s ++ cs.toList.drop (i * 6 + 1 + 5)).toArray 89)) : Row w' g V (L.set i { z s with q := (at0 L i).q }) := by
  obtain ⟨cs, h1, h2, h3⟩ := h
  have hw := hw _ h1
  simp only [List.toList_toArray] at hw
  have := Row.turn (V := V) h2 h3 hi hw (by simp [stC]; omega) (V i) { z s with q := (at0 L i).q } (fun m hm => ?_) (fun m hm => ?_)
  · rwa [upd_same] at this
  · rw [List.getElem?_append, List.getElem?_append]
    have h0 := h3 i hi 0 (by omega)
    rcases Nat.eq_zero_or_pos m with e | e
    · subst e
      rw [if_pos (by simp [stC]; omega), if_pos (by simp; omega), List.getElem?_take, if_pos (by omega)]
      rw [h0]
      rfl
    · rw [if_pos (by simp [stC]; omega), if_neg (by simp; omega)]
      simp only [List.length_take]
      rw [show i * 6 + m - min (i * 6 + 1) cs.length = m - 1 by omega]
      have : m = 1 ∨ m = 2 ∨ m = 3 ∨ m = 4 ∨ m = 5 := by omega
      rcases this with rfl | rfl | rfl | rfl | rfl <;> rfl
  · rw [List.getElem?_append, List.getElem?_append]
    rcases hm with hm | hm
    · rw [if_pos (by simp [stC]; omega), if_pos (by simp; omega), List.getElem?_take, if_pos (by omega)]
    · rw [if_neg (by simp [stC]; omega), List.getElem?_drop]
      congr 1
      simp [stC]
      omega

end Go.Proofs.Ytjojhnkibgkleaa

set_option linter.unusedSimpArgs false
set_option linter.unusedVariables false
namespace Go.Proofs.Ytjojhnkibgkleaa
open Go.RowKit Go.Lib

/-- An output's ten cells. -/
def otC (o : Ot) : List Value := [.int .i64 0, .int .i64 o.k, .int .i64 o.e, .string o.d, .int .u8 o.a1, .int .u8 o.a2, .int .u8 o.a3, .int .u8 o.a4, .string o.nm, .int .i64 o.po]
def otCs (l : List Ot) : List Value := l.flatMap otC
theorem otC_len (o : Ot) : (otC o).length = 10 := rfl
theorem otCs_append (l m : List Ot) : otCs (l ++ m) = otCs l ++ otCs m := by simp [otCs]
theorem otCs_cons (o : Ot) (l : List Ot) : otCs (o :: l) = otC o ++ otCs l := by simp [otCs]
theorem otCs_len (l : List Ot) : (otCs l).length = l.length * 10 := by
  induction l with
  | nil => rfl
  | cons x l ih => rw [otCs_cons, List.length_append, ih, otC_len, List.length_cons]; omega
def noOt : Ot := ot 0 0 emp
theorem otCs_get (l : List Ot) (i j : Nat) (h : i < l.length) (hj : j < 10) : (otCs l)[i * 10 + j]? = (otC (l.getD i noOt))[j]? := by
  induction l generalizing i with
  | nil => simp at h
  | cons x r ih =>
    rw [otCs_cons]
    cases i with
    | zero => rw [Nat.zero_mul, Nat.zero_add, List.getElem?_append_left (by rw [otC_len]; exact hj)]; rfl
    | succ i =>
      rw [List.getElem?_append_right (by rw [otC_len]; omega), otC_len, show (i + 1) * 10 + j - 10 = i * 10 + j by omega, ih i (by simp at h; omega)]
      simp
theorem otC_one (o : Ot) : ∀ u ∈ otC o, u.oneCell' = true := by
  intro u hu
  simp [otC] at hu
  rcases hu with rfl | rfl | rfl | rfl | rfl | rfl | rfl | rfl | rfl | rfl <;> rfl
/-- v is a slice of its own of the outputs l. -/
def OwnO (w : World) (v : Value) (l : List Ot) : Prop := w.ownsRow 0 68 10 v l.length (otCs l)
def OwnG (w : World) (v : Value) (l : List ByteArray) : Prop := w.ownsRow 0 9 1 v l.length (l.map Value.string)
theorem own_keep {w w' : World} {e : TypeId} {s n : Nat} {v : Value} {xs : List Value} (h : w.ownsRow 0 e s v n xs) (k : ∀ g, v.ownBlock = some g → w'.heap[g]? = w.heap[g]?) : w'.ownsRow 0 e s v n xs := by
  refine ⟨h.1, ?_⟩
  rcases h.2 with h0 | ⟨x, cap, cur, hv, hx, hh, hrest⟩
  · exact Or.inl h0
  · exact Or.inr ⟨x, cap, cur, hv, hx, (k x (by rw [hv]; rfl)).trans hh, hrest⟩
theorem own_block {w : World} {e : TypeId} {s n : Nat} {v : Value} {xs : List Value} (h : w.ownsRow 0 e s v n xs) {g : Nat} (hg : v.ownBlock = some g) : ∃ cur, w.heap[g]? = some (.cells cur e) := by
  rcases h.2 with ⟨rfl, _⟩ | ⟨x, cap, cur, rfl, hx, hh, hrest⟩
  · cases hg
  · simp [Value.ownBlock] at hg
    subst hg
    exact ⟨cur, hh⟩
/-- 'append' to a slice of its own, and where it lies then. -/
theorem app_gen {w : World} (t e : TypeId) (z : Value) (size bytes : Nat) (ht : Try.prog.underlying t = some (.slice e)) (hi : ∃ i, Try.prog.info? e = some i ∧ i.zero = some z ∧ i.size = size ∧ i.bytes = bytes)
    (hzs : z.cells.size = size) (hsz : 0 < size) {v : Value} {n : Nat} {xs : List Value} (hown : w.ownsRow 0 e size v n xs) (a : Addr) (m c : Nat) (news : List Value) (hl : news.length = m * size)
    (hnews : ∀ j u, news[j]? = some u → w.cell? (a.add j) = some u) (h1 : ∀ u ∈ news, u.oneCell' = true) (h63 : n + m ≤ maxLen) (hbytes : (n + m) * bytes ≤ 140737488355328) (hm : 0 < m) :
    ∃ v' w', (Builtin.append_ #[t, t] t #[v, .slice (some a) m c]).run Try.prog w = .ok v' w' ∧ w'.ownsRow 0 e size v' (n + m) (xs ++ news) ∧ w.grownBy w' v.ownBlock ∧
      (∀ g, v'.ownBlock = some g → v.ownBlock = some g ∨ w.heap.size ≤ g) := by
  obtain ⟨i, hi, hz, hs, hby⟩ := hi
  obtain ⟨v', w', hr, ho, hg, _⟩ := run_append_own (P := Try.prog) w 0 t t e i z size bytes ht hi hz hs hby hzs hsz v n xs hown a m c news hl hnews h1 h63 hbytes (Nat.zero_le _)
  refine ⟨v', w', hr, ho, hg, fun g hgv => ?_⟩
  rcases hown.2 with ⟨rfl, rfl⟩ | ⟨x, cap, cur, rfl, hbg, hh, hnc, hcm, hcs, htake⟩
  · right
    obtain ⟨v2, w2, hr2, ho2, _⟩ := run_append_own (P := Try.prog) w w.heap.size t t e i z size bytes ht hi hz hs hby hzs hsz (.slice none 0 0) 0 xs ⟨hown.1, Or.inl ⟨rfl, rfl⟩⟩ a m c news hl hnews h1 h63 hbytes (Nat.le_refl _)
    rw [hr] at hr2
    injection hr2 with e1 e2
    subst e1
    exact (ho2.lt g hgv).1
  · subst hs
    by_cases hroom : n + m ≤ cap
    · left
      have hfit : n * i.size + news.length ≤ cur.size := by rw [hl, hcs, ← Nat.add_mul]; exact Nat.mul_le_mul_right _ hroom
      have hr2 := run_append_room (P := Try.prog) w t t e i ht hi x n cap cur hh a m c news hl hnews h1 hroom hfit
      have e1 := (Result.ok.inj (hr.symm.trans hr2)).1
      rw [e1] at hgv
      exact hgv
    · right
      have holds : ∀ j u, xs[j]? = some u → w.cell? ((⟨x, 0, none⟩ : Addr).add j) = some u := hown.cells (g := x) rfl
      have hr2 := run_append_grow (P := Try.prog) w t t e i z ht hi hz ⟨x, 0, none⟩ n cap xs hown.1 holds a m c news hl hnews (by omega) (by simp only [maxLen] at h63; omega) (growslice_fits (by omega) (by rw [hby]; exact hbytes))
      rw [hr] at hr2
      injection hr2 with e1 e2
      subst e1
      have hgv : some w.heap.size = some g := hgv
      injection hgv with e
      exact Nat.le_of_eq e
theorem undO : Try.prog.underlying 52 = some (.slice 68) := by kernel_rfl
theorem und9 : Try.prog.underlying 61 = some (.slice 9) := by kernel_rfl
theorem infO : ∃ i, Try.prog.info? 68 = some i ∧ i.zero = some (.agg (otC noOt).toArray) ∧ i.size = 10 ∧ i.bytes = 72 := info_parts (by kernel_rfl)
theorem inf9 : ∃ i, Try.prog.info? 9 = some i ∧ i.zero = some (.string ⟨#[]⟩) ∧ i.size = 1 ∧ i.bytes = 16 := info_parts (by kernel_rfl)
/-- 'append(l, o)' of an output that lies at a place. -/
theorem run_appO {w : World} {v : Value} {l : List Ot} (hown : OwnO w v l) (a : Addr) (c : Nat) (o : Ot) (hnews : ∀ j u, (otC o)[j]? = some u → w.cell? (a.add j) = some u) (hlen : l.length ≤ 1900000000000) :
    ∃ v' w', (Builtin.append_ #[52, 52] 52 #[v, .slice (some a) 1 c]).run Try.prog w = .ok v' w' ∧ OwnO w' v' (l ++ [o]) ∧ w.grownBy w' v.ownBlock ∧ (∀ g, v'.ownBlock = some g → v.ownBlock = some g ∨ w.heap.size ≤ g) := by
  obtain ⟨v', w', h1, h2, h3⟩ := app_gen 52 68 _ 10 72 undO infO rfl (by omega) hown a 1 c (otC o) rfl hnews (otC_one o) (by unfold maxLen; omega) (by omega) (by omega)
  refine ⟨v', w', h1, ?_, h3⟩
  unfold OwnO
  rw [otCs_append, List.length_append]
  simpa [otCs] using h2
theorem run_appG {w : World} {v : Value} {l : List ByteArray} (hown : OwnG w v l) (a : Addr) (c : Nat) (d : ByteArray) (hnews : w.cell? a = some (.string d)) (hlen : l.length ≤ 1900000000000) :
    ∃ v' w', (Builtin.append_ #[61, 61] 61 #[v, .slice (some a) 1 c]).run Try.prog w = .ok v' w' ∧ OwnG w' v' (l ++ [d]) ∧ w.grownBy w' v.ownBlock ∧ (∀ g, v'.ownBlock = some g → v.ownBlock = some g ∨ w.heap.size ≤ g) := by
  obtain ⟨v', w', h1, h2, h3⟩ := app_gen 61 9 _ 1 16 und9 inf9 rfl (by omega) hown a 1 c [.string d] rfl (fun j u hu => by
    cases j with
    | zero => simp at hu; subst hu; rw [show a.add 0 = a by unfold Addr.add; split <;> simp_all]; exact hnews
    | succ j => simp at hu) (by intro u hu; simp at hu; subst hu; rfl) (by unfold maxLen; omega) (by omega) (by omega)
  refine ⟨v', w', h1, ?_, h3⟩
  unfold OwnG
  rw [List.length_append, List.map_append]
  exact h2

/-- A port in memory: S is what belongs to it. -/
structure IsPort (w : World) (S : Nat → Prop) (b eb : Nat) (gv ov : Value) (R G : Nat → Nat) (P : Pt) : Prop where
  head : w.heap[b]? = some (.cells #[.bool true, .int .i64 P.c, .slice (some ⟨eb, 0, none⟩) P.L.length P.L.length, gv, ov] 80)
  row : Row w eb (rp R) P.L
  ring : ∀ i, i < P.L.length → ∃ ic oc, IsRing w (R i) (G i) P.sz ic oc (at0 P.L i).q
  inj : ∀ i j, i < P.L.length → j < P.L.length → i ≠ j → R i ≠ R j ∧ G i ≠ G j
  gr : OwnG w gv P.gr
  ou : OwnO w ov P.ou
  ok : P.Ok
  lt : ∀ k, S k → k < w.heap.size
  sb : S b
  se : S eb
  sr : ∀ i, i < P.L.length → S (R i) ∧ S (G i)
  sg : ∀ g, gv.ownBlock = some g → S g
  so : ∀ g, ov.ownBlock = some g → S g
def Port (w : World) (S : Nat → Prop) (b : Nat) (P : Pt) : Prop := ∃ eb gv ov R G, IsPort w S b eb gv ov R G P
theorem ty_ne {w : World} {x y : Nat} {c d : Array Value} {t u : TypeId} {f g : Nat × Nat} (hx : w.heap[x]? = some (.cells c t f)) (hy : w.heap[y]? = some (.cells d u g)) (h : t ≠ u) : x ≠ y := by
  intro e
  subst e
  rw [hx] at hy
  simp at hy
  exact h hy.2.1
theorem IsRing.at_ {w : World} {r g n : Nat} {ic oc : Int} {q : List Int} (h : IsRing w r g n ic oc q) : (∃ cs, w.heap[r]? = some (.cells cs 117)) ∧ ∃ cs, w.heap[g]? = some (.cells cs 5) := by
  obtain ⟨p, zs, h⟩ := h
  exact ⟨⟨_, h.head⟩, ⟨_, h.arr⟩⟩
theorem IsPort.keep {w w' : World} {S : Nat → Prop} {b eb : Nat} {gv ov : Value} {R G : Nat → Nat} {P : Pt} (h : IsPort w S b eb gv ov R G P) (k : ∀ i, S i → w'.heap[i]? = w.heap[i]?) (hs : w.heap.size ≤ w'.heap.size) : IsPort w' S b eb gv ov R G P :=
  ⟨(k b h.sb).trans h.head, h.row.keep (k eb h.se), fun i hi => by
    obtain ⟨ic, oc, hr⟩ := h.ring i hi
    exact ⟨ic, oc, hr.keep (k _ (h.sr i hi).1) (k _ (h.sr i hi).2)⟩, h.inj, own_keep h.gr (fun g hg => k g (h.sg g hg)), own_keep h.ou (fun g hg => k g (h.so g hg)), h.ok, fun i hi => Nat.lt_of_lt_of_le (h.lt i hi) hs, h.sb, h.se, h.sr, h.sg, h.so⟩
theorem IsPort.below {w w' : World} {S : Nat → Prop} {b eb : Nat} {gv ov : Value} {R G : Nat → Nat} {P : Pt} (h : IsPort w S b eb gv ov R G P) (k : Below w.heap.size w w') : IsPort w' S b eb gv ov R G P := h.keep (fun i hi => k.block i (h.lt i hi)) k.size
theorem IsPort.wide {w : World} {S T : Nat → Prop} {b eb : Nat} {gv ov : Value} {R G : Nat → Nat} {P : Pt} (h : IsPort w S b eb gv ov R G P) (hT : ∀ k, S k → T k) (hl : ∀ k, T k → k < w.heap.size) : IsPort w T b eb gv ov R G P :=
  ⟨h.head, h.row, h.ring, h.inj, h.gr, h.ou, h.ok, hl, hT _ h.sb, hT _ h.se, fun i hi => ⟨hT _ (h.sr i hi).1, hT _ (h.sr i hi).2⟩, fun g hg => hT _ (h.sg g hg), fun g hg => hT _ (h.so g hg)⟩
theorem Port.below {w w' : World} {S : Nat → Prop} {b : Nat} {P : Pt} (h : Port w S b P) (k : Below w.heap.size w w') : Port w' S b P := by
  obtain ⟨eb, gv, ov, R, G, h⟩ := h
  exact ⟨eb, gv, ov, R, G, h.below k⟩
theorem Port.drewN {w : World} {S : Nat → Prop} {b : Nat} {P : Pt} (h : Port w S b P) (n : Nat) : Port (w.drewN n) S b P := by
  obtain ⟨eb, gv, ov, R, G, h⟩ := h
  exact ⟨eb, gv, ov, R, G, h.keep (fun _ _ => rfl) (Nat.le_refl _)⟩
theorem Port.off {w w' : World} {S T : Nat → Prop} {b : Nat} {P : Pt} (h : Port w S b P) (k : KeptS T w w') (hd : ∀ i, S i → ¬ T i) : Port w' S b P := by
  obtain ⟨eb, gv, ov, R, G, h⟩ := h
  exact ⟨eb, gv, ov, R, G, h.keep (fun i hi => k.block i (h.lt i hi) (hd i hi)) k.size⟩
theorem Row.same {w : World} {g : Nat} {V : Nat → Value} {L K : List En} (h : Row w g V L) (hl : K.length = L.length) (he : ∀ i, i < L.length → enC (V i) (at0 K i) = enC (V i) (at0 L i)) : Row w g V K := by
  obtain ⟨cs, h1, h2, h3⟩ := h
  exact ⟨cs, h1, by rw [hl]; exact h2, fun i hi j hj => by rw [he i (hl ▸ hi)]; exact h3 i (hl ▸ hi) j hj⟩
/-- One ring has turned. -/
theorem IsPort.ringTurn {w w' : World} {S : Nat → Prop} {b eb : Nat} {gv ov : Value} {R G : Nat → Nat} {P : Pt} (h : IsPort w S b eb gv ov R G P) {i : Nat} (hi : i < P.L.length) (k : Kept (R i) (G i) w w') {ic oc : Int} {q : List Int} (hr : IsRing w' (R i) (G i) P.sz ic oc q) (hq : q.length ≤ P.sz) :
    IsPort w' S b eb gv ov R G { P with L := P.L.set i { at0 P.L i with q := q } } := by
  obtain ⟨ic0, oc0, hr0⟩ := h.ring i hi
  obtain ⟨⟨c1, e1⟩, ⟨c2, e2⟩⟩ := hr0.at_
  obtain ⟨cr, er, _⟩ := h.row
  have n1 : b ≠ R i := ty_ne h.head e1 (by decide)
  have n2 : b ≠ G i := ty_ne h.head e2 (by decide)
  have n3 : eb ≠ R i := ty_ne er e1 (by decide)
  have n4 : eb ≠ G i := ty_ne er e2 (by decide)
  have ho := h.ok.e i
  refine ⟨?_, (h.row.keep (k.block eb (lt_of_some er) n3 n4)).same (by simp) ?_, ?_, ?_, ?_, ?_, h.ok.set hi (x := { at0 P.L i with q := q }) ⟨hq, ho.s0, ho.s3, ho.r0, ho.r1⟩ P.ou, fun j hj => Nat.lt_of_lt_of_le (h.lt j hj) k.size, h.sb, h.se, fun j hj => h.sr j (by simpa using hj), h.sg, h.so⟩
  · simp only [List.length_set]
    exact (k.block b (lt_of_some h.head) n1 n2).trans h.head
  · intro j hj
    rw [at0_set _ hi]
    split
    · rename_i e; subst e; rfl
    · rfl
  · intro j hj
    simp only [List.length_set] at hj
    simp only [at0_set _ hi]
    by_cases e : j = i
    · subst e
      rw [if_pos rfl]
      exact ⟨ic, oc, hr⟩
    · rw [if_neg e]
      obtain ⟨ic1, oc1, hr1⟩ := h.ring j hj
      obtain ⟨⟨d1, f1⟩, ⟨d2, f2⟩⟩ := hr1.at_
      have hij := h.inj j i hj hi e
      exact ⟨ic1, oc1, hr1.keep (k.block _ (lt_of_some f1) hij.1 (ty_ne f1 e2 (by decide))) (k.block _ (lt_of_some f2) (ty_ne f2 e1 (by decide)) hij.2)⟩
  · intro j m hj hm
    simp only [List.length_set] at hj hm
    exact h.inj j m hj hm
  · exact own_keep h.gr (fun g hg => by
      obtain ⟨cur, hc⟩ := own_block h.gr hg
      exact k.block g (lt_of_some hc) (ty_ne hc e1 (by decide)) (ty_ne hc e2 (by decide)))
  · exact own_keep h.ou (fun g hg => by
      obtain ⟨cur, hc⟩ := own_block h.ou hg
      exact k.block g (lt_of_some hc) (ty_ne hc e1 (by decide)) (ty_ne hc e2 (by decide)))
/-- The row of the endpoints has turned. -/
theorem IsPort.rowTurn {w w' : World} {S : Nat → Prop} {b eb : Nat} {gv ov : Value} {R G : Nat → Nat} {P : Pt} (h : IsPort w S b eb gv ov R G P) {i : Nat} (hi : i < P.L.length) (k : Kept eb eb w w') {x : En} (hr : Row w' eb (rp R) (P.L.set i x)) (hq : x.q = (at0 P.L i).q) (hx : En.Ok P.sz x) :
    IsPort w' S b eb gv ov R G { P with L := P.L.set i x } := by
  obtain ⟨cr, er, _⟩ := h.row
  have n1 : b ≠ eb := ty_ne h.head er (by decide)
  refine ⟨?_, hr, ?_, ?_, ?_, ?_, h.ok.set hi hx P.ou, fun j hj => Nat.lt_of_lt_of_le (h.lt j hj) k.size, h.sb, h.se, fun j hj => h.sr j (by simpa using hj), h.sg, h.so⟩
  · simp only [List.length_set]
    exact (k.block b (lt_of_some h.head) n1 n1).trans h.head
  · intro j hj
    simp only [List.length_set] at hj
    obtain ⟨ic1, oc1, hr1⟩ := h.ring j hj
    obtain ⟨⟨d1, f1⟩, ⟨d2, f2⟩⟩ := hr1.at_
    have m1 : R j ≠ eb := ty_ne f1 er (by decide)
    have m2 : G j ≠ eb := ty_ne f2 er (by decide)
    have hr2 := hr1.keep (k.block _ (lt_of_some f1) m1 m1) (k.block _ (lt_of_some f2) m2 m2)
    simp only [at0_set _ hi]
    by_cases e : j = i
    · subst e
      rw [if_pos rfl, hq]
      exact ⟨ic1, oc1, hr2⟩
    · rw [if_neg e]
      exact ⟨ic1, oc1, hr2⟩
  · intro j m hj hm
    simp only [List.length_set] at hj hm
    exact h.inj j m hj hm
  · exact own_keep h.gr (fun g hg => by
      obtain ⟨cur, hc⟩ := own_block h.gr hg
      exact k.block g (lt_of_some hc) (ty_ne hc er (by decide)) (ty_ne hc er (by decide)))
  · exact own_keep h.ou (fun g hg => by
      obtain ⟨cur, hc⟩ := own_block h.ou hg
      exact k.block g (lt_of_some hc) (ty_ne hc er (by decide)) (ty_ne hc er (by decide)))

end Go.Proofs.Ytjojhnkibgkleaa

set_option linter.unusedSimpArgs false
set_option linter.unusedVariables false
set_option maxRecDepth 8000
namespace Go.Proofs.Ytjojhnkibgkleaa
open Go.RowKit Go.Lib

theorem pMade_nil (w : World) : Calls Try.prog 41 #[.pointer none] w fun e w' => e = .returned (.bool false) ∧ w = w' := by
  go_enter Try.func41, Try.ntmps41
  go_wp2
  go_ret
  exact ⟨rfl, rfl⟩
theorem pMade_at (r : Nat) (m : Bool) (w : World) (h0 : w.cell? ⟨r, 0, none⟩ = some (.bool m)) : Calls Try.prog 41 #[.pointer (some ⟨r, 0, none⟩)] w fun e w' => e = .returned (.bool m) ∧ w = w' := by
  go_enter Try.func41, Try.ntmps41
  go_wp2
  go_ret
  exact ⟨rfl, rfl⟩
/-- A pointer to no port that New made: nil, or to one that does not say that it was made. -/
def NoPort (w : World) (v : Value) : Prop := v = .pointer none ∨ ∃ r : Nat, v = .pointer (some ⟨r, 0, none⟩) ∧ w.cell? ⟨r, 0, none⟩ = some (.bool false)
theorem pMade_un (v : Value) (w : World) (h : NoPort w v) : Calls Try.prog 41 #[v] w fun e w' => e = .returned (.bool false) ∧ w = w' := by
  rcases h with rfl | ⟨r, rfl, h⟩
  · exact pMade_nil w
  · exact pMade_at r false w h
theorem isCount_at (n : Int) (w : World) : Calls Try.prog 38 #[.int .i64 n] w fun e w' => e = .returned (.bool (decide (0 ≤ n ∧ n ≤ 64))) ∧ w = w' := by
  by_cases h1 : 0 ≤ n
  · by_cases h2 : n ≤ 64
    · go_enter Try.func38, Try.ntmps38
      go_wp2
      go_ret
      simp [h1, h2]
    · go_enter Try.func38, Try.ntmps38
      go_wp2
      go_ret
      simp [h1, h2]
  · go_enter Try.func38, Try.ntmps38
    go_wp2
    go_ret
    simp [h1]
    omega
theorem isClient_at (b : Nat) (c : Nat) (e : Int) (w : World) (h1 : w.cell? ⟨b, 1, none⟩ = some (.int .i64 c)) : Calls Try.prog 76 #[.pointer (some ⟨b, 0, none⟩), .int .i64 e] w fun x w' => x = .returned (.bool (inr_ 0 c e)) ∧ w = w' := by
  by_cases h2 : 0 ≤ e
  · go_enter Try.func76, Try.ntmps76
    go_wp2
    go_ret
    simp [inr_, h2]
  · go_enter Try.func76, Try.ntmps76
    go_wp2
    go_ret
    simp [inr_, h2]
    omega
theorem isServer_at (b c n : Nat) (a : Option Addr) (k : Nat) (e : Int) (w : World) (h1 : w.cell? ⟨b, 1, none⟩ = some (.int .i64 c)) (h3 : w.cell? ⟨b, 2, none⟩ = some (.slice a n k)) : Calls Try.prog 77 #[.pointer (some ⟨b, 0, none⟩), .int .i64 e] w fun x w' => x = .returned (.bool (inr_ c n e)) ∧ w = w' := by
  by_cases h2 : (c : Int) ≤ e
  · go_enter Try.func77, Try.ntmps77
    go_wp2
    go_ret
    simp [inr_, h2]
  · go_enter Try.func77, Try.ntmps77
    go_wp2
    go_ret
    simp [inr_, h2]
    omega
theorem box_at (b n : Nat) (a : Option Addr) (k : Nat) (w : World) (h3 : w.cell? ⟨b, 2, none⟩ = some (.slice a n k)) : Calls Try.prog 54 #[.pointer (some ⟨b, 0, none⟩)] w fun x w' => x = .returned (.int .i64 n) ∧ w = w' := by
  go_enter Try.func54, Try.ntmps54
  go_wp2
  go_ret
  exact ⟨rfl, rfl⟩
theorem isLast_at (b o : Nat) (p : Value) (x : En) (w : World) (h : EnAt w b o p x) : Calls Try.prog 70 #[.pointer (some ⟨b, o, none⟩)] w fun e w' => e = .returned (.bool (lastE x)) ∧ w = w' := by
  obtain ⟨c0, c1, c2, c3, c4, c5⟩ := h
  by_cases h1 : x.st = 1
  · go_enter Try.func70, Try.ntmps70
    go_wp2
    go_ret
    simp [lastE, h1]
  · go_enter Try.func70, Try.ntmps70
    go_wp2
    go_ret
    simp [lastE, h1]
theorem isSending_at (b o : Nat) (p : Value) (x : En) (w : World) (h : EnAt w b o p x) : Calls Try.prog 71 #[.pointer (some ⟨b, o, none⟩)] w fun e w' => e = .returned (.bool (sendE x)) ∧ w = w' := by
  obtain ⟨c0, c1, c2, c3, c4, c5⟩ := h
  by_cases h1 : x.st = 1
  · go_enter Try.func71, Try.ntmps71
    go_wp2
    go_ret
    simp [sendE, h1]
  · go_enter Try.func71, Try.ntmps71
    go_wp2
    go_ret
    simp [sendE, h1]
theorem mayGo_at (b o : Nat) (p : Value) (x : En) (w : World) (h : EnAt w b o p x) : Calls Try.prog 72 #[.pointer (some ⟨b, o, none⟩)] w fun e w' => e = .returned (.int .i64 (mayE x)) ∧ w = w' := by
  have hc := h.c2
  unfold mayE
  cases hs : sendE x
  · go_enter Try.func72, Try.ntmps72
    go_wp2_with fail
    refine (isSending_at b o p x _ h).mono ?_
    rintro e w1 ⟨rfl, rfl⟩
    rw [hs]
    go_wp2
    go_ret
    exact ⟨rfl, rfl⟩
  · go_enter Try.func72, Try.ntmps72
    go_wp2_with fail
    refine (isSending_at b o p x _ h).mono ?_
    rintro e w1 ⟨rfl, rfl⟩
    rw [hs]
    go_wp2
    go_ret
    exact ⟨rfl, rfl⟩
theorem isOver_at (b o : Nat) (p : Value) (x : En) (w : World) (h : EnAt w b o p x) : Calls Try.prog 51 #[.pointer (some ⟨b, o, none⟩)] w fun e w' => e = .returned (.bool (overE x)) ∧ w = w' := by
  obtain ⟨c0, c1, c2, c3, c4, c5⟩ := h
  by_cases h1 : x.st = 3
  · go_enter Try.func51, Try.ntmps51
    go_wp2
    go_ret
    simp [overE, h1]
  · cases h4 : x.oth
    · rw [h4] at c4
      go_enter Try.func51, Try.ntmps51
      go_wp2
      go_ret
      simp [overE, h1, h4]
    · rw [h4] at c4
      go_enter Try.func51, Try.ntmps51
      go_wp2
      go_ret
      simp [overE, h1, h4]
theorem IsPort.cells {w : World} {S : Nat → Prop} {b eb : Nat} {gv ov : Value} {R G : Nat → Nat} {P : Pt} (h : IsPort w S b eb gv ov R G P) : w.cell? ⟨b, 0, none⟩ = some (.bool true) ∧ w.cell? ⟨b, 1, none⟩ = some (.int .i64 P.c) ∧ w.cell? ⟨b, 2, none⟩ = some (.slice (some ⟨eb, 0, none⟩) P.L.length P.L.length) ∧ w.cell? ⟨b, 3, none⟩ = some gv ∧ w.cell? ⟨b, 4, none⟩ = some ov := by
  have := h.head
  simp [World.cell?, this]
theorem IsPort.frozen {w : World} {S : Nat → Prop} {b eb : Nat} {gv ov : Value} {R G : Nat → Nat} {P : Pt} (h : IsPort w S b eb gv ov R G P) (o : Nat) : w.frozen? ⟨b, o, none⟩ = false := by
  have := h.head
  simp [World.frozen?, this]
theorem zero_at (w : World) : EnAt (w.alloc (.cells #[.pointer none, .int .i64 0, .int .i64 0, .bool false, .bool false, .bool false] 89)) w.heap.size 0 (.pointer none) (z 0) := by
  have h := alloc_new w (.cells #[.pointer none, .int .i64 0, .int .i64 0, .bool false, .bool false, .bool false] 89)
  constructor <;> (simp only [World.cell?, h, z]; rfl)
/-- at: where no port is. -/
theorem at_un (v : Value) (end_ : Int) (w : World) (h : NoPort w v) : Calls Try.prog 49 #[v, .int .i64 end_] w fun e w' => e = .returned (.tuple #[.pointer (some ⟨w.heap.size, 0, none⟩), .int .i64 1]) ∧ EnAt w' w.heap.size 0 (.pointer none) (z 0) ∧ Below w.heap.size w w' := by
  go_enter Try.func49, Try.ntmps49
  go_wp2_with fail
  refine (pMade_un v _ h).mono ?_
  rintro e w1 ⟨rfl, rfl⟩
  go_wp2
  go_ret2
  exact ⟨rfl, zero_at _, (Below.refl _ _).alloc (Nat.le_refl _) _⟩
theorem str_or {P : Pt} (h : P.Ok) (e : Int) : str_ P e = (cli P e || srv P e) := by
  have := h.c
  unfold str_ cli srv inr_
  by_cases h1 : 0 ≤ e <;> by_cases h2 : e < P.c <;> by_cases h3 : e < P.L.length <;> simp [h1, h2, h3] <;> omega
/-- at: an endpoint that there is not. -/
theorem at_bad {w : World} {S : Nat → Prop} {b eb : Nat} {gv ov : Value} {R G : Nat → Nat} {P : Pt} (h : IsPort w S b eb gv ov R G P) (end_ : Int) (hs : str_ P end_ = false) : Calls Try.prog 49 #[.pointer (some ⟨b, 0, none⟩), .int .i64 end_] w fun e w' => e = .returned (.tuple #[.pointer (some ⟨w.heap.size, 0, none⟩), .int .i64 2]) ∧ EnAt w' w.heap.size 0 (.pointer none) (z 0) ∧ Below w.heap.size w w' := by
  obtain ⟨h0, h1, h2, h3, h4⟩ := h.cells
  rw [str_or h.ok, Bool.or_eq_false_iff] at hs
  obtain ⟨hc, hv⟩ := hs
  unfold cli at hc
  unfold srv at hv
  have HC := hide hc
  have HV := hide hv
  clear hc hv
  go_enter Try.func49, Try.ntmps49
  go_wp2_with fail
  refine (pMade_at b true _ h0).mono ?_
  rintro e w1 ⟨rfl, rfl⟩
  go_wp2_with fail
  refine (isClient_at b P.c end_ _ h1).mono ?_
  rintro e w1 ⟨rfl, rfl⟩
  rw [HC.out]
  go_wp2_with fail
  refine (isServer_at b P.c P.L.length _ _ end_ _ h1 h2).mono ?_
  rintro e w1 ⟨rfl, rfl⟩
  rw [HV.out]
  go_wp2
  go_ret2
  exact ⟨rfl, zero_at _, (Below.refl _ _).alloc (Nat.le_refl _) _⟩
/-- at: an endpoint. -/
theorem at_ok {w : World} {S : Nat → Prop} {b eb : Nat} {gv ov : Value} {R G : Nat → Nat} {P : Pt} (h : IsPort w S b eb gv ov R G P) (i : Nat) (hi : i < P.L.length) : Calls Try.prog 49 #[.pointer (some ⟨b, 0, none⟩), .int .i64 i] w fun e w' => e = .returned (.tuple #[.pointer (some ⟨eb, i * 6, none⟩), .int .i64 0]) ∧ w = w' := by
  obtain ⟨h0, h1, h2, h3, h4⟩ := h.cells
  have hn := h.ok.n
  have hs : str_ P i = true := by simp [str_, inr_, hi]
  rw [str_or h.ok] at hs
  unfold cli srv at hs
  cases hc : inr_ 0 P.c i
  · rw [hc, Bool.false_or] at hs
    have HC := hide hc
    have HV := hide hs
    clear hc hs
    go_enter Try.func49, Try.ntmps49
    go_wp2_with fail
    refine (pMade_at b true _ h0).mono ?_
    rintro e w1 ⟨rfl, rfl⟩
    go_wp2_with fail
    refine (isClient_at b P.c i _ h1).mono ?_
    rintro e w1 ⟨rfl, rfl⟩
    rw [HC.out]
    go_wp2_with fail
    refine (isServer_at b P.c P.L.length _ _ i _ h1 h2).mono ?_
    rintro e w1 ⟨rfl, rfl⟩
    rw [HV.out]
    go_wp2
    go_ret2
    exact ⟨rfl, rfl⟩
  · have HC := hide hc
    clear hc hs
    go_enter Try.func49, Try.ntmps49
    go_wp2_with fail
    refine (pMade_at b true _ h0).mono ?_
    rintro e w1 ⟨rfl, rfl⟩
    go_wp2_with fail
    refine (isClient_at b P.c i _ h1).mono ?_
    rintro e w1 ⟨rfl, rfl⟩
    rw [HC.out]
    go_wp2
    go_ret2
    exact ⟨rfl, rfl⟩

end Go.Proofs.Ytjojhnkibgkleaa
