/-
  What stays of the memory, bytes as they lie in memory, slices of bytes; conditions as each theorem has them.
-/
import Derived.Test.YtcihkdmndpdmoaaRows
import Derived.WalkKit
import Derived.WalkSpells
import Derived.WalkLawsBesides
import Derived.BigQuiet
import Derived.BigRegion
import Derived.Deep.RegionHeld3
import Derived.Laws.CopyOwn
import Derived.Laws.IdiomCopy
import Derived.Deep.OwnRows
import Derived.Lib.SliceRun
import Derived.Handy
import Derived.Laws.Rows
import Derived.Laws.Tables
import Derived.Laws.ResultCell
import Derived.OwnWalk
import Derived.Deep.MidRow
import Derived.Deep.LoopGhost
import Derived.WalkMore
import Derived.Lib.SlBytesConst
import Derived.Lib.Strings
import Derived.Lib.AppendStr
import Derived.Test.YtcihkdmndpdmoaaM
set_option linter.unusedSimpArgs false
set_option linter.unusedVariables false
namespace Go.Proofs.Ytcihkdmndpdmoaa
open Go.RowKit Go.Lib

theorem hide {p : Prop} (h : p) : Hid p := h
/-- Nothing that was there has turned but what lies in the blocks r and g. -/
structure Kept (r g : Nat) (w w' : World) : Prop where
  os : w'.os = w.os
  tape : w'.tape = w.tape
  output : w'.output = w.output
  size : w.heap.size ≤ w'.heap.size
  block : ∀ k, k < w.heap.size → k ≠ r → k ≠ g → w'.heap[k]? = w.heap[k]?
theorem Kept.refl (r g : Nat) (w : World) : Kept r g w w := ⟨rfl, rfl, rfl, Nat.le_refl _, fun _ _ _ _ => rfl⟩
theorem Kept.trans {r g : Nat} {a b c : World} (h : Kept r g a b) (k : Kept r g b c) : Kept r g a c :=
  ⟨k.os.trans h.os, k.tape.trans h.tape, k.output.trans h.output, Nat.le_trans h.size k.size, fun i hi h1 h2 => (k.block i (Nat.lt_of_lt_of_le hi h.size) h1 h2).trans (h.block i hi h1 h2)⟩
theorem Kept.drewN {r g : Nat} {a b : World} (h : Kept r g a b) (n : Nat) : Kept r g a (b.drewN n) := ⟨h.os, h.tape, h.output, h.size, h.block⟩
theorem Kept.of_drewN {r g : Nat} {a b : World} {n : Nat} (h : Kept r g (a.drewN n) b) : Kept r g a b := ⟨h.os, h.tape, h.output, h.size, h.block⟩
theorem Kept.wide {x r g : Nat} {a b : World} (h : Kept x x a b) (hx : x = r ∨ x = g) : Kept r g a b :=
  ⟨h.os, h.tape, h.output, h.size, fun k hk h1 h2 => h.block k hk (by rcases hx with rfl | rfl <;> assumption) (by rcases hx with rfl | rfl <;> assumption)⟩
theorem Kept.below {r g B : Nat} {a b : World} (h : Kept r g a b) (hr : B ≤ r) (hg : B ≤ g) (hB : B ≤ a.heap.size) : Below B a b :=
  ⟨h.os, h.tape, h.output, h.size, fun k hk => h.block k (by omega) (by omega) (by omega)⟩
theorem Kept.of_below {r g : Nat} {a b : World} (h : Below a.heap.size a b) : Kept r g a b := ⟨h.os, h.tape, h.output, h.size, fun k hk _ _ => h.block k hk⟩
theorem Kept.setCell {r g : Nat} {a b : World} (h : Kept r g a b) {p : Addr} (hp : p.block = r ∨ p.block = g) (u : Value) : Kept r g a (b.setCell p u) :=
  h.trans ⟨rfl, rfl, rfl, by simp [World.setCell], fun k hk h1 h2 => Below.heap_setCell _ _ _ _ (by rcases hp with e | e <;> omega)⟩
theorem Kept.setRow {r g : Nat} {a b : World} (h : Kept r g a b) {p : Nat} (hp : p = r ∨ p = g) (cs : Array Value) : Kept r g a (b.setRow p cs) :=
  h.trans ⟨rfl, rfl, rfl, by simp [World.setRow], fun k hk h1 h2 => setRow_other b p k cs (by rcases hp with e | e <;> omega)⟩
theorem Kept.alloc {r g : Nat} {a b : World} (h : Kept r g a b) (o : Obj) : Kept r g a (b.alloc o) :=
  h.trans ⟨rfl, rfl, rfl, by simp, fun k hk _ _ => Below.heap_alloc _ _ _ hk⟩
theorem Kept.set {r : Nat} {a b : World} (h : Kept r r a b) (o : Nat) (u : Value) : Kept r r a (b.setCell ⟨r, o, none⟩ u) := h.setCell (Or.inl rfl) u
theorem heap_setCell_same {w : World} {r : Nat} {C : Array Value} {t : TypeId} (h : w.heap[r]? = some (.cells C t)) (o : Nat) (v : Value) : (w.setCell ⟨r, o, none⟩ v).heap[r]? = some (.cells (C.setIfInBounds o v) t) := by
  simp [World.setCell, Array.getElem?_modify, h]
theorem add_none (b o j : Nat) : (⟨b, o, none⟩ : Addr).add j = ⟨b, o + j, none⟩ := by unfold Addr.add; split <;> simp_all
theorem lt_of_some {w : World} {r : Nat} {o : Obj} (h : w.heap[r]? = some o) : r < w.heap.size := (Array.getElem?_eq_some_iff.1 h).1
theorem Kept.at_ {r g : Nat} {w w' : World} (h : Kept r g w w') {k : Nat} {o : Obj} (hk : w.heap[k]? = some o) (h1 : k ≠ r) (h2 : k ≠ g) : w'.heap[k]? = some o := by rw [h.block k (lt_of_some hk) h1 h2]; exact hk
theorem alloc_new (w : World) (o : Obj) : (w.alloc o).heap[w.heap.size]? = some o := by
  show (w.heap.push o)[w.heap.size]? = _
  simp
theorem alloc_new2 (w : World) (o1 o2 : Obj) : ((w.alloc o1).alloc o2).heap[w.heap.size + 1]? = some o2 := by
  have := alloc_new (w.alloc o1) o2
  rwa [show (w.alloc o1).heap.size = w.heap.size + 1 by simp] at this
theorem alloc_old {w : World} {g : Nat} {x : Obj} (o : Obj) (h : w.heap[g]? = some x) : (w.alloc o).heap[g]? = some x := by
  rw [Below.heap_alloc _ _ _ (lt_of_some h)]; exact h
theorem lt_of_cell {w : World} {a : Addr} {v : Value} (h : w.cell? a = some v) : a.block < w.heap.size := by
  unfold World.cell? at h
  cases e : w.heap[a.block]? with
  | none => simp [e] at h
  | some x => exact lt_of_some e
theorem below_drewN {B : Nat} {w w' : World} (h : Below B w w') (n : Nat) : Below B w (w'.drewN n) := ⟨h.os, h.tape, h.output, h.size, h.block⟩
/-- Texts as values of the walk. -/
theorem eq_ba (a b : ByteArray) : (a.toList == b.toList) = decide (a = b) := by
  rw [Lib.toList_data, Lib.toList_data]
  by_cases h : a = b
  · subst h; simp
  · have : ¬ a.data.toList = b.data.toList := fun e => h (by
      apply ByteArray.ext
      exact Array.toList_inj.1 e)
    have h2 : ¬ a.data = b.data := fun e => this (by rw [e])
    simp [h, h2]
theorem ba_size (t : ByteArray) : t.toList.length = t.size := by rw [Lib.toList_data]; simp
theorem ba_nil (t : ByteArray) : (t.toList == []) = decide (t.size = 0) := by
  have h := ba_size t
  cases e : t.toList with
  | nil => rw [e] at h; simp at h; simp [← h]
  | cons x r =>
    rw [e] at h
    have : t.size ≠ 0 := by rw [← h]; simp
    simp [this]
theorem ba_emp (t : ByteArray) : t.toList.isEmpty = decide (t.size = 0) := by
  rw [← ba_nil]
  cases t.toList <;> rfl
theorem Kept.of_size {r g : Nat} {w w' : World} (h : Kept r g w w') : w.heap.size ≤ w'.heap.size := h.size
theorem Kept.one {r g : Nat} {w w' : World} (h : Kept r g w w') (hg : w.heap.size ≤ g) : Kept r r w w' := ⟨h.os, h.tape, h.output, h.size, fun k hk h1 _ => h.block k hk h1 (by omega)⟩
/-- Numbers of a kind as they lie in memory. -/
def nums (k : IntKind) (l : List Nat) : List Value := l.map fun x => Value.int k (x : Nat)
theorem nums_length (k : IntKind) (l : List Nat) : (nums k l).length = l.length := by simp [nums]
theorem nums_set (k : IntKind) (l : List Nat) (i x : Nat) : (nums k l).set i (.int k (x : Nat)) = nums k (l.set i x) := by simp [nums, List.map_set]
theorem nums_append (k : IntKind) (l m : List Nat) : nums k (l ++ m) = nums k l ++ nums k m := by simp [nums]
theorem nums_one (k : IntKind) (l : List Nat) : ∀ v ∈ nums k l, v.oneCell' = true := by intro v hv; simp [nums] at hv; obtain ⟨a, _, rfl⟩ := hv; rfl
theorem nums_at (k : IntKind) (l : List Nat) (j : Nat) (v : Value) (h : (nums k l)[j]? = some v) : j < l.length ∧ v = .int k (l.getD j 0 : Nat) := by
  simp [nums, List.getElem?_map] at h
  obtain ⟨x, hx, rfl⟩ := h
  have := (List.getElem?_eq_some_iff.1 hx).1
  refine ⟨this, ?_⟩
  simp [List.getD, hx]
theorem nums_get (k : IntKind) (l : List Nat) (j : Nat) (h : j < l.length) : (nums k l)[j]? = some (.int k (l.getD j 0 : Nat)) := by
  simp [nums, List.getElem?_map, List.getElem?_eq_getElem h, List.getD]
/-- Numbers as the bytes of a string, and a text as numbers. -/
def strN (l : List Nat) : ByteArray := ⟨(l.map UInt8.ofNat).toArray⟩
def byt (t : ByteArray) : List Nat := t.data.toList.map UInt8.toNat
theorem byt_length (t : ByteArray) : (byt t).length = t.size := by show (t.data.toList.map _).length = t.data.size; simp
theorem byt_lt (t : ByteArray) : ∀ x ∈ byt t, x < 256 := by
  intro x hx
  simp only [byt, List.mem_map] at hx
  obtain ⟨c, _, rfl⟩ := hx
  exact c.toNat_lt
theorem strN_byt (t : ByteArray) : strN (byt t) = t := by
  simp only [strN, byt, List.map_map]
  have : (UInt8.ofNat ∘ UInt8.toNat) = id := by funext x; simp
  rw [this, List.map_id]
theorem byt_strN (l : List Nat) (h : ∀ x ∈ l, x < 256) : byt (strN l) = l := by
  simp only [strN, byt, List.map_map]
  conv => rhs; rw [← List.map_id l]
  apply List.map_congr_left
  intro x hx
  have := h x hx
  simp
  omega
theorem byt_inj {a b : ByteArray} (h : byt a = byt b) : a = b := by rw [← strN_byt a, ← strN_byt b, h]
theorem strN_size (l : List Nat) : (strN l).size = l.length := by show ((l.map UInt8.ofNat).toArray).size = _; simp
theorem byt_nil (t : ByteArray) : byt t = [] ↔ t.size = 0 := by rw [← byt_length]; exact List.length_eq_zero_iff.symm
theorem info5' : (Try.prog.info? 5).map (fun i => (i.zero, i.size, i.bytes)) = some (some (.int .u8 0), 1, 1) := by kernel_rfl
theorem info5p : ∃ i, Try.prog.info? 5 = some i ∧ i.zero = some (.int .u8 0) ∧ i.size = 1 ∧ i.bytes = 1 := info_parts info5'
/-- v is the call's own slice of the values xs, each one cell, in a block from B on. -/
def Own (w : World) (B : Nat) (e : TypeId) (v : Value) (xs : List Value) : Prop := w.ownsRow B e 1 v xs.length xs
theorem Own.keep {w w' : World} {B : Nat} {e : TypeId} {v : Value} {xs : List Value} (h : Own w B e v xs) (k : ∀ g, v.ownBlock = some g → w'.heap[g]? = w.heap[g]?) : Own w' B e v xs := by
  refine ⟨h.1, ?_⟩
  rcases h.2 with h0 | ⟨x, cap, cur, hv, hx, hh, hrest⟩
  · exact Or.inl h0
  · exact Or.inr ⟨x, cap, cur, hv, hx, (k x (by rw [hv]; rfl)).trans hh, hrest⟩
theorem Own.block {w : World} {B : Nat} {e : TypeId} {v : Value} {xs : List Value} (h : Own w B e v xs) {g : Nat} (hg : v.ownBlock = some g) : B ≤ g ∧ ∃ cur, w.heap[g]? = some (.cells cur e) := by
  rcases h.2 with ⟨rfl, _⟩ | ⟨x, cap, cur, rfl, hx, hh, hrest⟩
  · cases hg
  · simp [Value.ownBlock] at hg
    subst hg
    exact ⟨hx, cur, hh⟩
theorem Own.below {w w' : World} {B : Nat} {e : TypeId} {v : Value} {xs : List Value} (h : Own w B e v xs) (k : Below w.heap.size w w') : Own w' B e v xs :=
  h.keep fun g hg => by
    obtain ⟨_, cur, hh⟩ := h.block hg
    exact k.block g (lt_of_some hh)
/-- Where it lies. -/
theorem Own.lies {w : World} {B : Nat} {e : TypeId} {v : Value} {xs : List Value} (h : Own w B e v xs) (h0 : 0 < xs.length) : ∃ g cap, v = .slice (some ⟨g, 0, none⟩) xs.length cap ∧ B ≤ g ∧ g < w.heap.size ∧ xs.length ≤ cap ∧ cap ≤ maxLen ∧ (∀ j u, xs[j]? = some u → w.cell? ⟨g, j, none⟩ = some u) ∧ ∀ j, w.frozen? ⟨g, j, none⟩ = false := by
  rcases h.2 with ⟨rfl, e0⟩ | ⟨g, cap, cur, rfl, hx, hh, hc, hm, hs, ht⟩
  · omega
  · refine ⟨g, cap, rfl, hx, lt_of_some hh, hc, hm, fun j u hu => ?_, fun j => by simp [World.frozen?, hh]⟩
    have hj := (List.getElem?_eq_some_iff.1 hu).1
    rw [Nat.mul_one] at ht
    have : cur.toList[j]? = some u := by rw [← hu, ← ht, List.getElem?_take, if_pos (by omega)]
    simp only [World.cell?, hh]
    simpa using this
theorem Own.set {w : World} {B : Nat} {e : TypeId} {g n cap : Nat} {xs : List Value} (h : Own w B e (.slice (some ⟨g, 0, none⟩) n cap) xs) (j : Nat) (u : Value) : Own (w.setCell ⟨g, j, none⟩ u) B e (.slice (some ⟨g, 0, none⟩) n cap) (xs.set j u) := by
  refine ⟨by rw [List.length_set]; exact h.1, ?_⟩
  rcases h.2 with ⟨e0, _⟩ | ⟨g', cap', cur, hv, hx, hh, hc, hm, hs, ht⟩
  · cases e0
  · simp only [Value.slice.injEq, Option.some.injEq, Addr.mk.injEq, and_true] at hv
    obtain ⟨rfl, h2, rfl⟩ := hv
    refine Or.inr ⟨g, cap, cur.setIfInBounds j u, ?_, hx, heap_setCell_same hh j u, by rw [List.length_set]; exact hc, hm, by simpa using hs, ?_⟩
    · rw [List.length_set, h2]
    · rw [List.length_set]
      rw [Nat.mul_one] at ht ⊢
      rw [Array.toList_setIfInBounds, List.take_set, ht]
theorem own_app (sl e : TypeId) (z : Value) (by_ : Nat) (hu : Try.prog.underlying sl = some (.slice e)) (hinf : ∃ i, Try.prog.info? e = some i ∧ i.zero = some z ∧ i.size = 1 ∧ i.bytes = by_) (hzc : z.cells.size = 1)
    {w : World} {B : Nat} {v : Value} {xs : List Value} (hown : Own w B e v xs) (a : Addr) (m c : Nat) (news : List Value) (hl : news.length = m) (hnews : ∀ j u, news[j]? = some u → w.cell? (a.add j) = some u) (h1 : ∀ u ∈ news, u.oneCell' = true)
    (hlen : (xs.length + m) * by_ ≤ 140737488355328) (h63 : xs.length + m ≤ 140737488355328) (hB : B ≤ w.heap.size) :
    ∃ v' w', (Builtin.append_ #[sl, sl] sl #[v, .slice (some a) m c]).run Try.prog w = .ok v' w' ∧ Own w' B e v' (xs ++ news) ∧ Below B w w' ∧ (∀ k, k < w.heap.size → v.ownBlock ≠ some k → w'.heap[k]? = w.heap[k]?) := by
  obtain ⟨i, hi, hz, hsz, hby⟩ := hinf
  obtain ⟨v', w', hr, ho, hg, _⟩ := run_append_own (P := Try.prog) w B sl sl e i z 1 by_ hu hi hz hsz hby hzc (by omega) v xs.length xs hown a m c news (by omega) hnews h1 (by unfold maxLen; omega) hlen hB
  refine ⟨v', w', hr, ?_, (Below.refl B w).grown hg hB (fun k hk => (hown.block hk).1), fun k hk hne => ?_⟩
  · unfold Own
    rw [List.length_append, hl]
    exact ho
  · exact hg.block k hk (fun e => hne e.symm)
theorem inf9 : ∃ i, Try.prog.info? 9 = some i ∧ i.zero = some (.string ⟨#[]⟩) ∧ i.size = 1 ∧ i.bytes = 16 := info_parts (by kernel_rfl)
/-- The operation 'append' for the walk, where its run is known by an equation. -/
theorem wpList_app_run {P : Program} (w : World) {ops : Array Oper} {rest : List Oper} {o : Oper} {a : Act} {Q : Exit → Act → World → Prop} (hgd : o.guard = none) (d s : Operand) (t t' : TypeId)
    (ho : o.op = .call { callee := .builtin .append, args := #[d, s], argTypes := #[t, t'] }) (v u : Value) (hd : a.eval d = v) (hs : a.eval s = u) {v' : Value} {w' : World}
    (hr : (Builtin.append_ #[t, t'] o.type #[v, u]).run P w = .ok v' w') (h : wpList P ops Q rest (a.put o.dst v') w') : wpList P ops Q (o :: rest) a w := by
  refine wpList_plain hgd fun K hK => ?_
  unfold Oper.wp execOp
  simp only [ho, resolve, invoke, builtin, Sem.run_bind, Sem.run_pure, Result.andThen_ok, List.map_toArray, List.map_cons, List.map_nil, hd, hs, hr]
  exact hK _ _ h
theorem strN_of (l : List Nat) : strOfNums (l.map fun (x : Nat) => (x : Int)) = strN l := by simp [strOfNums, strN]
theorem run_str (w : World) (b o len cap : Nat) (l : List Nat) (hl : l.length = len) (hc : ∀ i, i < len → w.cell? ⟨b, o + i, none⟩ = some (.int .u8 (l.getD i 0 : Nat))) : (convert 30 9 (.slice (some ⟨b, o, none⟩) len cap)).run Try.prog w = .ok (.string (strN l)) w := by
  rw [← strN_of]
  refine run_convert_bytes_arg (P := Try.prog) w 30 5 Try.underlying30 Try.underlying5 b o len cap (l.map fun (x : Nat) => (x : Int)) (by simpa using hl) (fun i hi => ?_) 9 Try.underlying9
  rw [hc i hi]
  have : i < l.length := by omega
  simp [List.getD, this]
theorem take_getD {α : Type} {ps : List α} {k : Nat} {d : α} (h : k < ps.length) : ps.take (k + 1) = ps.take k ++ [ps.getD k d] := by
  rw [List.take_succ_eq_append_getElem h, List.getD, List.getElem?_eq_getElem h]; rfl
/-- A slice of the bytes l, wherever it lies. -/
structure Src (w : World) (a : Option Addr) (len cap : Nat) (l : List Nat) : Prop where
  hlen : l.length = len
  hcap : len ≤ cap
  hmax : cap ≤ maxLen
  nil : a = none → cap = 0
  lies : 0 < len → ∃ b o, a = some ⟨b, o, none⟩ ∧ b < w.heap.size ∧ ∀ i, i < len → w.cell? ⟨b, o + i, none⟩ = some (.int .u8 (l.getD i 0 : Nat))
  byte : ∀ x ∈ l, x < 256
/-- It does not lie in block r. -/
def Off (a : Option Addr) (len r : Nat) : Prop := 0 < len → ∀ b o, a = some ⟨b, o, none⟩ → b ≠ r
theorem Src.keep {w w' : World} {a : Option Addr} {len cap : Nat} {l : List Nat} (h : Src w a len cap l) (hk : 0 < len → ∀ b o, a = some ⟨b, o, none⟩ → w'.heap[b]? = w.heap[b]?) (hs : w.heap.size ≤ w'.heap.size) : Src w' a len cap l := by
  refine ⟨h.hlen, h.hcap, h.hmax, h.nil, fun h0 => ?_, h.byte⟩
  obtain ⟨b, o, e, hb, hc⟩ := h.lies h0
  exact ⟨b, o, e, by omega, fun i hi => (World.cell?_of_block (hk h0 b o e)).trans (hc i hi)⟩
theorem Src.lt {w : World} {a : Option Addr} {len cap : Nat} {l : List Nat} (h : Src w a len cap l) (h0 : 0 < len) {b o : Nat} (e : a = some ⟨b, o, none⟩) : b < w.heap.size := by
  obtain ⟨b', o', e', hb, hc⟩ := h.lies h0
  rw [e] at e'
  simp only [Option.some.injEq, Addr.mk.injEq, and_true] at e'
  omega
theorem Src.below {w w' : World} {a : Option Addr} {len cap : Nat} {l : List Nat} (h : Src w a len cap l) (k : Below w.heap.size w w') : Src w' a len cap l :=
  h.keep (fun h0 b o e => k.block b (h.lt h0 e)) k.size
theorem Src.kept {w w' : World} {a : Option Addr} {len cap g : Nat} {l : List Nat} (h : Src w a len cap l) (k : Kept g g w w') (ho : Off a len g) : Src w' a len cap l :=
  h.keep (fun h0 b o e => k.block b (h.lt h0 e) (ho h0 b o e) (ho h0 b o e)) k.size
theorem Src.off {w : World} {a : Option Addr} {len cap : Nat} {l : List Nat} (h : Src w a len cap l) {r : Nat} (hr : w.heap.size ≤ r) : Off a len r := by
  intro h0 b o e
  have := h.lt h0 e
  omega
theorem Src.nilS (w : World) : Src w none 0 0 [] := ⟨rfl, Nat.le_refl _, Nat.zero_le _, fun _ => rfl, fun h => by omega, by simp⟩
theorem run_str_src {w : World} {a : Option Addr} {len cap : Nat} {l : List Nat} (h : Src w a len cap l) : (convert 30 9 (.slice a len cap)).run Try.prog w = .ok (.string (strN l)) w := by
  by_cases h0 : 0 < len
  · obtain ⟨b, o, rfl, _, hc⟩ := h.lies h0
    exact run_str w b o len cap l h.hlen hc
  · obtain rfl : len = 0 := by omega
    obtain rfl : l = [] := List.eq_nil_of_length_eq_zero h.hlen
    cases a with
    | none => exact run_convert_bytes_nil (P := Try.prog) w 30 5 Try.underlying30 Try.underlying5 0 cap 9 Try.underlying9
    | some x =>
      rw [run_convert_bytes_string w 30 9 5 _ 0 cap Try.underlying30 Try.underlying5 Try.underlying9]
      exact run_bytesToString w x 0 cap [] (by simpa using run_loadCells_list (P := Try.prog) w x [] (by simp))
theorem own_src {w : World} {B : Nat} {v : Value} {l : List Nat} (h : Own w B 5 v (nums .u8 l)) (hb : ∀ x ∈ l, x < 256) : ∃ a cap, v = .slice a l.length cap ∧ Src w a l.length cap l ∧ (∀ b o, a = some ⟨b, o, none⟩ → B ≤ b) := by
  have hl := nums_length .u8 l
  rcases h.2 with ⟨rfl, h0⟩ | ⟨g, cap, cur, rfl, hg, hh, hc, hm, hs, ht⟩
  · rw [hl] at h0
    obtain rfl : l = [] := List.eq_nil_of_length_eq_zero h0
    exact ⟨none, 0, rfl, Src.nilS w, fun b o e => by cases e⟩
  · rw [hl] at hc ht ⊢
    refine ⟨some ⟨g, 0, none⟩, cap, rfl, ⟨rfl, hc, hm, fun e => (by cases e), fun _ => ⟨g, 0, rfl, lt_of_some hh, fun i hi => ?_⟩, hb⟩, fun b o e => by simp at e; omega⟩
    rw [Nat.mul_one] at ht
    have e1 : cur[i]? = (nums .u8 l)[i]? := by rw [← ht, List.getElem?_take, if_pos hi]; simp
    rw [Nat.zero_add]
    simp only [World.cell?, hh]
    rw [e1]
    exact nums_get .u8 l i hi
theorem inf5 : ∃ i, Try.prog.info? 5 = some i ∧ i.zero = some (.int .u8 0) ∧ i.size = 1 ∧ i.bytes = 1 := info5p
/-- All but the own block of v is as it was. -/
def But (v : Value) (w w' : World) : Prop := ∀ k, k < w.heap.size → v.ownBlock ≠ some k → w'.heap[k]? = w.heap[k]?
/-- 'append(v, x...)', v the call's own bytes. -/
theorem run_app {w : World} {B : Nat} {v : Value} {l : List Nat} (hown : Own w B 5 v (nums .u8 l)) {a : Option Addr} {m c : Nat} {bs : List Nat} (hs : Src w a m c bs) (hlen : l.length + m ≤ 140737488355328) (hB : B ≤ w.heap.size) :
    ∃ v' w', (Builtin.append_ #[30, 30] 30 #[v, .slice a m c]).run Try.prog w = .ok v' w' ∧ Own w' B 5 v' (nums .u8 (l ++ bs)) ∧ Below B w w' ∧ But v w w' := by
  cases a with
  | none =>
    obtain ⟨i, hi, hz, hsz, hby⟩ := info5p
    have hc := hs.nil rfl
    have := hs.hcap
    obtain rfl : m = 0 := by omega
    obtain rfl : c = 0 := hc
    obtain rfl : bs = [] := List.eq_nil_of_length_eq_zero hs.hlen
    exact ⟨v, w, run_append_owned_none (P := Try.prog) w B 30 30 5 i 1 Try.underlying30 hi v _ (nums .u8 l) hown, by simpa using hown, Below.refl _ _, fun _ _ _ => rfl⟩
  | some x =>
    obtain ⟨v', w', h1, h2, h3, h4⟩ := own_app 30 5 (.int .u8 0) 1 Try.underlying30 inf5 rfl hown x m c (nums .u8 bs) (by rw [nums_length, hs.hlen])
      (fun j u hu => by
        obtain ⟨hj, rfl⟩ := nums_at _ _ _ _ hu
        rw [hs.hlen] at hj
        obtain ⟨b, o, e, _, hcell⟩ := hs.lies (by omega)
        simp at e
        subst e
        rw [add_none]
        exact hcell j hj) (nums_one _ _) (by rw [nums_length]; omega) (by rw [nums_length]; omega) hB
    exact ⟨v', w', h1, by rw [nums_append]; exact h2, h3, h4⟩
theorem own_nil (w : World) (B : Nat) : Own w B 5 (.slice none 0 0) (nums .u8 []) := ⟨rfl, Or.inl ⟨rfl, rfl⟩⟩
theorem own_new5 (w : World) : Own (w.alloc (.cells #[] 5)) w.heap.size 5 (.slice (some ⟨w.heap.size, 0, none⟩) 0 0) (nums .u8 []) :=
  ⟨rfl, Or.inr ⟨w.heap.size, 0, #[], rfl, Nat.le_refl _, alloc_new _ _, by simp [nums], Nat.zero_le _, by simp, by simp [nums]⟩⟩
end Go.Proofs.Ytcihkdmndpdmoaa
