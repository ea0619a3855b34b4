/-
  The reference's port as it lies in memory; conditions as each theorem has them.
-/
import Derived.Test.YtjojhnkibgkleaaQ
import Derived.Test.YtjojhnkibgkleaaRQ
set_option linter.unusedSimpArgs false
set_option linter.unusedVariables false
set_option maxRecDepth 8000
namespace Go.Proofs.Ytjojhnkibgkleaa
open Go.RowKit Go.Lib

/-- A ring of the reference's: its bytes in v. -/
def RR (w : World) (y n : Nat) (q : List Int) (v : Value) : Prop := ∃ inn out h, IsRef w y n inn out q h v
theorem OwnV.block {w : World} {h : Nat} {v : Value} {l : List Int} (o : OwnV w h v l) {g : Nat} (hg : v.ownBlock = some g) : g = h ∧ ∃ cur, w.heap[g]? = some (.cells cur 5 (0, 0)) := by
  rcases o with ⟨rfl, _⟩ | ⟨cap, cur, rfl, hh, _⟩
  · cases hg
  · simp [Value.ownBlock] at hg
    subst hg
    exact ⟨rfl, cur, hh⟩
theorem RR.keep {w w' : World} {y n : Nat} {q : List Int} {v : Value} (r : RR w y n q v) (hy : w'.heap[y]? = w.heap[y]?) (hv : ∀ g, v.ownBlock = some g → w'.heap[g]? = w.heap[g]?) : RR w' y n q v := by
  obtain ⟨inn, out, h, r⟩ := r
  refine ⟨inn, out, h, by rw [hy]; exact r.head, ?_, r.ne, r.byte, r.i0, r.i1, r.o0, r.o1, r.fits, r.max⟩
  rcases r.own with o | o
  · exact Or.inl o
  · exact Or.inr (o.keep (hv h o.block))
theorem RR.head {w : World} {y n : Nat} {q : List Int} {v : Value} (r : RR w y n q v) : ∃ cs, w.heap[y]? = some (.cells cs 108) := by
  obtain ⟨inn, out, h, r⟩ := r
  exact ⟨_, r.head⟩
theorem RR.blk {w : World} {y n : Nat} {q : List Int} {v : Value} (r : RR w y n q v) {g : Nat} (hg : v.ownBlock = some g) : ∃ cur, w.heap[g]? = some (.cells cur 5 (0, 0)) := by
  obtain ⟨inn, out, h, r⟩ := r
  exact (r.own.block hg).2
theorem RR.bytes {w : World} {y n : Nat} {q : List Int} {v : Value} (r : RR w y n q v) : ∀ x ∈ q, 0 ≤ x ∧ x < 256 := by
  obtain ⟨inn, out, h, r⟩ := r
  exact r.byte
theorem RR.cellV {w : World} {y n : Nat} {q : List Int} {v : Value} (r : RR w y n q v) : w.cell? ⟨y, 1, none⟩ = some v ∧ (∃ a c, v = .slice a q.length c) ∧ q.length ≤ n ∧ n ≤ 65536 := by
  obtain ⟨inn, out, h, r⟩ := r
  obtain ⟨a, c, e, _⟩ := r.own.form
  exact ⟨(rhd_cells r.head).2.1, ⟨a, c, e⟩, r.fits, r.max⟩
/-- A ring's block of bytes, where there is one; else one that is not there yet. -/
theorem RR.fresh {w : World} {y n : Nat} {q : List Int} {v : Value} (r : RR w y n q v) : ∃ inn out h, IsRef w y n inn out q h v ∧ (v.ownBlock = some h ∨ w.heap.size ≤ h) := by
  obtain ⟨inn, out, h, r⟩ := r
  rcases r.own with ⟨e1, e2⟩ | o
  · refine ⟨inn, out, w.heap.size, ⟨r.head, Or.inl ⟨e1, e2⟩, by have := lt_of_some r.head; omega, r.byte, r.i0, r.i1, r.o0, r.o1, r.fits, r.max⟩, Or.inr (Nat.le_refl _)⟩
  · exact ⟨inn, out, h, r, Or.inl o.block⟩
/-- What a ring's own call turns. -/
def ringS (y : Nat) (v : Value) : Nat → Prop := fun k => k = y ∨ v.ownBlock = some k
theorem rput_v (y n : Nat) (q : List Int) (v : Value) (a : Option Addr) (len cap : Nat) (bs : List Int) (m : Nat) (hm : m = min len (n - q.length)) (w : World) (r : RR w y n q v) (hs : Src w a len cap bs) (hap : ∀ b o, a = some ⟨b, o, none⟩ → 0 < len → b ≠ y ∧ v.ownBlock ≠ some b) :
    Calls Try.prog 85 #[.pointer (some ⟨y, 0, none⟩), .slice a len cap] w fun e w' => ∃ v', e = .returned (.int .i64 (m : Nat)) ∧ RR w' y n (q ++ bs.take m) v' ∧ (∀ g, v'.ownBlock = some g → v.ownBlock = some g ∨ w.heap.size ≤ g) ∧ KeptS (ringS y v) w w' := by
  obtain ⟨inn, out, h, r, hh⟩ := r.fresh
  have hl : len ≤ 9223372036854775807 := by have := hs.hcap; have := hs.hmax; unfold maxLen at this; omega
  subst hm
  refine (refput y n inn out q h v a len cap bs w r hs hl (fun b o e h0 => ⟨(hap b o e h0).1, fun e2 => by
    subst e2
    rcases hh with h1 | h1
    · exact (hap b o e h0).2 h1
    · have := hs.lt h0 e; omega⟩)).mono ?_
  rintro e w' ⟨h', v', rfl, r', hh', k⟩
  refine ⟨v', rfl, ⟨_, _, h', r'⟩, fun g hg => ?_, ⟨k.os, k.tape, k.output, k.size, fun i hi hn => k.block i hi (fun e => hn (Or.inl e)) (fun e => ?_)⟩⟩
  · have e1 := (r'.own.block hg).1
    subst e1
    rcases hh' with h1 | h1
    · subst h1
      rcases hh with h2 | h2
      · exact Or.inl h2
      · exact Or.inr h2
    · exact Or.inr h1
  · subst e
    rcases hh with h2 | h2
    · exact hn (Or.inr h2)
    · omega
theorem rpeek_v (y n : Nat) (k : Int) (q : List Int) (v : Value) (w : World) (r : RR w y n q v) :
    Calls Try.prog 88 #[.pointer (some ⟨y, 0, none⟩), .int .i64 k] w fun e w' => ∃ a c, e = .returned (.slice a (q.take (min k.toNat q.length)).length c) ∧ Src w' a (q.take (min k.toNat q.length)).length c (q.take (min k.toNat q.length)) ∧ Below w.heap.size w w' := by
  obtain ⟨inn, out, h, r⟩ := r
  refine (refpeek y n inn out k q h v w r).mono ?_
  rintro e w' ⟨h', v', rfl, ho, hh, hb⟩
  obtain ⟨c, ev, hs⟩ := ho.src (fun x hx => r.byte x (List.mem_of_mem_take hx))
  exact ⟨_, c, by rw [ev], hs, hb⟩
theorem rtake_v (y n : Nat) (k : Int) (q : List Int) (v : Value) (w : World) (r : RR w y n q v) :
    Calls Try.prog 87 #[.pointer (some ⟨y, 0, none⟩), .int .i64 k] w fun e w' => ∃ a c v', e = .returned (.slice a (q.take (min k.toNat q.length)).length c) ∧ Src w' a (q.take (min k.toNat q.length)).length c (q.take (min k.toNat q.length)) ∧ RR w' y n (q.drop (min k.toNat q.length)) v' ∧ (∀ g, v'.ownBlock = some g → w.heap.size ≤ g) ∧ KeptS (fun i => i = y) w w' := by
  obtain ⟨inn, out, h, r⟩ := r
  refine (reftake y n inn out k q h v w r).mono ?_
  rintro e w' ⟨h', v', ho, vo, rfl, hown, hho, r', hh', kk⟩
  obtain ⟨c, ev, hs⟩ := hown.src (fun x hx => r.byte x (List.mem_of_mem_take hx))
  exact ⟨_, c, v', by rw [ev], hs, ⟨_, _, _, r'⟩, fun g hg => by rw [(r'.own.block hg).1]; exact hh', ⟨kk.os, kk.tape, kk.output, kk.size, fun i hi hn => kk.block i hi hn hn⟩⟩
theorem rnew_v (n : Nat) (w : World) (h : n ≤ 65536) : Calls Try.prog 74 #[.int .i64 n] w fun e w' => e = .returned (.tuple #[.pointer (some ⟨w.heap.size, 0, none⟩), .int .i64 0]) ∧ RR w' w.heap.size n [] (.slice none 0 0) ∧ Below w.heap.size w w' ∧ w'.heap.size = w.heap.size + 1 :=
  (refnew_good n w h).mono fun e w' ⟨e1, r, hb, hz⟩ => ⟨e1, ⟨_, _, _, r⟩, hb, hz⟩

/-- An endpoint of the reference's: its six cells. -/
def reC (p : Value) (x : En) : List Value := [.int .i64 x.st, .int .i64 x.room, .bool x.nw, .bool x.oth, .bool x.ths, p]
structure ReAt (w : World) (b o : Nat) (p : Value) (x : En) : Prop where
  c0 : w.cell? ⟨b, o, none⟩ = some (.int .i64 x.st)
  c1 : w.cell? ⟨b, o + 1, none⟩ = some (.int .i64 x.room)
  c2 : w.cell? ⟨b, o + 2, none⟩ = some (.bool x.nw)
  c3 : w.cell? ⟨b, o + 3, none⟩ = some (.bool x.oth)
  c4 : w.cell? ⟨b, o + 4, none⟩ = some (.bool x.ths)
  c5 : w.cell? ⟨b, o + 5, none⟩ = some p
def RRow (w : World) (g : Nat) (V : Nat → Value) (L : List En) : Prop := ∃ cs : List Value, w.heap[g]? = some (.cells cs.toArray 92) ∧ 6 * L.length ≤ cs.length ∧ ∀ i, i < L.length → ∀ j, j < 6 → cs[i * 6 + j]? = (reC (V i) (at0 L i))[j]?
theorem RRow.keep {w w' : World} {g : Nat} {V : Nat → Value} {L : List En} (h : RRow w g V L) (k : w'.heap[g]? = w.heap[g]?) : RRow w' g V L := by
  obtain ⟨cs, h1, h2⟩ := h
  exact ⟨cs, k.trans h1, h2⟩
theorem RRow.lt {w : World} {g : Nat} {V : Nat → Value} {L : List En} (h : RRow w g V L) : g < w.heap.size := by
  obtain ⟨cs, h, _⟩ := h
  exact lt_of_some h
theorem RRow.cell {w : World} {g : Nat} {V : Nat → Value} {L : List En} (h : RRow w g V L) {i : Nat} (hi : i < L.length) {j : Nat} (hj : j < 6) : w.cell? ⟨g, i * 6 + j, none⟩ = (reC (V i) (at0 L i))[j]? := by
  obtain ⟨cs, h1, h2, h3⟩ := h
  rw [← h3 i hi j hj]
  simp [World.cell?, h1]
theorem RRow.frozen {w : World} {g : Nat} {V : Nat → Value} {L : List En} (h : RRow w g V L) (o : Nat) : w.frozen? ⟨g, o, none⟩ = false := by
  obtain ⟨cs, h1, h2, h3⟩ := h
  simp [World.frozen?, h1]
theorem RRow.at_ {w : World} {g : Nat} {V : Nat → Value} {L : List En} (h : RRow w g V L) {i : Nat} (hi : i < L.length) : ReAt w g (i * 6) (V i) (at0 L i) :=
  ⟨by have := h.cell hi (j := 0) (by omega); simpa [reC] using this, by have := h.cell hi (j := 1) (by omega); simpa [reC] using this, by have := h.cell hi (j := 2) (by omega); simpa [reC] using this, by have := h.cell hi (j := 3) (by omega); simpa [reC] using this, by have := h.cell hi (j := 4) (by omega); simpa [reC] using this, by have := h.cell hi (j := 5) (by omega); simpa [reC] using this⟩
theorem RRow.set {w : World} {g : Nat} {V : Nat → Value} {L : List En} (h : RRow w g V L) {i : Nat} (hi : i < L.length) {j : Nat} (hj : j < 6) (u v : Value) (x : En) (hx : (reC (V i) (at0 L i)).set j u = reC v x) : RRow (w.setCell ⟨g, i * 6 + j, none⟩ u) g (upd V i v) (L.set i x) := by
  obtain ⟨cs, h1, h2, h3⟩ := h
  refine ⟨cs.set (i * 6 + j) u, by rw [heap_setCell_same h1]; simp, by rw [List.length_set, List.length_set]; exact h2, fun k hk m hm => ?_⟩
  rw [List.length_set] at hk
  rw [at0_set x hi, List.getElem?_set]
  unfold upd
  by_cases e : k = i
  · subst e
    rw [if_pos rfl, if_pos rfl, ← hx, List.getElem?_set]
    by_cases e2 : j = m
    · subst e2
      rw [if_pos rfl, if_pos rfl, if_pos (by omega), if_pos (by show j < 6; exact hj)]
    · rw [if_neg (by omega), if_neg e2]
      exact h3 k hi m hm
  · rw [if_neg e, if_neg e, if_neg (by omega)]
    exact h3 k hk m hm
/-- The datagrams of the reference's box: each in a block of its own, E j. -/
structure IsBox (w : World) (S : Nat → Prop) (v : Value) (l : List ByteArray) (E : Nat → Nat) : Prop where
  at_ : ∃ a bb bo c, v = .slice a l.length c ∧ l.length ≤ c ∧ c ≤ maxLen ∧ (0 < c → a = some ⟨bb, bo, none⟩ ∧ S bb ∧ (∃ cur, w.heap[bb]? = some (.cells cur 45 (0, 0)) ∧ bo + c ≤ cur.size) ∧ ∀ j, j < l.length → ∃ cp, w.cell? ⟨bb, bo + j, none⟩ = some (.slice (some ⟨E j, 0, none⟩) (l.getD j emp).size cp) ∧ Src w (some ⟨E j, 0, none⟩) (l.getD j emp).size cp (bi (l.getD j emp)))
  own : ∀ j, j < l.length → S (E j) ∧ ∃ cur f, w.heap[E j]? = some (.cells cur 5 f)
theorem IsBox.keep {w w' : World} {S : Nat → Prop} {v : Value} {l : List ByteArray} {E : Nat → Nat} (h : IsBox w S v l E) (k : ∀ i, S i → (∃ cur f, w.heap[i]? = some (.cells cur 45 f)) ∨ (∃ j, j < l.length ∧ E j = i) → w'.heap[i]? = w.heap[i]?) : IsBox w' S v l E := by
  obtain ⟨⟨a, bb, bo, c, e1, e2, e3, hc⟩, ho⟩ := h
  refine ⟨⟨a, bb, bo, c, e1, e2, e3, fun h0 => ?_⟩, fun j hj => ⟨(ho j hj).1, ?_⟩⟩
  · obtain ⟨q1, q2, ⟨cur, q3, q4⟩, q5⟩ := hc h0
    have kb := k bb q2 (Or.inl ⟨cur, _, q3⟩)
    refine ⟨q1, q2, ⟨cur, kb.trans q3, q4⟩, fun j hj => ?_⟩
    obtain ⟨cp, r1, r2⟩ := q5 j hj
    refine ⟨cp, (World.cell?_of_block kb).trans r1, r2.keep (fun b o e h1 => ?_)⟩
    simp at e
    rw [← e.1]
    exact k _ (ho j hj).1 (Or.inr ⟨j, hj, rfl⟩)
  · obtain ⟨cur, f, hcur⟩ := (ho j hj).2
    exact ⟨cur, f, (k _ (ho j hj).1 (Or.inr ⟨j, hj, rfl⟩)).trans hcur⟩
/-- The reference's port in memory. -/
structure IsRP (w : World) (S : Nat → Prop) (y eb ec : Nat) (ea : Option Addr) (bv ov : Value) (Y : Nat → Nat) (V : Nat → Value) (E : Nat → Nat) (P : Pt) : Prop where
  head : w.heap[y]? = some (.cells #[.int .i64 P.c, .int .i64 P.sz, .slice ea P.L.length ec, bv, ov] 54)
  cap : P.L.length ≤ ec ∧ ec ≤ maxLen
  row : 0 < P.L.length → ea = some ⟨eb, 0, none⟩ ∧ RRow w eb (rp Y) P.L ∧ S eb
  ring : ∀ i, i < P.L.length → RR w (Y i) P.sz (at0 P.L i).q (V i)
  inj : ∀ i j, i < P.L.length → j < P.L.length → i ≠ j → Y i ≠ Y j ∧ ∀ g, (V i).ownBlock = some g → (V j).ownBlock ≠ some g
  box : IsBox w S bv P.gr E
  bx : ∀ i j, i < P.L.length → j < P.gr.length → (V i).ownBlock ≠ some (E j)
  ou : OwnO w ov P.ou
  ok : P.Ok
  lt : ∀ k, S k → k < w.heap.size
  sy : S y
  sr : ∀ i, i < P.L.length → S (Y i) ∧ ∀ g, (V i).ownBlock = some g → S g
  so : ∀ g, ov.ownBlock = some g → S g
def RPort (w : World) (S : Nat → Prop) (y : Nat) (P : Pt) : Prop := ∃ eb ec ea bv ov Y V E, IsRP w S y eb ec ea bv ov Y V E P
theorem IsRP.keep {w w' : World} {S : Nat → Prop} {y eb ec : Nat} {ea : Option Addr} {bv ov : Value} {Y : Nat → Nat} {V : Nat → Value} {E : Nat → Nat} {P : Pt} (h : IsRP w S y eb ec ea bv ov Y V E P) (k : ∀ i, S i → w'.heap[i]? = w.heap[i]?) (hs : w.heap.size ≤ w'.heap.size) : IsRP w' S y eb ec ea bv ov Y V E P :=
  ⟨(k y h.sy).trans h.head, h.cap, fun h0 => ⟨(h.row h0).1, (h.row h0).2.1.keep (k eb (h.row h0).2.2), (h.row h0).2.2⟩, fun i hi => (h.ring i hi).keep (k _ (h.sr i hi).1) (fun g hg => k g ((h.sr i hi).2 g hg)), h.inj, h.box.keep (fun i hi _ => k i hi), h.bx, own_keep h.ou (fun g hg => k g (h.so g hg)), h.ok, fun i hi => Nat.lt_of_lt_of_le (h.lt i hi) hs, h.sy, h.sr, h.so⟩
theorem IsRP.below {w w' : World} {S : Nat → Prop} {y eb ec : Nat} {ea : Option Addr} {bv ov : Value} {Y : Nat → Nat} {V : Nat → Value} {E : Nat → Nat} {P : Pt} (h : IsRP w S y eb ec ea bv ov Y V E P) (k : Below w.heap.size w w') : IsRP w' S y eb ec ea bv ov Y V E P := h.keep (fun i hi => k.block i (h.lt i hi)) k.size
theorem IsBox.wide {w : World} {S T : Nat → Prop} {v : Value} {l : List ByteArray} {E : Nat → Nat} (h : IsBox w S v l E) (hT : ∀ k, S k → T k) : IsBox w T v l E := by
  obtain ⟨⟨a, bb, bo, c, e1, e2, e3, hc⟩, ho⟩ := h
  exact ⟨⟨a, bb, bo, c, e1, e2, e3, fun h0 => ⟨(hc h0).1, hT _ (hc h0).2.1, (hc h0).2.2⟩⟩, fun j hj => ⟨hT _ (ho j hj).1, (ho j hj).2⟩⟩
theorem IsRP.wide {w : World} {S T : Nat → Prop} {y eb ec : Nat} {ea : Option Addr} {bv ov : Value} {Y : Nat → Nat} {V : Nat → Value} {E : Nat → Nat} {P : Pt} (h : IsRP w S y eb ec ea bv ov Y V E P) (hT : ∀ k, S k → T k) (hl : ∀ k, T k → k < w.heap.size) : IsRP w T y eb ec ea bv ov Y V E P :=
  ⟨h.head, h.cap, fun h0 => ⟨(h.row h0).1, (h.row h0).2.1, hT _ (h.row h0).2.2⟩, h.ring, h.inj, h.box.wide hT, h.bx, h.ou, h.ok, hl, hT _ h.sy, fun i hi => ⟨hT _ (h.sr i hi).1, fun g hg => hT _ ((h.sr i hi).2 g hg)⟩, fun g hg => hT _ (h.so g hg)⟩
theorem IsRP.cells {w : World} {S : Nat → Prop} {y eb ec : Nat} {ea : Option Addr} {bv ov : Value} {Y : Nat → Nat} {V : Nat → Value} {E : Nat → Nat} {P : Pt} (h : IsRP w S y eb ec ea bv ov Y V E P) : w.cell? ⟨y, 0, none⟩ = some (.int .i64 P.c) ∧ w.cell? ⟨y, 1, none⟩ = some (.int .i64 P.sz) ∧ w.cell? ⟨y, 2, none⟩ = some (.slice ea P.L.length ec) ∧ w.cell? ⟨y, 3, none⟩ = some bv ∧ w.cell? ⟨y, 4, none⟩ = some ov := by
  have := h.head
  simp [World.cell?, this]
theorem IsRP.frozen {w : World} {S : Nat → Prop} {y eb ec : Nat} {ea : Option Addr} {bv ov : Value} {Y : Nat → Nat} {V : Nat → Value} {E : Nat → Nat} {P : Pt} (h : IsRP w S y eb ec ea bv ov Y V E P) (o : Nat) : w.frozen? ⟨y, o, none⟩ = false := by
  have := h.head
  simp [World.frozen?, this]

end Go.Proofs.Ytjojhnkibgkleaa
