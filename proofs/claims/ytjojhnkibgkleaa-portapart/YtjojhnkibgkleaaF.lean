/-
  What lets outputs out; conditions as each theorem has them.
-/
import Derived.Test.YtjojhnkibgkleaaE
set_option linter.unusedSimpArgs false
set_option linter.unusedVariables false
set_option maxRecDepth 8000
namespace Go.Proofs.Ytjojhnkibgkleaa
open Go.RowKit Go.Lib

theorem mid_new (w : World) (o : Ot) : (w.alloc (.cells (otC o).toArray 68)).rangeAt w.heap.size 0 (otC o) := by
  intro j v hv
  rw [Nat.zero_add, show (w.alloc (.cells (otC o).toArray 68)).cell? ⟨w.heap.size, j, none⟩ = _ from World.cell?_alloc_new w _ _ j]
  simpa using hv
theorem setHead {w : World} {b : Nat} {C : Array Value} {t : TypeId} (h : w.heap[b]? = some (.cells C t)) (o : Nat) (v : Value) {D : Array Value} (hD : C.setIfInBounds o v = D) : (w.setCell ⟨b, o, none⟩ v).heap[b]? = some (.cells D t) := by
  rw [heap_setCell_same h, hD]
theorem own_shape {w : World} {e : TypeId} {s n : Nat} {v : Value} {xs : List Value} (h : w.ownsRow 0 e s v n xs) : ∃ a c, v = .slice a n c := by
  rcases h.2 with ⟨rfl, rfl⟩ | ⟨x, cap, cur, rfl, _⟩
  · exact ⟨_, _, rfl⟩
  · exact ⟨_, _, rfl⟩
/-- The outputs have turned, and the port's own cell of them. -/
theorem IsPort.ouTurn {w w3 : World} {S : Nat → Prop} {b eb : Nat} {gv ov : Value} {R G : Nat → Nat} {P : Pt} (h : IsPort w S b eb gv ov R G P) (ov' : Value) (l : List Ot) (ho : OwnO w3 ov' l)
    (hg : ∀ k, k < w.heap.size → ov.ownBlock ≠ some k → w3.heap[k]? = w.heap[k]?) (hs : w.heap.size ≤ w3.heap.size) (e1 : w3.os = w.os) (e2 : w3.tape = w.tape) (e3 : w3.output = w.output) (hn : ∀ g, ov'.ownBlock = some g → S g ∨ w.heap.size ≤ g) :
    IsPort (w3.setCell ⟨b, 4, none⟩ ov') (grow S w (w3.setCell ⟨b, 4, none⟩ ov')) b eb gv ov' R G { P with ou := l } ∧ KeptS S w (w3.setCell ⟨b, 4, none⟩ ov') := by
  have k3 : KeptS S w w3 := ⟨e1, e2, e3, hs, fun k hk hn => hg k hk (fun e => hn (h.so k e))⟩
  have k4 : KeptS S w (w3.setCell ⟨b, 4, none⟩ ov') := k3.setCell h.sb ov'
  have tn : ∀ x cs t f, w.heap[x]? = some (Obj.cells cs t f) → t ≠ 68 → t ≠ 80 → (w3.setCell ⟨b, 4, none⟩ ov').heap[x]? = w.heap[x]? := fun x cs t f hx ht hp => by
    rw [Below.heap_setCell _ _ _ _ (ty_ne hx h.head hp)]
    refine hg x (lt_of_some hx) (fun e => ?_)
    obtain ⟨cur, hc⟩ := own_block h.ou e
    rw [hx] at hc
    simp at hc
    exact ht hc.2.1
  have hb : w3.heap[b]? = w.heap[b]? := hg b (lt_of_some h.head) (fun e => by
    obtain ⟨cur, hc⟩ := own_block h.ou e
    rw [h.head] at hc
    simp at hc)
  obtain ⟨cr, er, _⟩ := h.row
  refine ⟨⟨setHead (hb.trans h.head) 4 ov' rfl, h.row.keep (tn eb _ _ _ er (by decide) (by decide)), fun i hi => ?_, h.inj, own_keep h.gr (fun g hgv => ?_), own_keep ho (fun g hgv => ?_), h.ok.ou l, fun k hk => ?_, Or.inl h.sb, Or.inl h.se, fun i hi => ⟨Or.inl (h.sr i hi).1, Or.inl (h.sr i hi).2⟩, fun g hgv => Or.inl (h.sg g hgv), fun g hgv => ?_⟩, k4⟩
  · obtain ⟨ic, oc, hr⟩ := h.ring i hi
    obtain ⟨⟨d1, f1⟩, ⟨d2, f2⟩⟩ := hr.at_
    exact ⟨ic, oc, hr.keep (tn _ _ _ _ f1 (by decide) (by decide)) (tn _ _ _ _ f2 (by decide) (by decide))⟩
  · obtain ⟨cur, hc⟩ := own_block h.gr hgv
    exact tn _ _ _ _ hc (by decide) (by decide)
  · obtain ⟨cur, hc⟩ := own_block ho hgv
    exact Below.heap_setCell _ _ _ _ (ty_ne hc (hb.trans h.head) (by decide))
  · have hz : (w3.setCell ⟨b, 4, none⟩ ov').heap.size = w3.heap.size := by simp [World.setCell]
    rcases hk with hk | hk
    · rw [hz]; exact Nat.lt_of_lt_of_le (h.lt k hk) hs
    · exact hk.2
  · rcases hn g hgv with h1 | h1
    · exact Or.inl h1
    · obtain ⟨cur, hc⟩ := own_block ho hgv
      have hz : (w3.setCell ⟨b, 4, none⟩ ov').heap.size = w3.heap.size := by simp [World.setCell]
      exact Or.inr ⟨h1, by rw [hz]; exact lt_of_some hc⟩
/-- The datagrams have turned, and the port's own cell of them. -/
theorem IsPort.grTurn {w w3 : World} {S : Nat → Prop} {b eb : Nat} {gv ov : Value} {R G : Nat → Nat} {P : Pt} (h : IsPort w S b eb gv ov R G P) (ov' : Value) (l : List ByteArray) (hl : l.length ≤ 8) (ho : OwnG w3 ov' l)
    (hg : ∀ k, k < w.heap.size → gv.ownBlock ≠ some k → w3.heap[k]? = w.heap[k]?) (hs : w.heap.size ≤ w3.heap.size) (e1 : w3.os = w.os) (e2 : w3.tape = w.tape) (e3 : w3.output = w.output) (hn : ∀ g, ov'.ownBlock = some g → S g ∨ w.heap.size ≤ g) :
    IsPort (w3.setCell ⟨b, 3, none⟩ ov') (grow S w (w3.setCell ⟨b, 3, none⟩ ov')) b eb ov' ov R G { P with gr := l } ∧ KeptS S w (w3.setCell ⟨b, 3, none⟩ ov') := by
  have k3 : KeptS S w w3 := ⟨e1, e2, e3, hs, fun k hk hn => hg k hk (fun e => hn (h.sg k e))⟩
  have k4 : KeptS S w (w3.setCell ⟨b, 3, none⟩ ov') := k3.setCell h.sb ov'
  have tn : ∀ x cs t f, w.heap[x]? = some (Obj.cells cs t f) → t ≠ 9 → t ≠ 80 → (w3.setCell ⟨b, 3, none⟩ ov').heap[x]? = w.heap[x]? := fun x cs t f hx ht hp => by
    rw [Below.heap_setCell _ _ _ _ (ty_ne hx h.head hp)]
    refine hg x (lt_of_some hx) (fun e => ?_)
    obtain ⟨cur, hc⟩ := own_block h.gr e
    rw [hx] at hc
    simp at hc
    exact ht hc.2.1
  have hb : w3.heap[b]? = w.heap[b]? := hg b (lt_of_some h.head) (fun e => by
    obtain ⟨cur, hc⟩ := own_block h.gr e
    rw [h.head] at hc
    simp at hc)
  obtain ⟨cr, er, _⟩ := h.row
  refine ⟨⟨setHead (hb.trans h.head) 3 ov' rfl, h.row.keep (tn eb _ _ _ er (by decide) (by decide)), fun i hi => ?_, h.inj, own_keep ho (fun g hgv => ?_), own_keep h.ou (fun g hgv => ?_), h.ok.gr l hl, fun k hk => ?_, Or.inl h.sb, Or.inl h.se, fun i hi => ⟨Or.inl (h.sr i hi).1, Or.inl (h.sr i hi).2⟩, fun g hgv => ?_, fun g hgv => Or.inl (h.so g hgv)⟩, k4⟩
  · obtain ⟨ic, oc, hr⟩ := h.ring i hi
    obtain ⟨⟨d1, f1⟩, ⟨d2, f2⟩⟩ := hr.at_
    exact ⟨ic, oc, hr.keep (tn _ _ _ _ f1 (by decide) (by decide)) (tn _ _ _ _ f2 (by decide) (by decide))⟩
  · obtain ⟨cur, hc⟩ := own_block ho hgv
    exact Below.heap_setCell _ _ _ _ (ty_ne hc (hb.trans h.head) (by decide))
  · obtain ⟨cur, hc⟩ := own_block h.ou hgv
    exact tn _ _ _ _ hc (by decide) (by decide)
  · have hz : (w3.setCell ⟨b, 3, none⟩ ov').heap.size = w3.heap.size := by simp [World.setCell]
    rcases hk with hk | hk
    · rw [hz]; exact Nat.lt_of_lt_of_le (h.lt k hk) hs
    · exact hk.2
  · rcases hn g hgv with h1 | h1
    · exact Or.inl h1
    · obtain ⟨cur, hc⟩ := own_block ho hgv
      have hz : (w3.setCell ⟨b, 3, none⟩ ov').heap.size = w3.heap.size := by simp [World.setCell]
      exact Or.inr ⟨h1, by rw [hz]; exact lt_of_some hc⟩
attribute [local go_sem ↓] run_apO run_ldO Go.wp_at_zero Go.wp_at_succ
set_option maxRecDepth 100000 in
set_option maxHeartbeats 1000000 in
theorem goOut_at {w : World} {S : Nat → Prop} {b eb : Nat} {gv ov : Value} {R G : Nat → Nat} {P : Pt} (h : IsPort w S b eb gv ov R G P) (o : Ot) (hlen : P.ou.length ≤ 1900000000000) :
    Calls Try.prog 52 #[.pointer (some ⟨b, 0, none⟩), .agg (otC o).toArray] w fun e w' => e = .returned (.tuple #[]) ∧ (∃ ov', IsPort w' (grow S w w') b eb gv ov' R G { P with ou := P.ou ++ [o] }) ∧ KeptS S w w' := by
  obtain ⟨h0, h1, h2, h3, h4⟩ := h.cells
  have f4 := h.frozen 4
  have hbl := lt_of_some h.head
  have hm := mid_new w o
  obtain ⟨p1, p2, p3⟩ := ld_out hm
  have b2 : Below w.heap.size w ((w.alloc (.cells (otC o).toArray 68)).alloc (.cells (otC o).toArray 68)).drew := (((Below.refl _ _).alloc (Nat.le_refl _) _).alloc (by simp) _).drew
  have hown : OwnO ((w.alloc (.cells (otC o).toArray 68)).alloc (.cells (otC o).toArray 68)).drew ov P.ou := own_keep h.ou (fun g hg => b2.block g (h.lt g (h.so g hg)))
  obtain ⟨ov', w3, hr, ho3, hg3, hn3⟩ := run_appO hown ⟨w.heap.size + 1, 0, none⟩ 1 o (fun j u hu => by
    have := mid_new (w.alloc (.cells (otC o).toArray 68)) o j u hu
    rw [add_none]
    simpa using this) hlen
  obtain ⟨av, cv, rfl⟩ := own_shape ho3
  obtain ⟨q1, q2, q3⟩ := ap_of hr
  obtain ⟨hT, hK⟩ := h.ouTurn (w3 := w3) (.slice av (P.ou ++ [o]).length cv) (P.ou ++ [o]) ho3 (fun k hk e => (hg3.block k (Nat.lt_of_lt_of_le hk b2.size) (Ne.symm e)).trans (b2.block k hk)) (Nat.le_trans b2.size hg3.size) (hg3.os.trans b2.os) (hg3.tape.trans b2.tape) (hg3.output.trans b2.output) (fun g e => by
    rcases hn3 g e with h1 | h1
    · exact Or.inl (h.so g h1)
    · have := b2.size; right; omega)
  have hb3 : w3.heap[b]? = w.heap[b]? := (hg3.block b (Nat.lt_of_lt_of_le hbl b2.size) (fun e => by
    obtain ⟨cur, hc⟩ := own_block h.ou e.symm
    rw [h.head] at hc
    simp at hc)).trans (b2.block b hbl)
  have c3 : w3.cell? ⟨b, 4, none⟩ = some ov := by rw [World.cell?_of_block hb3, h4]
  have g3 : w3.frozen? ⟨b, 4, none⟩ = false := by rw [World.frozen?_of_block hb3]; exact f4
  rw [List.length_append] at hT hK
  have HT := hide hT
  have HK := hide hK
  clear hT hK h hm hown hr ho3 hg3 hn3 b2 hb3
  unfold otC at p1 p2 p3 q1 q2 q3 ⊢
  go_enter Try.func52, Try.ntmps52
  go_wp2_with fail
  go_region
  go_end0
  exact ⟨rfl, ⟨_, HT.out⟩, HK.out⟩

end Go.Proofs.Ytjojhnkibgkleaa
