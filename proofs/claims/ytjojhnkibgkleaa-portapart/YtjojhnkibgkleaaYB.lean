/-
  What turns of the reference's port, part by part; conditions as each theorem has them.
-/
import Derived.Test.YtjojhnkibgkleaaYA
set_option linter.unusedSimpArgs false
set_option linter.unusedVariables false
set_option maxRecDepth 8000
namespace Go.Proofs.Ytjojhnkibgkleaa
open Go.RowKit Go.Lib

theorem upd_upd (V : Nat → Value) (i : Nat) (u v : Value) : upd (upd V i u) i v = upd V i v := by
  funext j
  unfold upd
  split <;> rfl
theorem upd_at (V : Nat → Value) (i : Nat) (u : Value) : upd V i u i = u := by simp [upd]
theorem RRow.setAt {w : World} {g : Nat} {V : Nat → Value} {L : List En} {i : Nat} {v : Value} {x : En} (h : RRow w g (upd V i v) (L.set i x)) (hi : i < L.length) {j : Nat} (hj : j < 6) (u v' : Value) (x' : En) (hx : (reC v x).set j u = reC v' x') : RRow (w.setCell ⟨g, i * 6 + j, none⟩ u) g (upd V i v') (L.set i x') := by
  have := h.set (i := i) (by simpa using hi) hj u v' x' (by rw [upd_at, at0_same hi]; exact hx)
  rwa [upd_upd, List.set_set] at this
/-- A whole endpoint is stored. -/
theorem RRow.all {w : World} {g : Nat} {V : Nat → Value} {L : List En} (h : RRow w g V L) {i : Nat} (hi : i < L.length) (p : Value) (x : En) :
    RRow ((((((w.setCell ⟨g, i * 6, none⟩ (.int .i64 x.st)).setCell ⟨g, i * 6 + 1, none⟩ (.int .i64 x.room)).setCell ⟨g, i * 6 + 2, none⟩ (.bool x.nw)).setCell ⟨g, i * 6 + 3, none⟩ (.bool x.oth)).setCell ⟨g, i * 6 + 4, none⟩ (.bool x.ths)).setCell ⟨g, i * 6 + 5, none⟩ p) g (upd V i p) (L.set i x) := by
  have t0 := h.set hi (j := 0) (by omega) (.int .i64 x.st) (V i) { at0 L i with st := x.st } rfl
  rw [Nat.add_zero] at t0
  have t1 := t0.setAt hi (j := 1) (by omega) (.int .i64 x.room) (V i) { at0 L i with st := x.st, room := x.room } rfl
  have t2 := t1.setAt hi (j := 2) (by omega) (.bool x.nw) (V i) { at0 L i with st := x.st, room := x.room, nw := x.nw } rfl
  have t3 := t2.setAt hi (j := 3) (by omega) (.bool x.oth) (V i) { at0 L i with st := x.st, room := x.room, nw := x.nw, oth := x.oth } rfl
  have t4 := t3.setAt hi (j := 4) (by omega) (.bool x.ths) (V i) { at0 L i with st := x.st, room := x.room, nw := x.nw, oth := x.oth, ths := x.ths } rfl
  exact t4.setAt hi (j := 5) (by omega) p p x rfl
/-- What stays where only the row of the endpoints turns. -/
theorem IsRP.rowTurn {w w' : World} {S : Nat → Prop} {y eb ec : Nat} {ea : Option Addr} {bv ov : Value} {Y : Nat → Nat} {V : Nat → Value} {E : Nat → Nat} {P : Pt} (h : IsRP w S y eb ec ea bv ov Y V E P) {i : Nat} (hi : i < P.L.length) (k : KeptS (fun j => j = eb) w w') {x : En} (hr : RRow w' eb (rp Y) (P.L.set i x)) (hq : x.q = (at0 P.L i).q) (hx : En.Ok P.sz x) :
    IsRP w' S y eb ec ea bv ov Y V E { P with L := P.L.set i x } := by
  obtain ⟨hea, hrow, hse⟩ := h.row (by omega)
  obtain ⟨cr, er, _⟩ := hrow
  have tn : ∀ j cs t f, w.heap[j]? = some (Obj.cells cs t f) → t ≠ 92 → w'.heap[j]? = w.heap[j]? := fun j cs t f hj ht => k.block j (lt_of_some hj) (fun e => ty_ne hj er ht (by rw [e]))
  refine ⟨?_, by simpa using h.cap, fun h0 => ⟨hea, hr, hse⟩, fun j hj => ?_, fun a b ha hb => h.inj a b (by simpa using ha) (by simpa using hb), ?_, fun a b ha hb => h.bx a b (by simpa using ha) hb, own_keep h.ou (fun g hg => ?_), h.ok.set hi hx P.ou, fun j hj => Nat.lt_of_lt_of_le (h.lt j hj) k.size, h.sy, fun j hj => h.sr j (by simpa using hj), h.so⟩
  · simp only [List.length_set]
    exact (tn y _ _ _ h.head (by decide)).trans h.head
  · have hj' : j < P.L.length := by simpa using hj
    have r := h.ring j hj'
    obtain ⟨c1, e1⟩ := r.head
    have r2 : RR w' (Y j) P.sz (at0 P.L j).q (V j) := r.keep (tn _ _ _ _ e1 (by decide)) (fun g hg => by
      obtain ⟨c2, e2⟩ := r.blk hg
      exact tn _ _ _ _ e2 (by decide))
    simp only [at0_set _ hi]
    by_cases e : j = i
    · subst e; rw [if_pos rfl, hq]; exact r2
    · rw [if_neg e]; exact r2
  · refine h.box.keep (fun j hj hc => ?_)
    rcases hc with ⟨cur, f, hc⟩ | ⟨m, hm, rfl⟩
    · exact tn _ _ _ _ hc (by decide)
    · obtain ⟨cur, f, hc⟩ := (h.box.own m hm).2
      exact tn _ _ _ _ hc (by decide)
  · obtain ⟨cur, hc⟩ := own_block h.ou hg
    exact tn _ _ _ _ hc (by decide)
theorem IsRP.cellTurn {w : World} {S : Nat → Prop} {y eb ec : Nat} {ea : Option Addr} {bv ov : Value} {Y : Nat → Nat} {V : Nat → Value} {E : Nat → Nat} {P : Pt} (h : IsRP w S y eb ec ea bv ov Y V E P) {i : Nat} (hi : i < P.L.length) {j : Nat} (hj : j < 6) (u : Value) (x : En) (hu : (reC (rp Y i) (at0 P.L i)).set j u = reC (rp Y i) x) (hq : x.q = (at0 P.L i).q) (hx : En.Ok P.sz x) :
    IsRP (w.setCell ⟨eb, i * 6 + j, none⟩ u) S y eb ec ea bv ov Y V E { P with L := P.L.set i x } := by
  refine h.rowTurn hi ((KeptS.refl (fun a => a = eb) w).setCell (p := ⟨eb, i * 6 + j, none⟩) rfl u) ?_ hq hx
  have := (h.row (by omega)).2.1.set hi hj u (rp Y i) x hu
  rwa [upd_same] at this
/-- One ring has turned. -/
theorem IsRP.ringTurn {w w' : World} {S : Nat → Prop} {y eb ec : Nat} {ea : Option Addr} {bv ov : Value} {Y : Nat → Nat} {V : Nat → Value} {E : Nat → Nat} {P : Pt} (h : IsRP w S y eb ec ea bv ov Y V E P) {i : Nat} (hi : i < P.L.length) (k : KeptS (ringS (Y i) (V i)) w w') {q : List Int} {v : Value} (hr : RR w' (Y i) P.sz q v) (hv : ∀ g, v.ownBlock = some g → (V i).ownBlock = some g ∨ w.heap.size ≤ g) :
    IsRP w' (grow S w w') y eb ec ea bv ov Y (upd V i v) E { P with L := P.L.set i { at0 P.L i with q := q } } ∧ KeptS S w w' := by
  obtain ⟨hea, hrow, hse⟩ := h.row (by omega)
  have ri := h.ring i hi
  obtain ⟨ci, ei⟩ := ri.head
  have hqs : q.length ≤ P.sz := hr.cellV.2.2.1
  have ho := h.ok.e i
  have tn : ∀ j cs t f, w.heap[j]? = some (Obj.cells cs t f) → t ≠ 108 → t ≠ 5 → w'.heap[j]? = w.heap[j]? := fun j cs t f hj h1 h2 => k.block j (lt_of_some hj) (fun e => by
    rcases e with e | e
    · exact ty_ne hj ei h1 e
    · obtain ⟨c5', e5⟩ := ri.blk e
      exact ty_ne hj e5 h2 rfl)
  have kS : KeptS S w w' := k.mono (fun x hx => by
    rcases hx with hx | hx
    · exact Or.inl (hx ▸ (h.sr i hi).1)
    · exact Or.inl ((h.sr i hi).2 x hx))
  refine ⟨⟨?_, by simpa using h.cap, fun h0 => ⟨hea, ?_, Or.inl hse⟩, fun j hj => ?_, fun a b ha hb hab => ?_, ?_, fun a b ha hb => ?_, own_keep h.ou (fun g hg => ?_), h.ok.set hi (x := { at0 P.L i with q := q }) ⟨hqs, ho.s0, ho.s3, ho.r0, ho.r1⟩ P.ou, fun j hj => ?_, Or.inl h.sy, fun j hj => ⟨Or.inl (h.sr j (by simpa using hj)).1, fun g hg => ?_⟩, fun g hg => Or.inl (h.so g hg)⟩, kS⟩
  · simp only [List.length_set]
    exact (tn y _ _ _ h.head (by decide) (by decide)).trans h.head
  · obtain ⟨cr, er, e2, e3⟩ := hrow
    refine ⟨cr, (tn eb _ _ _ er (by decide) (by decide)).trans er, by simpa using e2, fun a ha m hm => ?_⟩
    have ha' : a < P.L.length := by simpa using ha
    rw [e3 a ha' m hm, at0_set _ hi]
    split
    · rename_i e; subst e; rfl
    · rfl
  · have hj' : j < P.L.length := by simpa using hj
    simp only [at0_set _ hi]
    unfold upd
    by_cases e : j = i
    · subst e; rw [if_pos rfl, if_pos rfl]; exact hr
    · rw [if_neg e, if_neg e]
      have rj := h.ring j hj'
      obtain ⟨cj, ej⟩ := rj.head
      have hij := h.inj j i hj' hi e
      refine rj.keep (k.block _ (lt_of_some ej) (fun e2 => ?_)) (fun g hg => ?_)
      · rcases e2 with e2 | e2
        · exact hij.1 e2
        · obtain ⟨c5', e5⟩ := ri.blk e2
          exact ty_ne ej e5 (by decide) rfl
      · obtain ⟨cg, eg⟩ := rj.blk hg
        refine k.block _ (lt_of_some eg) (fun e2 => ?_)
        rcases e2 with e2 | e2
        · exact ty_ne eg ei (by decide) e2
        · exact hij.2 g hg e2
  · have ha' : a < P.L.length := by simpa using ha
    have hb' : b < P.L.length := by simpa using hb
    refine ⟨(h.inj a b ha' hb' hab).1, fun g hg => ?_⟩
    unfold upd at hg ⊢
    by_cases e : a = i
    · subst e
      rw [if_pos rfl] at hg
      rw [if_neg (fun e2 => hab e2.symm)]
      intro e3
      obtain ⟨cg, eg⟩ := (h.ring b hb').blk e3
      rcases hv g hg with h1 | h1
      · exact (h.inj a b ha' hb' hab).2 g h1 e3
      · have := lt_of_some eg; omega
    · rw [if_neg e] at hg
      by_cases e2 : b = i
      · subst e2
        rw [if_pos rfl]
        intro e3
        obtain ⟨cg, eg⟩ := (h.ring a ha').blk hg
        rcases hv g e3 with h1 | h1
        · exact (h.inj a b ha' hb' hab).2 g hg h1
        · have := lt_of_some eg; omega
      · rw [if_neg e2]
        exact (h.inj a b ha' hb' hab).2 g hg
  · refine (h.box.keep (fun j hj hc => ?_)).wide (fun j hj => Or.inl hj)
    rcases hc with ⟨cur, f, hc⟩ | ⟨m, hm, rfl⟩
    · exact tn _ _ _ _ hc (by decide) (by decide)
    · obtain ⟨cur, f, hc⟩ := (h.box.own m hm).2
      refine k.block _ (lt_of_some hc) (fun e2 => ?_)
      rcases e2 with e2 | e2
      · exact ty_ne hc ei (by decide) e2
      · exact h.bx i m hi hm e2
  · have ha' : a < P.L.length := by simpa using ha
    unfold upd
    by_cases e : a = i
    · rw [if_pos e]
      intro e3
      rcases hv _ e3 with h1 | h1
      · exact h.bx i b hi hb h1
      · obtain ⟨cur, f, hc⟩ := (h.box.own b hb).2
        have := lt_of_some hc
        omega
    · rw [if_neg e]
      exact h.bx a b ha' hb
  · obtain ⟨cur, hc⟩ := own_block h.ou hg
    exact tn _ _ _ _ hc (by decide) (by decide)
  · rcases hj with hj | hj
    · exact Nat.lt_of_lt_of_le (h.lt j hj) k.size
    · exact hj.2
  · have hj' : j < P.L.length := by simpa using hj
    unfold upd at hg
    by_cases e : j = i
    · subst e
      rw [if_pos rfl] at hg
      rcases hv g hg with h1 | h1
      · exact Or.inl ((h.sr j hj').2 g h1)
      · obtain ⟨cg, eg⟩ := hr.blk hg
        exact Or.inr ⟨h1, lt_of_some eg⟩
    · rw [if_neg e] at hg
      exact Or.inl ((h.sr j hj').2 g hg)
/-- An endpoint begins anew, with a new ring. -/
theorem IsRP.freshTurn {w w1 w' : World} {S : Nat → Prop} {y eb ec : Nat} {ea : Option Addr} {bv ov : Value} {Y : Nat → Nat} {V : Nat → Value} {E : Nat → Nat} {P : Pt} (h : IsRP w S y eb ec ea bv ov Y V E P) {i : Nat} (hi : i < P.L.length) (hb : Below w.heap.size w w1) {yn : Nat} (hyn : w.heap.size ≤ yn) (hr : RR w1 yn P.sz [] (.slice none 0 0)) (k : KeptS (fun j => j = eb) w1 w') {x : En} (hrow : RRow w' eb (upd (rp Y) i (.pointer (some ⟨yn, 0, none⟩))) (P.L.set i x)) (hx : En.Ok P.sz x) (hq : x.q = []) :
    IsRP w' (grow S w w') y eb ec ea bv ov (fun j => if j = i then yn else Y j) (upd V i (.slice none 0 0)) E { P with L := P.L.set i x } ∧ KeptS S w w' := by
  obtain ⟨hea, hrow0, hse⟩ := h.row (by omega)
  obtain ⟨cr, er, _⟩ := hrow0
  have er1 := (hb.block eb (lt_of_some er)).trans er
  have kk : KeptS (fun j => j = eb) w w' := (KeptS.of_below hb).trans k (fun _ => Or.inl)
  have tn : ∀ j cs t f, w.heap[j]? = some (Obj.cells cs t f) → t ≠ 92 → w'.heap[j]? = w.heap[j]? := fun j cs t f hj ht => kk.block j (lt_of_some hj) (fun e => ty_ne hj er ht (by rw [e]))
  obtain ⟨cn, en⟩ := hr.head
  have hrn : RR w' yn P.sz [] (.slice none 0 0) := hr.keep (k.block _ (lt_of_some en) (fun e => ty_ne en er1 (by decide) e)) (fun g hg => by cases hg)
  have hynl : yn < w'.heap.size := Nat.lt_of_lt_of_le (lt_of_some en) k.size
  refine ⟨⟨?_, by simpa using h.cap, fun h0 => ⟨hea, ?_, Or.inl hse⟩, fun j hj => ?_, fun a b ha hb' hab => ?_, ?_, fun a b ha hb' => ?_, own_keep h.ou (fun g hg => ?_), h.ok.set hi hx P.ou, fun j hj => ?_, Or.inl h.sy, fun j hj => ?_, fun g hg => Or.inl (h.so g hg)⟩, kk.mono (fun j hj => Or.inl (hj ▸ hse))⟩
  · simp only [List.length_set]
    exact (tn y _ _ _ h.head (by decide)).trans h.head
  · refine cast (congrArg (fun U => RRow w' eb U (P.L.set i x)) ?_) hrow
    funext j
    by_cases e : j = i <;> simp [upd, rp, e]
  · have hj' : j < P.L.length := by simpa using hj
    simp only [at0_set _ hi]
    unfold upd
    by_cases e : j = i
    · rw [if_pos e, if_pos e, if_pos e, hq]; exact hrn
    · rw [if_neg e, if_neg e, if_neg e]
      have rj := h.ring j hj'
      obtain ⟨cj, ej⟩ := rj.head
      exact rj.keep (tn _ _ _ _ ej (by decide)) (fun g hg => by
        obtain ⟨cg, eg⟩ := rj.blk hg
        exact tn _ _ _ _ eg (by decide))
  · have ha' : a < P.L.length := by simpa using ha
    have hb'' : b < P.L.length := by simpa using hb'
    have ya : Y a < w.heap.size := h.lt _ (h.sr a ha').1
    have yb : Y b < w.heap.size := h.lt _ (h.sr b hb'').1
    unfold upd
    by_cases e : a = i
    · have e2 : ¬ b = i := fun e2 => hab (e.trans e2.symm)
      rw [if_pos e, if_neg e2, if_pos e, if_neg e2]
      exact ⟨by omega, fun g hg => by cases hg⟩
    · rw [if_neg e, if_neg e]
      by_cases e2 : b = i
      · rw [if_pos e2, if_pos e2]
        exact ⟨by omega, fun g hg => (by intro e3; cases e3)⟩
      · rw [if_neg e2, if_neg e2]
        exact h.inj a b ha' hb'' hab
  · refine (h.box.keep (fun j hj hc => ?_)).wide (fun j hj => Or.inl hj)
    rcases hc with ⟨cur, f, hc⟩ | ⟨m, hm, rfl⟩
    · exact tn _ _ _ _ hc (by decide)
    · obtain ⟨cur, f, hc⟩ := (h.box.own m hm).2
      exact tn _ _ _ _ hc (by decide)
  · have ha' : a < P.L.length := by simpa using ha
    unfold upd
    by_cases e : a = i
    · rw [if_pos e]; intro e3; cases e3
    · rw [if_neg e]; exact h.bx a b ha' hb'
  · obtain ⟨cur, hc⟩ := own_block h.ou hg
    exact tn _ _ _ _ hc (by decide)
  · rcases hj with hj | hj
    · exact Nat.lt_of_lt_of_le (h.lt j hj) kk.size
    · exact hj.2
  · have hj' : j < P.L.length := by simpa using hj
    unfold upd
    by_cases e : j = i
    · simp only [e, if_true]
      exact ⟨Or.inr ⟨hyn, hynl⟩, fun g hg => (by cases hg)⟩
    · simp only [e, if_false]
      exact ⟨Or.inl (h.sr j hj').1, fun g hg => Or.inl ((h.sr j hj').2 g hg)⟩
/-- The outputs have turned, and the port's own cell of them. -/
theorem IsRP.ouTurn {w w3 : World} {S : Nat → Prop} {y eb ec : Nat} {ea : Option Addr} {bv ov : Value} {Y : Nat → Nat} {V : Nat → Value} {E : Nat → Nat} {P : Pt} (h : IsRP w S y eb ec ea bv ov Y V E P) (ov' : Value) (l : List Ot) (ho : OwnO w3 ov' l)
    (hg : ∀ k, k < w.heap.size → ov.ownBlock ≠ some k → w3.heap[k]? = w.heap[k]?) (hs : w.heap.size ≤ w3.heap.size) (e1 : w3.os = w.os) (e2 : w3.tape = w.tape) (e3 : w3.output = w.output) (hn : ∀ g, ov'.ownBlock = some g → S g ∨ w.heap.size ≤ g) :
    IsRP (w3.setCell ⟨y, 4, none⟩ ov') (grow S w (w3.setCell ⟨y, 4, none⟩ ov')) y eb ec ea bv ov' Y V E { P with ou := l } ∧ KeptS S w (w3.setCell ⟨y, 4, none⟩ ov') := by
  have k3 : KeptS S w w3 := ⟨e1, e2, e3, hs, fun k hk hn => hg k hk (fun e => hn (h.so k e))⟩
  have k4 : KeptS S w (w3.setCell ⟨y, 4, none⟩ ov') := k3.setCell h.sy ov'
  have tn : ∀ x cs t f, w.heap[x]? = some (Obj.cells cs t f) → t ≠ 68 → t ≠ 54 → (w3.setCell ⟨y, 4, none⟩ ov').heap[x]? = w.heap[x]? := fun x cs t f hx ht hp => by
    rw [Below.heap_setCell _ _ _ _ (ty_ne hx h.head hp)]
    refine hg x (lt_of_some hx) (fun e => ?_)
    obtain ⟨cur, hc⟩ := own_block h.ou e
    rw [hx] at hc
    simp at hc
    exact ht hc.2.1
  have hb : w3.heap[y]? = w.heap[y]? := hg y (lt_of_some h.head) (fun e => by
    obtain ⟨cur, hc⟩ := own_block h.ou e
    rw [h.head] at hc
    simp at hc)
  have hz : (w3.setCell ⟨y, 4, none⟩ ov').heap.size = w3.heap.size := by simp [World.setCell]
  refine ⟨⟨setHead (hb.trans h.head) 4 ov' rfl, h.cap, fun h0 => ⟨(h.row h0).1, ?_, Or.inl (h.row h0).2.2⟩, fun i hi => ?_, h.inj, ?_, h.bx, own_keep ho (fun g hgv => ?_), h.ok.ou l, fun k hk => ?_, Or.inl h.sy, fun i hi => ⟨Or.inl (h.sr i hi).1, fun g hgv => Or.inl ((h.sr i hi).2 g hgv)⟩, fun g hgv => ?_⟩, k4⟩
  · obtain ⟨cr, er, _⟩ := (h.row h0).2.1
    exact (h.row h0).2.1.keep (tn eb _ _ _ er (by decide) (by decide))
  · have r := h.ring i hi
    obtain ⟨c1, f1⟩ := r.head
    exact r.keep (tn _ _ _ _ f1 (by decide) (by decide)) (fun g hgv => by
      obtain ⟨c2, f2⟩ := r.blk hgv
      exact tn _ _ _ _ f2 (by decide) (by decide))
  · refine (h.box.keep (fun j hj hc => ?_)).wide (fun j hj => Or.inl hj)
    rcases hc with ⟨cur, f, hc⟩ | ⟨m, hm, rfl⟩
    · exact tn _ _ _ _ hc (by decide) (by decide)
    · obtain ⟨cur, f, hc⟩ := (h.box.own m hm).2
      exact tn _ _ _ _ hc (by decide) (by decide)
  · obtain ⟨cur, hc⟩ := own_block ho hgv
    exact Below.heap_setCell _ _ _ _ (ty_ne hc (hb.trans h.head) (by decide))
  · rcases hk with hk | hk
    · rw [hz]; exact Nat.lt_of_lt_of_le (h.lt k hk) hs
    · exact hk.2
  · rcases hn g hgv with h1 | h1
    · exact Or.inl h1
    · obtain ⟨cur, hc⟩ := own_block ho hgv
      exact Or.inr ⟨h1, by rw [hz]; exact lt_of_some hc⟩

end Go.Proofs.Ytjojhnkibgkleaa
