/-
  Outputs and datagrams as they lie in memory, and a whole port; conditions as each theorem has them.
-/
import Derived.Test.YtjojhnkibgkleaaA
set_option linter.unusedSimpArgs false
set_option linter.unusedVariables false
namespace Go.Proofs.Ytjojhnkibgkleaa
open Go.RowKit Go.Lib

/-- An output's ten cells. -/
def otC (o : Ot) : List Value := [.int .i64 0, .int .i64 o.k, .int .i64 o.e, .string o.d, .int .u8 o.a1, .int .u8 o.a2, .int .u8 o.a3, .int .u8 o.a4, .string o.nm, .int .i64 o.po]
def otCs (l : List Ot) : List Value := l.flatMap otC
theorem otC_len (o : Ot) : (otC o).length = 10 := rfl
theorem otCs_append (l m : List Ot) : otCs (l ++ m) = otCs l ++ otCs m := by simp [otCs]
theorem otCs_cons (o : Ot) (l : List Ot) : otCs (o :: l) = otC o ++ otCs l := by simp [otCs]
theorem otCs_len (l : List Ot) : (otCs l).length = l.length * 10 := by
  induction l with
  | nil => rfl
  | cons x l ih => rw [otCs_cons, List.length_append, ih, otC_len, List.length_cons]; omega
def noOt : Ot := ot 0 0 emp
theorem otCs_get (l : List Ot) (i j : Nat) (h : i < l.length) (hj : j < 10) : (otCs l)[i * 10 + j]? = (otC (l.getD i noOt))[j]? := by
  induction l generalizing i with
  | nil => simp at h
  | cons x r ih =>
    rw [otCs_cons]
    cases i with
    | zero => rw [Nat.zero_mul, Nat.zero_add, List.getElem?_append_left (by rw [otC_len]; exact hj)]; rfl
    | succ i =>
      rw [List.getElem?_append_right (by rw [otC_len]; omega), otC_len, show (i + 1) * 10 + j - 10 = i * 10 + j by omega, ih i (by simp at h; omega)]
      simp
theorem otC_one (o : Ot) : ∀ u ∈ otC o, u.oneCell' = true := by
  intro u hu
  simp [otC] at hu
  rcases hu with rfl | rfl | rfl | rfl | rfl | rfl | rfl | rfl | rfl | rfl <;> rfl
/-- v is a slice of its own of the outputs l. -/
def OwnO (w : World) (v : Value) (l : List Ot) : Prop := w.ownsRow 0 68 10 v l.length (otCs l)
def OwnG (w : World) (v : Value) (l : List ByteArray) : Prop := w.ownsRow 0 9 1 v l.length (l.map Value.string)
theorem own_keep {w w' : World} {e : TypeId} {s n : Nat} {v : Value} {xs : List Value} (h : w.ownsRow 0 e s v n xs) (k : ∀ g, v.ownBlock = some g → w'.heap[g]? = w.heap[g]?) : w'.ownsRow 0 e s v n xs := by
  refine ⟨h.1, ?_⟩
  rcases h.2 with h0 | ⟨x, cap, cur, hv, hx, hh, hrest⟩
  · exact Or.inl h0
  · exact Or.inr ⟨x, cap, cur, hv, hx, (k x (by rw [hv]; rfl)).trans hh, hrest⟩
theorem own_block {w : World} {e : TypeId} {s n : Nat} {v : Value} {xs : List Value} (h : w.ownsRow 0 e s v n xs) {g : Nat} (hg : v.ownBlock = some g) : ∃ cur, w.heap[g]? = some (.cells cur e) := by
  rcases h.2 with ⟨rfl, _⟩ | ⟨x, cap, cur, rfl, hx, hh, hrest⟩
  · cases hg
  · simp [Value.ownBlock] at hg
    subst hg
    exact ⟨cur, hh⟩
/-- 'append' to a slice of its own, and where it lies then. -/
theorem app_gen {w : World} (t e : TypeId) (z : Value) (size bytes : Nat) (ht : Try.prog.underlying t = some (.slice e)) (hi : ∃ i, Try.prog.info? e = some i ∧ i.zero = some z ∧ i.size = size ∧ i.bytes = bytes)
    (hzs : z.cells.size = size) (hsz : 0 < size) {v : Value} {n : Nat} {xs : List Value} (hown : w.ownsRow 0 e size v n xs) (a : Addr) (m c : Nat) (news : List Value) (hl : news.length = m * size)
    (hnews : ∀ j u, news[j]? = some u → w.cell? (a.add j) = some u) (h1 : ∀ u ∈ news, u.oneCell' = true) (h63 : n + m ≤ maxLen) (hbytes : (n + m) * bytes ≤ 140737488355328) (hm : 0 < m) :
    ∃ v' w', (Builtin.append_ #[t, t] t #[v, .slice (some a) m c]).run Try.prog w = .ok v' w' ∧ w'.ownsRow 0 e size v' (n + m) (xs ++ news) ∧ w.grownBy w' v.ownBlock ∧
      (∀ g, v'.ownBlock = some g → v.ownBlock = some g ∨ w.heap.size ≤ g) := by
  obtain ⟨i, hi, hz, hs, hby⟩ := hi
  obtain ⟨v', w', hr, ho, hg, _⟩ := run_append_own (P := Try.prog) w 0 t t e i z size bytes ht hi hz hs hby hzs hsz v n xs hown a m c news hl hnews h1 h63 hbytes (Nat.zero_le _)
  refine ⟨v', w', hr, ho, hg, fun g hgv => ?_⟩
  rcases hown.2 with ⟨rfl, rfl⟩ | ⟨x, cap, cur, rfl, hbg, hh, hnc, hcm, hcs, htake⟩
  · right
    obtain ⟨v2, w2, hr2, ho2, _⟩ := run_append_own (P := Try.prog) w w.heap.size t t e i z size bytes ht hi hz hs hby hzs hsz (.slice none 0 0) 0 xs ⟨hown.1, Or.inl ⟨rfl, rfl⟩⟩ a m c news hl hnews h1 h63 hbytes (Nat.le_refl _)
    rw [hr] at hr2
    injection hr2 with e1 e2
    subst e1
    exact (ho2.lt g hgv).1
  · subst hs
    by_cases hroom : n + m ≤ cap
    · left
      have hfit : n * i.size + news.length ≤ cur.size := by rw [hl, hcs, ← Nat.add_mul]; exact Nat.mul_le_mul_right _ hroom
      have hr2 := run_append_room (P := Try.prog) w t t e i ht hi x n cap cur hh a m c news hl hnews h1 hroom hfit
      have e1 := (Result.ok.inj (hr.symm.trans hr2)).1
      rw [e1] at hgv
      exact hgv
    · right
      have holds : ∀ j u, xs[j]? = some u → w.cell? ((⟨x, 0, none⟩ : Addr).add j) = some u := hown.cells (g := x) rfl
      have hr2 := run_append_grow (P := Try.prog) w t t e i z ht hi hz ⟨x, 0, none⟩ n cap xs hown.1 holds a m c news hl hnews (by omega) (by simp only [maxLen] at h63; omega) (growslice_fits (by omega) (by rw [hby]; exact hbytes))
      rw [hr] at hr2
      injection hr2 with e1 e2
      subst e1
      have hgv : some w.heap.size = some g := hgv
      injection hgv with e
      exact Nat.le_of_eq e
theorem undO : Try.prog.underlying 52 = some (.slice 68) := by kernel_rfl
theorem und9 : Try.prog.underlying 61 = some (.slice 9) := by kernel_rfl
theorem infO : ∃ i, Try.prog.info? 68 = some i ∧ i.zero = some (.agg (otC noOt).toArray) ∧ i.size = 10 ∧ i.bytes = 72 := info_parts (by kernel_rfl)
theorem inf9 : ∃ i, Try.prog.info? 9 = some i ∧ i.zero = some (.string ⟨#[]⟩) ∧ i.size = 1 ∧ i.bytes = 16 := info_parts (by kernel_rfl)
/-- 'append(l, o)' of an output that lies at a place. -/
theorem run_appO {w : World} {v : Value} {l : List Ot} (hown : OwnO w v l) (a : Addr) (c : Nat) (o : Ot) (hnews : ∀ j u, (otC o)[j]? = some u → w.cell? (a.add j) = some u) (hlen : l.length ≤ 1900000000000) :
    ∃ v' w', (Builtin.append_ #[52, 52] 52 #[v, .slice (some a) 1 c]).run Try.prog w = .ok v' w' ∧ OwnO w' v' (l ++ [o]) ∧ w.grownBy w' v.ownBlock ∧ (∀ g, v'.ownBlock = some g → v.ownBlock = some g ∨ w.heap.size ≤ g) := by
  obtain ⟨v', w', h1, h2, h3⟩ := app_gen 52 68 _ 10 72 undO infO rfl (by omega) hown a 1 c (otC o) rfl hnews (otC_one o) (by unfold maxLen; omega) (by omega) (by omega)
  refine ⟨v', w', h1, ?_, h3⟩
  unfold OwnO
  rw [otCs_append, List.length_append]
  simpa [otCs] using h2
theorem run_appG {w : World} {v : Value} {l : List ByteArray} (hown : OwnG w v l) (a : Addr) (c : Nat) (d : ByteArray) (hnews : w.cell? a = some (.string d)) (hlen : l.length ≤ 1900000000000) :
    ∃ v' w', (Builtin.append_ #[61, 61] 61 #[v, .slice (some a) 1 c]).run Try.prog w = .ok v' w' ∧ OwnG w' v' (l ++ [d]) ∧ w.grownBy w' v.ownBlock ∧ (∀ g, v'.ownBlock = some g → v.ownBlock = some g ∨ w.heap.size ≤ g) := by
  obtain ⟨v', w', h1, h2, h3⟩ := app_gen 61 9 _ 1 16 und9 inf9 rfl (by omega) hown a 1 c [.string d] rfl (fun j u hu => by
    cases j with
    | zero => simp at hu; subst hu; rw [show a.add 0 = a by unfold Addr.add; split <;> simp_all]; exact hnews
    | succ j => simp at hu) (by intro u hu; simp at hu; subst hu; rfl) (by unfold maxLen; omega) (by omega) (by omega)
  refine ⟨v', w', h1, ?_, h3⟩
  unfold OwnG
  rw [List.length_append, List.map_append]
  exact h2

/-- A port in memory: S is what belongs to it. -/
structure IsPort (w : World) (S : Nat → Prop) (b eb : Nat) (gv ov : Value) (R G : Nat → Nat) (P : Pt) : Prop where
  head : w.heap[b]? = some (.cells #[.bool true, .int .i64 P.c, .slice (some ⟨eb, 0, none⟩) P.L.length P.L.length, gv, ov] 80)
  row : Row w eb (rp R) P.L
  ring : ∀ i, i < P.L.length → ∃ ic oc, IsRing w (R i) (G i) P.sz ic oc (at0 P.L i).q
  inj : ∀ i j, i < P.L.length → j < P.L.length → i ≠ j → R i ≠ R j ∧ G i ≠ G j
  gr : OwnG w gv P.gr
  ou : OwnO w ov P.ou
  ok : P.Ok
  lt : ∀ k, S k → k < w.heap.size
  sb : S b
  se : S eb
  sr : ∀ i, i < P.L.length → S (R i) ∧ S (G i)
  sg : ∀ g, gv.ownBlock = some g → S g
  so : ∀ g, ov.ownBlock = some g → S g
def Port (w : World) (S : Nat → Prop) (b : Nat) (P : Pt) : Prop := ∃ eb gv ov R G, IsPort w S b eb gv ov R G P
theorem ty_ne {w : World} {x y : Nat} {c d : Array Value} {t u : TypeId} {f g : Nat × Nat} (hx : w.heap[x]? = some (.cells c t f)) (hy : w.heap[y]? = some (.cells d u g)) (h : t ≠ u) : x ≠ y := by
  intro e
  subst e
  rw [hx] at hy
  simp at hy
  exact h hy.2.1
theorem IsRing.at_ {w : World} {r g n : Nat} {ic oc : Int} {q : List Int} (h : IsRing w r g n ic oc q) : (∃ cs, w.heap[r]? = some (.cells cs 117)) ∧ ∃ cs, w.heap[g]? = some (.cells cs 5) := by
  obtain ⟨p, zs, h⟩ := h
  exact ⟨⟨_, h.head⟩, ⟨_, h.arr⟩⟩
theorem IsPort.keep {w w' : World} {S : Nat → Prop} {b eb : Nat} {gv ov : Value} {R G : Nat → Nat} {P : Pt} (h : IsPort w S b eb gv ov R G P) (k : ∀ i, S i → w'.heap[i]? = w.heap[i]?) (hs : w.heap.size ≤ w'.heap.size) : IsPort w' S b eb gv ov R G P :=
  ⟨(k b h.sb).trans h.head, h.row.keep (k eb h.se), fun i hi => by
    obtain ⟨ic, oc, hr⟩ := h.ring i hi
    exact ⟨ic, oc, hr.keep (k _ (h.sr i hi).1) (k _ (h.sr i hi).2)⟩, h.inj, own_keep h.gr (fun g hg => k g (h.sg g hg)), own_keep h.ou (fun g hg => k g (h.so g hg)), h.ok, fun i hi => Nat.lt_of_lt_of_le (h.lt i hi) hs, h.sb, h.se, h.sr, h.sg, h.so⟩
theorem IsPort.below {w w' : World} {S : Nat → Prop} {b eb : Nat} {gv ov : Value} {R G : Nat → Nat} {P : Pt} (h : IsPort w S b eb gv ov R G P) (k : Below w.heap.size w w') : IsPort w' S b eb gv ov R G P := h.keep (fun i hi => k.block i (h.lt i hi)) k.size
theorem IsPort.wide {w : World} {S T : Nat → Prop} {b eb : Nat} {gv ov : Value} {R G : Nat → Nat} {P : Pt} (h : IsPort w S b eb gv ov R G P) (hT : ∀ k, S k → T k) (hl : ∀ k, T k → k < w.heap.size) : IsPort w T b eb gv ov R G P :=
  ⟨h.head, h.row, h.ring, h.inj, h.gr, h.ou, h.ok, hl, hT _ h.sb, hT _ h.se, fun i hi => ⟨hT _ (h.sr i hi).1, hT _ (h.sr i hi).2⟩, fun g hg => hT _ (h.sg g hg), fun g hg => hT _ (h.so g hg)⟩
theorem Port.below {w w' : World} {S : Nat → Prop} {b : Nat} {P : Pt} (h : Port w S b P) (k : Below w.heap.size w w') : Port w' S b P := by
  obtain ⟨eb, gv, ov, R, G, h⟩ := h
  exact ⟨eb, gv, ov, R, G, h.below k⟩
theorem Port.drewN {w : World} {S : Nat → Prop} {b : Nat} {P : Pt} (h : Port w S b P) (n : Nat) : Port (w.drewN n) S b P := by
  obtain ⟨eb, gv, ov, R, G, h⟩ := h
  exact ⟨eb, gv, ov, R, G, h.keep (fun _ _ => rfl) (Nat.le_refl _)⟩
theorem Port.off {w w' : World} {S T : Nat → Prop} {b : Nat} {P : Pt} (h : Port w S b P) (k : KeptS T w w') (hd : ∀ i, S i → ¬ T i) : Port w' S b P := by
  obtain ⟨eb, gv, ov, R, G, h⟩ := h
  exact ⟨eb, gv, ov, R, G, h.keep (fun i hi => k.block i (h.lt i hi) (hd i hi)) k.size⟩
theorem Row.same {w : World} {g : Nat} {V : Nat → Value} {L K : List En} (h : Row w g V L) (hl : K.length = L.length) (he : ∀ i, i < L.length → enC (V i) (at0 K i) = enC (V i) (at0 L i)) : Row w g V K := by
  obtain ⟨cs, h1, h2, h3⟩ := h
  exact ⟨cs, h1, by rw [hl]; exact h2, fun i hi j hj => by rw [he i (hl ▸ hi)]; exact h3 i (hl ▸ hi) j hj⟩
/-- One ring has turned. -/
theorem IsPort.ringTurn {w w' : World} {S : Nat → Prop} {b eb : Nat} {gv ov : Value} {R G : Nat → Nat} {P : Pt} (h : IsPort w S b eb gv ov R G P) {i : Nat} (hi : i < P.L.length) (k : Kept (R i) (G i) w w') {ic oc : Int} {q : List Int} (hr : IsRing w' (R i) (G i) P.sz ic oc q) (hq : q.length ≤ P.sz) :
    IsPort w' S b eb gv ov R G { P with L := P.L.set i { at0 P.L i with q := q } } := by
  obtain ⟨ic0, oc0, hr0⟩ := h.ring i hi
  obtain ⟨⟨c1, e1⟩, ⟨c2, e2⟩⟩ := hr0.at_
  obtain ⟨cr, er, _⟩ := h.row
  have n1 : b ≠ R i := ty_ne h.head e1 (by decide)
  have n2 : b ≠ G i := ty_ne h.head e2 (by decide)
  have n3 : eb ≠ R i := ty_ne er e1 (by decide)
  have n4 : eb ≠ G i := ty_ne er e2 (by decide)
  have ho := h.ok.e i
  refine ⟨?_, (h.row.keep (k.block eb (lt_of_some er) n3 n4)).same (by simp) ?_, ?_, ?_, ?_, ?_, h.ok.set hi (x := { at0 P.L i with q := q }) ⟨hq, ho.s0, ho.s3, ho.r0, ho.r1⟩ P.ou, fun j hj => Nat.lt_of_lt_of_le (h.lt j hj) k.size, h.sb, h.se, fun j hj => h.sr j (by simpa using hj), h.sg, h.so⟩
  · simp only [List.length_set]
    exact (k.block b (lt_of_some h.head) n1 n2).trans h.head
  · intro j hj
    rw [at0_set _ hi]
    split
    · rename_i e; subst e; rfl
    · rfl
  · intro j hj
    simp only [List.length_set] at hj
    simp only [at0_set _ hi]
    by_cases e : j = i
    · subst e
      rw [if_pos rfl]
      exact ⟨ic, oc, hr⟩
    · rw [if_neg e]
      obtain ⟨ic1, oc1, hr1⟩ := h.ring j hj
      obtain ⟨⟨d1, f1⟩, ⟨d2, f2⟩⟩ := hr1.at_
      have hij := h.inj j i hj hi e
      exact ⟨ic1, oc1, hr1.keep (k.block _ (lt_of_some f1) hij.1 (ty_ne f1 e2 (by decide))) (k.block _ (lt_of_some f2) (ty_ne f2 e1 (by decide)) hij.2)⟩
  · intro j m hj hm
    simp only [List.length_set] at hj hm
    exact h.inj j m hj hm
  · exact own_keep h.gr (fun g hg => by
      obtain ⟨cur, hc⟩ := own_block h.gr hg
      exact k.block g (lt_of_some hc) (ty_ne hc e1 (by decide)) (ty_ne hc e2 (by decide)))
  · exact own_keep h.ou (fun g hg => by
      obtain ⟨cur, hc⟩ := own_block h.ou hg
      exact k.block g (lt_of_some hc) (ty_ne hc e1 (by decide)) (ty_ne hc e2 (by decide)))
/-- The row of the endpoints has turned. -/
theorem IsPort.rowTurn {w w' : World} {S : Nat → Prop} {b eb : Nat} {gv ov : Value} {R G : Nat → Nat} {P : Pt} (h : IsPort w S b eb gv ov R G P) {i : Nat} (hi : i < P.L.length) (k : Kept eb eb w w') {x : En} (hr : Row w' eb (rp R) (P.L.set i x)) (hq : x.q = (at0 P.L i).q) (hx : En.Ok P.sz x) :
    IsPort w' S b eb gv ov R G { P with L := P.L.set i x } := by
  obtain ⟨cr, er, _⟩ := h.row
  have n1 : b ≠ eb := ty_ne h.head er (by decide)
  refine ⟨?_, hr, ?_, ?_, ?_, ?_, h.ok.set hi hx P.ou, fun j hj => Nat.lt_of_lt_of_le (h.lt j hj) k.size, h.sb, h.se, fun j hj => h.sr j (by simpa using hj), h.sg, h.so⟩
  · simp only [List.length_set]
    exact (k.block b (lt_of_some h.head) n1 n1).trans h.head
  · intro j hj
    simp only [List.length_set] at hj
    obtain ⟨ic1, oc1, hr1⟩ := h.ring j hj
    obtain ⟨⟨d1, f1⟩, ⟨d2, f2⟩⟩ := hr1.at_
    have m1 : R j ≠ eb := ty_ne f1 er (by decide)
    have m2 : G j ≠ eb := ty_ne f2 er (by decide)
    have hr2 := hr1.keep (k.block _ (lt_of_some f1) m1 m1) (k.block _ (lt_of_some f2) m2 m2)
    simp only [at0_set _ hi]
    by_cases e : j = i
    · subst e
      rw [if_pos rfl, hq]
      exact ⟨ic1, oc1, hr2⟩
    · rw [if_neg e]
      exact ⟨ic1, oc1, hr2⟩
  · intro j m hj hm
    simp only [List.length_set] at hj hm
    exact h.inj j m hj hm
  · exact own_keep h.gr (fun g hg => by
      obtain ⟨cur, hc⟩ := own_block h.gr hg
      exact k.block g (lt_of_some hc) (ty_ne hc er (by decide)) (ty_ne hc er (by decide)))
  · exact own_keep h.ou (fun g hg => by
      obtain ⟨cur, hc⟩ := own_block h.ou hg
      exact k.block g (lt_of_some hc) (ty_ne hc er (by decide)) (ty_ne hc er (by decide)))

end Go.Proofs.Ytjojhnkibgkleaa
