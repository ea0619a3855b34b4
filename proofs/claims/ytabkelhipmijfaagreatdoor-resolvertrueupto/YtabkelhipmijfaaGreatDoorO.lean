/-
  Slices that a call appends to; conditions as each theorem has them.
-/
import Derived.Test.YtabkelhipmijfaaGreatDoorH
set_option linter.unusedSimpArgs false
set_option linter.unusedVariables false
namespace Go.Proofs.YtabkelhipmijfaaGreatDoor
open Go.RowKit

/-- v is the call's own slice of the values xs, each one cell, in a block from B on. -/
def Own (w : World) (B : Nat) (e : TypeId) (v : Value) (xs : List Value) : Prop := w.ownsRow B e 1 v xs.length xs
theorem Own.keep {w w' : World} {B : Nat} {e : TypeId} {v : Value} {xs : List Value} (h : Own w B e v xs) (k : ∀ g, v.ownBlock = some g → w'.heap[g]? = w.heap[g]?) : Own w' B e v xs := by
  refine ⟨h.1, ?_⟩
  rcases h.2 with h0 | ⟨x, cap, cur, hv, hx, hh, hrest⟩
  · exact Or.inl h0
  · exact Or.inr ⟨x, cap, cur, hv, hx, (k x (by rw [hv]; rfl)).trans hh, hrest⟩
theorem Own.block {w : World} {B : Nat} {e : TypeId} {v : Value} {xs : List Value} (h : Own w B e v xs) {g : Nat} (hg : v.ownBlock = some g) : B ≤ g ∧ ∃ cur, w.heap[g]? = some (.cells cur e) := by
  rcases h.2 with ⟨rfl, _⟩ | ⟨x, cap, cur, rfl, hx, hh, hrest⟩
  · cases hg
  · simp [Value.ownBlock] at hg
    subst hg
    exact ⟨hx, cur, hh⟩
theorem Own.below {w w' : World} {B : Nat} {e : TypeId} {v : Value} {xs : List Value} (h : Own w B e v xs) (k : Below w.heap.size w w') : Own w' B e v xs :=
  h.keep fun g hg => by
    obtain ⟨_, cur, hh⟩ := h.block hg
    exact k.block g (lt_of_some hh)
/-- Where it lies. -/
theorem Own.lies {w : World} {B : Nat} {e : TypeId} {v : Value} {xs : List Value} (h : Own w B e v xs) (h0 : 0 < xs.length) : ∃ g cap, v = .slice (some ⟨g, 0, none⟩) xs.length cap ∧ B ≤ g ∧ g < w.heap.size ∧ xs.length ≤ cap ∧ cap ≤ maxLen ∧ (∀ j u, xs[j]? = some u → w.cell? ⟨g, j, none⟩ = some u) ∧ ∀ j, w.frozen? ⟨g, j, none⟩ = false := by
  rcases h.2 with ⟨rfl, e0⟩ | ⟨g, cap, cur, rfl, hx, hh, hc, hm, hs, ht⟩
  · omega
  · refine ⟨g, cap, rfl, hx, lt_of_some hh, hc, hm, fun j u hu => ?_, fun j => by simp [World.frozen?, hh]⟩
    have hj := (List.getElem?_eq_some_iff.1 hu).1
    rw [Nat.mul_one] at ht
    have : cur.toList[j]? = some u := by rw [← hu, ← ht, List.getElem?_take, if_pos (by omega)]
    simp only [World.cell?, hh]
    simpa using this
theorem Own.set {w : World} {B : Nat} {e : TypeId} {g n cap : Nat} {xs : List Value} (h : Own w B e (.slice (some ⟨g, 0, none⟩) n cap) xs) (j : Nat) (u : Value) : Own (w.setCell ⟨g, j, none⟩ u) B e (.slice (some ⟨g, 0, none⟩) n cap) (xs.set j u) := by
  refine ⟨by rw [List.length_set]; exact h.1, ?_⟩
  rcases h.2 with ⟨e0, _⟩ | ⟨g', cap', cur, hv, hx, hh, hc, hm, hs, ht⟩
  · cases e0
  · simp only [Value.slice.injEq, Option.some.injEq, Addr.mk.injEq, and_true] at hv
    obtain ⟨rfl, h2, rfl⟩ := hv
    refine Or.inr ⟨g, cap, cur.setIfInBounds j u, ?_, hx, heap_setCell_same hh j u, by rw [List.length_set]; exact hc, hm, by simpa using hs, ?_⟩
    · rw [List.length_set, h2]
    · rw [List.length_set]
      rw [Nat.mul_one] at ht ⊢
      rw [Array.toList_setIfInBounds, List.take_set, ht]
theorem own_app (sl e : TypeId) (z : Value) (by_ : Nat) (hu : Tryz.prog.underlying sl = some (.slice e)) (hinf : ∃ i, Tryz.prog.info? e = some i ∧ i.zero = some z ∧ i.size = 1 ∧ i.bytes = by_) (hzc : z.cells.size = 1)
    {w : World} {B : Nat} {v : Value} {xs : List Value} (hown : Own w B e v xs) (a : Addr) (m c : Nat) (news : List Value) (hl : news.length = m) (hnews : ∀ j u, news[j]? = some u → w.cell? (a.add j) = some u) (h1 : ∀ u ∈ news, u.oneCell' = true)
    (hlen : (xs.length + m) * by_ ≤ 140737488355328) (h63 : xs.length + m ≤ 140737488355328) (hB : B ≤ w.heap.size) :
    ∃ v' w', (Builtin.append_ #[sl, sl] sl #[v, .slice (some a) m c]).run Tryz.prog w = .ok v' w' ∧ Own w' B e v' (xs ++ news) ∧ Below B w w' ∧ (∀ k, k < w.heap.size → v.ownBlock ≠ some k → w'.heap[k]? = w.heap[k]?) := by
  obtain ⟨i, hi, hz, hsz, hby⟩ := hinf
  obtain ⟨v', w', hr, ho, hg, _⟩ := run_append_own (P := Tryz.prog) w B sl sl e i z 1 by_ hu hi hz hsz hby hzc (by omega) v xs.length xs hown a m c news (by omega) hnews h1 (by unfold maxLen; omega) hlen hB
  refine ⟨v', w', hr, ?_, (Below.refl B w).grown hg hB (fun k hk => (hown.block hk).1), fun k hk hne => ?_⟩
  · unfold Own
    rw [List.length_append, hl]
    exact ho
  · exact hg.block k hk (fun e => hne e.symm)
theorem inf9 : ∃ i, Tryz.prog.info? 9 = some i ∧ i.zero = some (.string ⟨#[]⟩) ∧ i.size = 1 ∧ i.bytes = 16 := info_parts (by kernel_rfl)
theorem inf3 : ∃ i, Tryz.prog.info? 3 = some i ∧ i.zero = some (.int .i64 0) ∧ i.size = 1 ∧ i.bytes = 8 := info_parts (by kernel_rfl)
/-- The operation 'append' for the walk, where its run is known by an equation. -/
theorem wpList_app_run {P : Program} (w : World) {ops : Array Oper} {rest : List Oper} {o : Oper} {a : Act} {Q : Exit → Act → World → Prop} (hgd : o.guard = none) (d s : Operand) (t t' : TypeId)
    (ho : o.op = .call { callee := .builtin .append, args := #[d, s], argTypes := #[t, t'] }) (v u : Value) (hd : a.eval d = v) (hs : a.eval s = u) {v' : Value} {w' : World}
    (hr : (Builtin.append_ #[t, t'] o.type #[v, u]).run P w = .ok v' w') (h : wpList P ops Q rest (a.put o.dst v') w') : wpList P ops Q (o :: rest) a w := by
  refine wpList_plain hgd fun K hK => ?_
  unfold Oper.wp execOp
  simp only [ho, resolve, invoke, builtin, Sem.run_bind, Sem.run_pure, Result.andThen_ok, List.map_toArray, List.map_cons, List.map_nil, hd, hs, hr]
  exact hK _ _ h
theorem strN_of (l : List Nat) : strOfNums (l.map fun (x : Nat) => (x : Int)) = strN l := by simp [strOfNums, strN]
theorem run_str (w : World) (b o len cap : Nat) (l : List Nat) (hl : l.length = len) (hc : ∀ i, i < len → w.cell? ⟨b, o + i, none⟩ = some (.int .u8 (l.getD i 0 : Nat))) : (convert 30 9 (.slice (some ⟨b, o, none⟩) len cap)).run Tryz.prog w = .ok (.string (strN l)) w := by
  rw [← strN_of]
  refine run_convert_bytes_arg (P := Tryz.prog) w 30 5 Tryz.underlying30 Tryz.underlying5 b o len cap (l.map fun (x : Nat) => (x : Int)) (by simpa using hl) (fun i hi => ?_) 9 Tryz.underlying9
  rw [hc i hi]
  have : i < l.length := by omega
  simp [List.getD, this]
theorem run_make_cap (l c : Nat) (hlc : l ≤ c) (hc : c ≤ 140737488355328) (w : World) : (Instr.makeSlice 30 (.int .i64 l) (.int .i64 c)).run Tryz.prog w = .ok (.slice (some ⟨w.heap.size, 0, none⟩) l c) (w.alloc (.cells (nums .u8 (List.replicate c 0)).toArray 5)) := by
  obtain ⟨i, hi, hz, hs, hb⟩ := info5p
  have hr := run_make (P := Tryz.prog) w 30 5 i (.int .u8 0) Tryz.underlying30 hi hz .i64 .i64 l c (by omega) (by omega) (by rw [hb]; omega) (by omega)
  simp only [Int.toNat_natCast, hs, Nat.mul_one] at hr
  rw [hr]
  have e : madeCells (Value.int .u8 0).cells c = (nums .u8 (List.replicate c 0)).toArray := by
    show madeCells #[Value.int .u8 0] c = _
    rw [← Array.toList_inj, toList_madeCells_one]
    simp [nums]
  rw [e]
theorem jn_snoc : ∀ (qs : List (List Nat)) (p : List Nat), qs ≠ [] → jn (qs ++ [p]) = jn qs ++ 46 :: p
  | [], _, h => absurd rfl h
  | [q], p, _ => rfl
  | q :: r :: s, p, _ => by
    have ih := jn_snoc (r :: s) p (by simp)
    simp only [List.cons_append, jn] at ih ⊢
    rw [ih]; simp
theorem jn_app : ∀ (qs rs : List (List Nat)), qs ≠ [] → rs ≠ [] → jn (qs ++ rs) = jn qs ++ 46 :: jn rs
  | [], _, h, _ => absurd rfl h
  | [q], r :: rs, _, _ => rfl
  | q :: r :: s, rs, _, h => by
    have ih := jn_app (r :: s) rs (by simp) h
    simp only [List.cons_append, jn] at ih ⊢
    rw [ih]; simp
theorem take_getD {α : Type} {ps : List α} {k : Nat} {d : α} (h : k < ps.length) : ps.take (k + 1) = ps.take k ++ [ps.getD k d] := by
  rw [List.take_succ_eq_append_getElem h, List.getD, List.getElem?_eq_getElem h]; rfl
theorem jn_take_len (ps : List (List Nat)) (k : Nat) : (jn (ps.take k)).length ≤ (jn ps).length := by
  by_cases h1 : ps.take k = []
  · rw [h1]; simp [jn]
  · by_cases h2 : ps.drop k = []
    · have : ps.take k = ps := by have := List.take_append_drop k ps; rw [h2, List.append_nil] at this; exact this
      rw [this]; exact Nat.le_refl _
    · have := jn_app (ps.take k) (ps.drop k) h1 h2
      rw [List.take_append_drop] at this
      rw [this]; simp
end Go.Proofs.YtabkelhipmijfaaGreatDoor
