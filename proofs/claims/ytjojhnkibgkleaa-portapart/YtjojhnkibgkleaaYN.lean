/-
  The reference's box takes one datagram more; conditions as each theorem has them.
-/
import Derived.Test.YtjojhnkibgkleaaYG
import Derived.ArgAppend
set_option linter.unusedSimpArgs false
set_option linter.unusedVariables false
set_option maxRecDepth 8000
namespace Go.Proofs.Ytjojhnkibgkleaa
open Go.RowKit Go.Lib

variable {w : World} {S : Nat → Prop} {y eb ec : Nat} {ea : Option Addr} {bv ov : Value} {Y : Nat → Nat} {V : Nat → Value} {E : Nat → Nat} {P : Pt}
theorem undB : Try.prog.underlying 51 = some (.slice 45) := by kernel_rfl
theorem infB : ∃ i, Try.prog.info? 45 = some i ∧ i.zero = some (.slice none 0 0) ∧ i.size = 1 ∧ i.bytes = 24 := info_parts (by kernel_rfl)
theorem getD_old (l : List ByteArray) (d : ByteArray) {j : Nat} (hj : j < l.length) : (l ++ [d]).getD j emp = l.getD j emp := by
  rw [List.getD_eq_getElem?_getD, List.getD_eq_getElem?_getD, List.getElem?_append_left hj]
theorem getD_new (l : List ByteArray) (d : ByteArray) : (l ++ [d]).getD l.length emp = d := by simp [List.getD_eq_getElem?_getD]
/-- What an append to the box leaves. -/
structure BoxAp (w w' : World) (S : Nat → Prop) (a' : Option Addr) (n c' g : Nat) (l : List ByteArray) (E : Nat → Nat) (d : ByteArray) : Prop where
  box : IsBox w' (fun k => S k ∨ k = g ∨ w.heap.size ≤ k ∧ k < w'.heap.size) (.slice a' (n + 1) c') (l ++ [d]) (fun j => if j = l.length then g else E j)
  os : w'.os = w.os
  tape : w'.tape = w.tape
  output : w'.output = w.output
  size : w.heap.size ≤ w'.heap.size
  block : ∀ k, k < w.heap.size → ¬ (S k ∧ ∃ cur f, w.heap[k]? = some (.cells cur 45 f)) → w'.heap[k]? = w.heap[k]?
theorem box_app {a : Option Addr} {n c : Nat} {l : List ByteArray} (h : IsBox w S (.slice a n c) l E) (g cp : Nat) (d : ByteArray) (hs : Src w (some ⟨g, 0, none⟩) d.size cp (bi d)) (hg : ∃ cur f, w.heap[g]? = some (.cells cur 5 f)) (tb : Nat) (ht : w.cell? ⟨tb, 0, none⟩ = some (.slice (some ⟨g, 0, none⟩) d.size cp)) (h8 : l.length < 8) :
    ∃ a' c' w', (Builtin.append_ #[51, 51] 51 #[.slice a n c, .slice (some ⟨tb, 0, none⟩) 1 1]).run Try.prog w = .ok (.slice a' (n + 1) c') w' ∧ BoxAp w w' S a' n c' g l E d := by
  obtain ⟨⟨a2, bb, bo, c2, e1, e2, e3, hc⟩, ho⟩ := h
  simp only [Value.slice.injEq] at e1
  obtain ⟨rfl, rfl, rfl⟩ := e1
  obtain ⟨i, hi, hz, hsz, hby⟩ := infB
  obtain ⟨gc, gf, hgc⟩ := hg
  have hnew : ∀ j u, [Value.slice (some ⟨g, 0, none⟩) d.size cp][j]? = some u → w.cell? ((⟨tb, 0, none⟩ : Addr).add j) = some u := fun j u hu => by
    cases j with
    | zero => simp at hu; subst hu; rw [add_none]; exact ht
    | succ j => simp at hu
  have hone : ∀ u ∈ [Value.slice (some ⟨g, 0, none⟩) d.size cp], u.oneCell' = true := by intro u hu; simp at hu; subst hu; rfl
  by_cases hr : l.length + 1 ≤ c
  · obtain ⟨q1, q2, ⟨cur, q3, q4⟩, q5⟩ := hc (by omega)
    subst q1
    have hcell : ∀ j, j < 1 → (w.cell? ⟨bb, bo + l.length * i.size + j, none⟩).isSome = true := fun j hj => by
      simp [World.cell?, q3, hsz]; omega
    have hfr : ∀ j, j < 1 → w.frozen? ⟨bb, bo + l.length * i.size + j, none⟩ = false := fun j hj => by simp [World.frozen?, q3]
    have hrun := run_append_room_cells (P := Try.prog) w 51 51 45 i undB hi bb bo l.length c ⟨tb, 0, none⟩ 1 1 [.slice (some ⟨g, 0, none⟩) d.size cp] (by simp [hsz]) hnew hone hr hcell hfr
    rw [hsz, Nat.mul_one] at hrun
    refine ⟨_, _, _, hrun, ?_⟩
    show BoxAp w (w.setCell ⟨bb, bo + l.length, none⟩ (.slice (some ⟨g, 0, none⟩) d.size cp)) S _ _ _ g l E d
    have ow : ∀ k cs t f, w.heap[k]? = some (Obj.cells cs t f) → t ≠ 45 → (w.setCell ⟨bb, bo + l.length, none⟩ (.slice (some ⟨g, 0, none⟩) d.size cp)).heap[k]? = w.heap[k]? := fun k cs t f hk htt => Below.heap_setCell _ _ _ _ (ty_ne hk q3 htt)
    have hb' := heap_setCell_same q3 (bo + l.length) (.slice (some ⟨g, 0, none⟩) d.size cp)
    have hself : (w.setCell ⟨bb, bo + l.length, none⟩ (.slice (some ⟨g, 0, none⟩) d.size cp)).cell? ⟨bb, bo + l.length, none⟩ = some (.slice (some ⟨g, 0, none⟩) d.size cp) := by
      simp [World.cell?, hb', Array.getElem?_setIfInBounds]; omega
    have hoth : ∀ j, j < l.length → (w.setCell ⟨bb, bo + l.length, none⟩ (.slice (some ⟨g, 0, none⟩) d.size cp)).cell? ⟨bb, bo + j, none⟩ = w.cell? ⟨bb, bo + j, none⟩ := fun j hj => by
      simp [World.cell?, hb', q3, Array.getElem?_setIfInBounds, show ¬ l.length = j by omega]
    refine ⟨⟨⟨_, bb, bo, c, by simp, by simpa using hr, e3, fun _ => ⟨rfl, Or.inl q2, ⟨_, hb', by simpa using q4⟩, fun j hj => ?_⟩⟩, fun j hj => ?_⟩, rfl, rfl, rfl, by simp [World.setCell], fun k hk hn => ?_⟩
    · simp only [List.length_append, List.length_cons, List.length_nil] at hj
      by_cases e : j = l.length
      · subst e
        simp only [if_true, getD_new]
        exact ⟨cp, hself, hs.keep (fun b o e h1 => by simp at e; rw [← e.1]; exact ow _ _ _ _ hgc (by decide))⟩
      · simp only [if_neg e, getD_old l d (show j < l.length by omega)]
        obtain ⟨cp', r1, r2⟩ := q5 j (by omega)
        obtain ⟨cj, fj, hcj⟩ := (ho j (by omega)).2
        exact ⟨cp', (hoth j (by omega)).trans r1, r2.keep (fun b o e h1 => by simp at e; rw [← e.1]; exact ow _ _ _ _ hcj (by decide))⟩
    · simp only [List.length_append, List.length_cons, List.length_nil] at hj
      by_cases e : j = l.length
      · simp only [if_pos e]
        exact ⟨Or.inr (Or.inl (by trivial)), gc, gf, (ow _ _ _ _ hgc (by decide)).trans hgc⟩
      · simp only [if_neg e]
        obtain ⟨s1, cj, fj, hcj⟩ := ho j (by omega)
        exact ⟨Or.inl s1, cj, fj, (ow _ _ _ _ hcj (by decide)).trans hcj⟩
    · exact Below.heap_setCell _ _ _ _ (fun e => by
        have e' : k = bb := e
        subst e'
        exact hn ⟨q2, cur, _, q3⟩)
  · have hfull : l.length = c := by omega
    have hG1 := grownCap_ge w (l.length + 1) c 45
    have hG2 := grownCap_le_maxLen w (l.length + 1) c 45 (by unfold maxLen at e3 ⊢; omega)
    obtain ⟨olds, hol, hoc, hrun⟩ : ∃ olds : List Value, olds.length = l.length ∧ (∀ j, j < l.length → ∃ cp', olds[j]? = some (.slice (some ⟨E j, 0, none⟩) (l.getD j emp).size cp') ∧ Src w (some ⟨E j, 0, none⟩) (l.getD j emp).size cp' (bi (l.getD j emp))) ∧
        (Builtin.append_ #[51, 51] 51 #[.slice a l.length c, .slice (some ⟨tb, 0, none⟩) 1 1]).run Try.prog w = .ok (.slice (some ⟨w.heap.size, 0, none⟩) (l.length + 1) (grownCap w (l.length + 1) c 45)) (w.drew.alloc (.cells (olds.toArray ++ #[Value.slice (some ⟨g, 0, none⟩) d.size cp] ++ Builtin.zeroCells (Value.slice none 0 0).cells (grownCap w (l.length + 1) c 45 - (l.length + 1))) 45)) := by
      by_cases c0 : c = 0
      · have l0 : l.length = 0 := by omega
        cases a with
        | none =>
          refine ⟨[], by simp [l0], fun j hj => by omega, ?_⟩
          have := run_append_nil (P := Try.prog) w 51 51 45 i (.slice none 0 0) undB hi hz ⟨tb, 0, none⟩ 1 1 [.slice (some ⟨g, 0, none⟩) d.size cp] (by simp [hsz]) hnew (by omega) (by omega) (by omega)
          rw [l0, c0]
          simpa using this
        | some b0 =>
          refine ⟨[], by simp [l0], fun j hj => by omega, ?_⟩
          have := run_append_grow (P := Try.prog) w 51 51 45 i (.slice none 0 0) undB hi hz b0 0 0 [] (by simp) (by simp) ⟨tb, 0, none⟩ 1 1 [.slice (some ⟨g, 0, none⟩) d.size cp] (by simp [hsz]) hnew (by omega) (by omega) (growslice_fits (by omega) (by rw [hby]; omega))
          rw [l0, c0]
          simpa using this
      · obtain ⟨q1, q2, ⟨cur, q3, q4⟩, q5⟩ := hc (by omega)
        subst q1
        have hlt : ∀ j, j < l.length → ((cur.toList.drop bo).take l.length)[j]? = w.cell? ⟨bb, bo + j, none⟩ := fun j hj => by
          simp [World.cell?, q3, List.getElem?_take, hj]
        have hlen : ((cur.toList.drop bo).take l.length).length = l.length := by simp; omega
        refine ⟨(cur.toList.drop bo).take l.length, hlen, fun j hj => ?_, ?_⟩
        · obtain ⟨cp', r1, r2⟩ := q5 j hj
          exact ⟨cp', (hlt j hj).trans r1, r2⟩
        · exact run_append_grow (P := Try.prog) w 51 51 45 i (.slice none 0 0) undB hi hz ⟨bb, bo, none⟩ l.length c _ (by rw [hlen, hsz, Nat.mul_one]) (fun j u hu => by
            have hj := (List.getElem?_eq_some_iff.1 hu).1
            rw [hlen] at hj
            rw [add_none, ← hlt j hj]; exact hu) ⟨tb, 0, none⟩ 1 1 [.slice (some ⟨g, 0, none⟩) d.size cp] (by simp [hsz]) hnew (by omega) (by omega) (growslice_fits (by omega) (by rw [hby]; omega))
    obtain ⟨G, hGe⟩ : ∃ G, G = grownCap w (l.length + 1) c 45 := ⟨_, rfl⟩
    rw [← hGe] at hrun hG1 hG2
    refine ⟨_, _, _, hrun, ?_⟩
    obtain ⟨C, hC⟩ : ∃ C, C = (olds.toArray ++ #[Value.slice (some ⟨g, 0, none⟩) d.size cp] ++ Builtin.zeroCells (Value.slice none 0 0).cells (G - (l.length + 1))) := ⟨_, rfl⟩
    rw [← hC]
    have hCs : C.size = G := by
      rw [hC, Array.size_append, Array.size_append, size_zeroCells]
      simp [hol, Value.cells]
      omega
    have hCo : ∀ j, j < l.length → C[j]? = olds[j]? := fun j hj => by
      rw [hC, Array.append_assoc, Array.getElem?_append_left (by simpa [hol] using hj)]
      simp
    have hCn : C[l.length]? = some (.slice (some ⟨g, 0, none⟩) d.size cp) := by
      rw [hC, Array.append_assoc, Array.getElem?_append_right (by simp [hol]), Array.getElem?_append_left (by simp [hol])]
      simp [hol]
    have hb : Below w.heap.size w (w.drew.alloc (.cells C 45)) := ((Below.refl w.heap.size w).drew).alloc (Nat.le_refl _) _
    have hn : (w.drew.alloc (.cells C 45)).heap[w.heap.size]? = some (.cells C 45) := alloc_new w.drew (.cells C 45)
    generalize w.drew.alloc (.cells C 45) = W3 at hb hn ⊢
    have hnl : w.heap.size < W3.heap.size := lt_of_some hn
    have cellN : ∀ j, W3.cell? ⟨w.heap.size, 0 + j, none⟩ = C[j]? := fun j => by simp [World.cell?, hn]
    refine ⟨⟨⟨_, w.heap.size, 0, G, by simp, by simpa using hG1, hG2, fun _ => ⟨rfl, Or.inr (Or.inr ⟨Nat.le_refl _, hnl⟩), ⟨C, hn, by omega⟩, fun j hj => ?_⟩⟩, fun j hj => ?_⟩, hb.os, hb.tape, hb.output, hb.size, fun k hk _ => hb.block k hk⟩
    · simp only [List.length_append, List.length_cons, List.length_nil] at hj
      by_cases e : j = l.length
      · subst e
        simp only [if_true, getD_new]
        exact ⟨cp, by rw [cellN, hCn], hs.below hb⟩
      · simp only [if_neg e, getD_old l d (show j < l.length by omega)]
        obtain ⟨cp', r1, r2⟩ := hoc j (by omega)
        exact ⟨cp', by rw [cellN, hCo j (by omega), r1], r2.below hb⟩
    · simp only [List.length_append, List.length_cons, List.length_nil] at hj
      by_cases e : j = l.length
      · simp only [if_pos e]
        exact ⟨Or.inr (Or.inl (by trivial)), gc, gf, (hb.block _ (lt_of_some hgc)).trans hgc⟩
      · simp only [if_neg e]
        obtain ⟨s1, cj, fj, hcj⟩ := ho j (by omega)
        exact ⟨Or.inl s1, cj, fj, (hb.block _ (lt_of_some hcj)).trans hcj⟩

end Go.Proofs.Ytjojhnkibgkleaa
