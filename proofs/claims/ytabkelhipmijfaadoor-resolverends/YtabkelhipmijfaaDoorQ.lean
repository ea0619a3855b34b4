/-
  Lower of the reference's base, and ParseName of the reference; conditions as each theorem has them.
-/
import Derived.Test.YtabkelhipmijfaaDoorK
import Derived.Test.YtabkelhipmijfaaDoorI
import Derived.Lib.ConvBytes
set_option linter.unusedSimpArgs false
set_option linter.unusedVariables false
namespace Go.Proofs.YtabkelhipmijfaaDoor
open Go.RowKit

/-- The block B begins by the bytes l, which may be written. -/
def Beg (w : World) (B : Nat) (l : List Nat) : Prop := ∃ C fr, w.heap[B]? = some (.cells C 5 fr) ∧ l.length ≤ fr.1 ∧ ∀ j, j < l.length → C[j]? = some (.int .u8 (l.getD j 0 : Nat))
theorem Beg.cell {w : World} {B : Nat} {l : List Nat} (h : Beg w B l) {j : Nat} (hj : j < l.length) : w.cell? ⟨B, j, none⟩ = some (.int .u8 (l.getD j 0 : Nat)) := by
  obtain ⟨C, fr, h1, h2, h3⟩ := h
  simp only [World.cell?, h1]
  exact h3 j hj
theorem Beg.frozen {w : World} {B : Nat} {l : List Nat} (h : Beg w B l) {j : Nat} (hj : j < l.length) : w.frozen? ⟨B, j, none⟩ = false := by
  obtain ⟨C, fr, h1, h2, h3⟩ := h
  simp [World.frozen?, h1]
  intro h; omega
theorem heap_setCell_fr {w : World} {r : Nat} {C : Array Value} {t : TypeId} {fr : Nat × Nat} (h : w.heap[r]? = some (.cells C t fr)) (o : Nat) (v : Value) : (w.setCell ⟨r, o, none⟩ v).heap[r]? = some (.cells (C.setIfInBounds o v) t fr) := by
  have hg := lt_of_some h
  have e : w.heap[r] = .cells C t fr := by rw [Array.getElem?_eq_getElem hg] at h; exact Option.some.inj h
  simp [World.setCell, hg, Array.getElem_modify, e]
theorem Beg.set {w : World} {B : Nat} {l : List Nat} (h : Beg w B l) {j : Nat} (hj : j < l.length) (x : Nat) : Beg (w.setCell ⟨B, j, none⟩ (.int .u8 (x : Nat))) B (l.set j x) := by
  obtain ⟨C, fr, h1, h2, h3⟩ := h
  refine ⟨_, fr, heap_setCell_fr h1 j _, by rw [List.length_set]; exact h2, fun i hi => ?_⟩
  rw [List.length_set] at hi
  have hjs : j < C.size := by
    have := h3 j hj
    exact (Array.getElem?_eq_some_iff.1 this).1
  by_cases e : j = i
  · subst e
    simp [List.getD, hj, hjs]
  · rw [Array.getElem?_setIfInBounds_ne e, h3 i hi]
    simp [List.getD, List.getElem?_set_ne e]
theorem conv_bytes (t : ByteArray) (w : World) : ∃ cap, ∃ w', (convert 9 38 (.string t)).run Tryd.prog w = .ok (.slice (some ⟨w.heap.size, 0, none⟩) t.size cap) w' ∧ t.size ≤ cap ∧ Below w.heap.size w w' ∧ Beg w' w.heap.size (byt t) := by
  have hr := Lib.run_convert_string_bytes (P := Tryd.prog) w 9 38 5 t Tryd.underlying9 Tryd.underlying38 Tryd.underlying5
  refine ⟨_, _, hr, ?_, ?_, ?_⟩
  · exact grownCap_ge _ _ _ _
  · refine ⟨rfl, ?_, rfl, by rw [Lib.bytesWorld_size]; omega, fun k hk => Lib.bytesWorld_at_old w 5 t k hk⟩
    rfl
  · refine ⟨_, _, Lib.bytesWorld_at_new w 5 t, ?_, fun j hj => ?_⟩
    · rw [byt_length]; simp [Lib.bytesCells]
    · rw [byt_length] at hj
      have := Lib.bytesWorld_cell w 5 t j hj
      have h3 : (Lib.bytesCells w 5 t)[j]? = some (Value.int .u8 ((t.data.toList.getD j 0).toNat : Nat)) := by simpa [World.cell?, Lib.bytesWorld_at_new] using this
      rw [h3]
      have h' : j < t.data.toList.length := by rw [Array.length_toList]; exact hj
      simp only [byt, List.getD, List.getElem?_map, List.getElem?_eq_getElem h']
      rfl
theorem low_set (l : List Nat) (k : Nat) (h : k < l.length) : (low (l.take k) ++ l.drop k).set k (lo (l.getD k 0)) = low (l.take (k + 1)) ++ l.drop (k + 1) := by
  rw [List.set_append_right _ _ (by rw [low_length, List.length_take]; omega), low_length, List.length_take, Nat.min_eq_left (by omega), Nat.sub_self, drop_getD (d := 0) h, List.set_cons_zero, low_snoc l k h, List.append_assoc]
  rfl
theorem low_same (l : List Nat) (k : Nat) (h : k < l.length) (hc : lo (l.getD k 0) = l.getD k 0) : low (l.take k) ++ l.drop k = low (l.take (k + 1)) ++ l.drop (k + 1) := by
  rw [drop_getD (d := 0) h, low_snoc l k h, hc, List.append_assoc]
  rfl
theorem mid_getD (l : List Nat) (k : Nat) (h : k < l.length) : (low (l.take k) ++ l.drop k).getD k 0 = l.getD k 0 := by
  rw [List.getD, List.getElem?_append_right (by rw [low_length, List.length_take]; omega), low_length, List.length_take, Nat.min_eq_left (by omega), Nat.sub_self, List.getElem?_drop, Nat.add_zero]; rfl
theorem mid_len (l : List Nat) (k : Nat) : (low (l.take k) ++ l.drop k).length = l.length := by
  rw [List.length_append, low_length, List.length_take, List.length_drop]; omega

theorem lo_ok (c : Nat) : okR (lo c) = lb c := by
  unfold okR lb lo dig
  by_cases h : 65 ≤ c ∧ c ≤ 90
  · rw [if_pos h]
    have e1 : decide (97 ≤ c + 32) = true := decide_eq_true (by omega)
    have e2 : decide (c + 32 ≤ 122) = true := decide_eq_true (by omega)
    have e3 : decide (65 ≤ c) = true := decide_eq_true h.1
    have e4 : decide (c ≤ 90) = true := decide_eq_true h.2
    simp [e1, e2, e3, e4]
  · rw [if_neg h]
    have : (decide (65 ≤ c) && decide (c ≤ 90)) = false := by simp; omega
    simp [this]
theorem lo_45 (c : Nat) : lo c = 45 ↔ c = 45 := by unfold lo; split <;> omega
theorem low_getD (l : List Nat) (i : Nat) (h : i < l.length) : (low l).getD i 0 = lo (l.getD i 0) := by
  simp [low, List.getD, h]
theorem lab_low (p : List Nat) : labR (low p) = labB p := by
  have key : labR (low p) = true ↔ isLab p := by
    unfold labR isLab
    simp only [Bool.and_eq_true, decide_eq_true_eq, Bool.not_eq_true', decide_eq_false_iff_not, low_length]
    constructor
    · rintro ⟨⟨⟨⟨h1, h2⟩, h3⟩, h4⟩, h5⟩
      have hp : 0 < p.length := by
        rcases Nat.eq_zero_or_pos p.length with e | e
        · exact absurd (List.eq_nil_of_length_eq_zero (by rw [low_length]; exact e)) h1
        · exact e
      refine ⟨hp, h2, fun i hi => ?_⟩
      rw [low_getD p 0 hp, lo_45] at h3
      rw [low_getD p (p.length - 1) (by omega), lo_45] at h4
      have h6 := List.all_eq_true.1 h5 (lo (p.getD i 0)) (by rw [← low_getD p i hi]; exact getD_mem (by rw [low_length]; exact hi))
      rw [lo_ok] at h6
      unfold lbAt
      rw [h6]
      simp only [Bool.true_and, Bool.or_eq_true, Bool.not_eq_true', decide_eq_false_iff_not, Bool.and_eq_true, decide_eq_true_eq]
      by_cases h45 : p.getD i 0 = 45
      · right
        refine ⟨?_, ?_⟩
        · rcases Nat.eq_zero_or_pos i with e | e
          · rw [e] at h45; exact absurd h45 h3
          · exact e
        · rcases Nat.lt_or_ge (i + 1) p.length with e | e
          · exact e
          · rw [show i = p.length - 1 by omega] at h45; exact absurd h45 h4
      · left; exact h45
    · rintro ⟨h1, h2, h3⟩
      have g : ∀ i, i < p.length → lb (p.getD i 0) = true := fun i hi => by
        have := h3 i hi
        unfold lbAt at this
        simp only [Bool.and_eq_true] at this
        exact this.1
      have d : ∀ i, i < p.length → p.getD i 0 = 45 → 0 < i ∧ i + 1 < p.length := fun i hi e => by
        have := h3 i hi
        unfold lbAt at this
        simp only [Bool.and_eq_true, Bool.or_eq_true, Bool.not_eq_true', decide_eq_false_iff_not, decide_eq_true_eq] at this
        rcases this.2 with h | h
        · exact absurd e h
        · exact h
      refine ⟨⟨⟨⟨fun e => ?_, h2⟩, fun e => ?_⟩, fun e => ?_⟩, ?_⟩
      · have := congrArg List.length e
        rw [low_length] at this
        simp at this
        rw [this] at h1
        simp at h1
      · rw [low_getD p 0 (by omega), lo_45] at e
        have := d 0 (by omega) e
        omega
      · rw [low_getD p (p.length - 1) (by omega), lo_45] at e
        have := d (p.length - 1) (by omega) e
        omega
      · rw [List.all_eq_true]
        intro x hx
        simp only [low, List.mem_map] at hx
        obtain ⟨c, hc, rfl⟩ := hx
        rw [lo_ok]
        obtain ⟨i, hi, rfl⟩ := List.getElem_of_mem hc
        have := g i hi
        rw [List.getD, List.getElem?_eq_getElem hi] at this
        exact this
  cases h : labB p with
  | true => exact key.2 ((labB_iff p).1 h)
  | false =>
    cases h2 : labR (low p) with
    | false => rfl
    | true =>
      have := (labB_iff p).2 (key.1 h2)
      rw [h] at this; cases this
theorem dig_lo (c : Nat) : dig (lo c) = dig c := by
  unfold lo
  split
  · rename_i h
    have e1 : dig (c + 32) = false := by simp [dig]; omega
    have e2 : dig c = false := by simp [dig]; omega
    rw [e1, e2]
  · rfl
theorem all_low (p : List Nat) : (low p).all dig = p.all dig := by
  unfold low
  rw [List.all_map]
  congr 1
  funext c
  exact dig_lo c
theorem beg_low : ∀ (ps : List (List Nat)) (a : Nat), beg a (ps.map low) = beg a ps
  | [], _ => rfl
  | p :: r, a => by simp only [List.map_cons, beg, low_length, beg_low r]
theorem beg_last : ∀ (ps : List (List Nat)) (a : Nat), ps ≠ [] → (beg a ps).getD (ps.length - 1) 0 + (ps.getD (ps.length - 1) []).length = a + (jn ps).length
  | [], _, h => absurd rfl h
  | [p], a, _ => by simp [beg, jn]
  | p :: q :: r, a, _ => by
    have ih := beg_last (q :: r) (a + p.length + 1) (by simp)
    simp only [List.length_cons, Nat.add_sub_cancel, beg, jn] at ih ⊢
    simp only [List.getD_cons_succ, List.length_append, List.length_cons] at ih ⊢
    omega
theorem map_getD (ps : List (List Nat)) (k : Nat) (h : k < ps.length) : (ps.map low).getD k [] = low (ps.getD k []) := by
  simp [List.getD, h]
theorem low_lt {p : List Nat} (h : ∀ x ∈ p, x < 256) : ∀ x ∈ low p, x < 256 := by
  intro x hx
  simp only [low, List.mem_map] at hx
  obtain ⟨c, hc, rfl⟩ := hx
  exact lo_lt (h c hc)
theorem labs_at : ∀ (ps : List (List Nat)) (a k : Nat), k < ps.length → (∀ j, j < k → labB (ps.getD j []) = true) → labB (ps.getD k []) = false → labs a ps = some ((beg a ps).getD k 0)
  | [], _, k, h, _, _ => by simp at h
  | p :: r, a, 0, _, _, h => by
    simp at h
    unfold labs
    rw [if_neg (by simp [h])]; rfl
  | p :: r, a, k + 1, hk, hj, h => by
    have h0 := hj 0 (by omega)
    simp at h0
    unfold labs
    rw [if_pos h0]
    have := labs_at r (a + p.length + 1) k (by simpa using hk) (fun j hjk => by have := hj (j + 1) (by omega); simpa using this) (by simpa using h)
    rw [this]; simp [beg]
theorem labs_all : ∀ (ps : List (List Nat)) (a : Nat), (∀ p ∈ ps, labB p = true) → labs a ps = none
  | [], _, _ => rfl
  | p :: r, a, h => by
    unfold labs
    rw [if_pos (h p (by simp))]
    exact labs_all r _ fun q hq => h q (by simp [hq])
theorem res_tmp_cell {P : Program} {fn : Func} {u q : Tmp} {ty2 : TypeId} (h : fn.results = #[.tmp u, .cell q ty2]) (tmps : Array Value) (w : World)
    (g2 : Nat) (t2 : TypeId) (cs2 : Array Value) (fr2 : Nat × Nat) (d2 : TypeDesc)
    (hp2 : tmps.getD q undef = .pointer (some ⟨g2, 0, none⟩)) (hg2 : w.heap[g2]? = some (.cells cs2 t2 fr2))
    (hu2 : P.underlying ty2 = some d2) (hd2 : (match d2 with | .struct _ | .array _ _ => true | _ => false) = true) (hi2 : (P.info? ty2).map (·.size) = some cs2.size) :
    (results fn tmps).run P w = .ok (.tuple #[tmps.getD u undef, .agg cs2]) w := by
  have hp2' : tmps[q]?.getD undef = .pointer (some ⟨g2, 0, none⟩) := by simpa using hp2
  simp only [results, h]
  simp [Sem.run_bind, Result.andThen, hp2', asAddr, run_loadVar_row w g2 t2 ty2 cs2 fr2 d2 hg2 hu2 hd2 hi2]
theorem beg_le : ∀ (ps : List (List Nat)) (a N : Nat), (∀ p ∈ ps, p.length ≤ N) → ∀ k, k < ps.length → a + ps.length * (N + 1) ≤ 100000 → (beg a ps).getD k 0 ≤ 100000
  | [], _, _, _, k, h, _ => by simp at h
  | p :: r, a, N, hp, 0, _, h => by
    simp [beg]; simp at h; omega
  | p :: r, a, N, hp, k + 1, hk, h => by
    have h1 := hp p (by simp)
    have := beg_le r (a + p.length + 1) N (fun q hq => hp q (by simp [hq])) k (by simpa using hk) (by
      rw [List.length_cons, Nat.add_mul] at h; omega)
    simpa [beg] using this

end Go.Proofs.YtabkelhipmijfaaDoor
