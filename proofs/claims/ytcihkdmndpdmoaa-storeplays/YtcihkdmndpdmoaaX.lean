/-
  A store of the reference in memory; conditions as each theorem has them.
-/
import Derived.Test.YtcihkdmndpdmoaaI
set_option linter.unusedSimpArgs false
set_option linter.unusedVariables false
namespace Go.Proofs.Ytcihkdmndpdmoaa
open Go.RowKit
/-- The reference's entries as they lie in memory, V: where their bytes are. -/
def enC (s : Sl) (v : Value) : List Value := [.string s.key, v, .int .i64 s.at_, .int .i64 s.age, .bool s.asked]
def rflat (L : List Sl) (V : Nat → Value) : Nat → List Value
  | 0 => []
  | n + 1 => rflat L V n ++ enC (at0 L n) (V n)
theorem rflat_length (L : List Sl) (V : Nat → Value) : ∀ n, (rflat L V n).length = 5 * n
  | 0 => rfl
  | n + 1 => by simp only [rflat, List.length_append, rflat_length L V n, enC, List.length_cons, List.length_nil]; omega
theorem rflat_at (L : List Sl) (V : Nat → Value) : ∀ n i, i < n → ∀ j, j < 5 → (rflat L V n)[i * 5 + j]? = (enC (at0 L i) (V i))[j]?
  | 0, i, h, _, _ => by omega
  | n + 1, i, h, j, hj => by
    have hl := rflat_length L V n
    rcases Nat.lt_or_ge i n with h1 | h1
    · have := rflat_at L V n i h1 j hj
      simp only [rflat]
      rw [List.getElem?_append_left (by omega)]
      exact this
    · obtain rfl : i = n := by omega
      simp only [rflat]
      rw [List.getElem?_append_right (by omega), hl]
      rw [show i * 5 + j - 5 * i = j by omega]
theorem rflat_congr {L K : List Sl} {V U : Nat → Value} : ∀ n, (∀ i, i < n → at0 L i = at0 K i ∧ V i = U i) → rflat L V n = rflat K U n
  | 0, _ => rfl
  | n + 1, h => by
    simp only [rflat]
    rw [rflat_congr n (fun i hi => h i (by omega)), (h n (by omega)).1, (h n (by omega)).2]
def upd (V : Nat → Value) (i : Nat) (v : Value) : Nat → Value := fun j => if j = i then v else V j
theorem upd_same (V : Nat → Value) (i : Nat) : upd V i (V i) = V := by
  funext j
  unfold upd
  split
  · rename_i h; rw [h]
  · rfl
theorem rflat_set (L : List Sl) (V : Nat → Value) (x : Sl) (v : Value) (i : Nat) (hi : i < L.length) : ∀ n, i < n → (rflat L V n).take (i * 5) ++ enC x v ++ (rflat L V n).drop (i * 5 + 5) = rflat (L.set i x) (upd V i v) n
  | 0, h => by omega
  | n + 1, h => by
    have hl := rflat_length L V n
    rcases Nat.lt_or_ge i n with h1 | h1
    · have ih := rflat_set L V x v i hi n h1
      simp only [rflat]
      rw [List.take_append_of_le_length (by omega), List.drop_append_of_le_length (by omega), ← List.append_assoc, ih, at0_set x hi, if_neg (by omega)]
      unfold upd
      rw [if_neg (by omega)]
    · obtain rfl : i = n := by omega
      simp only [rflat]
      rw [List.take_append_of_le_length (by omega), List.take_of_length_le (by omega), List.drop_of_length_le (by simp [hl, enC]; omega), List.append_nil, at0_set x hi, if_pos rfl]
      unfold upd
      rw [if_pos rfl]
      congr 1
      exact rflat_congr _ (fun j hj => ⟨by rw [at0_set x hi, if_neg (by omega)], by rw [if_neg (by omega)]⟩)
theorem rflat_asked (L : List Sl) (V : Nat → Value) (i n : Nat) (hi : i < L.length) (hn : i < n) (b : Bool) : (rflat L V n).set (i * 5 + 4) (.bool b) = rflat (L.set i { at0 L i with asked := b }) V n := by
  have hl := rflat_length L V n
  have h1 := rflat_set L V { at0 L i with asked := b } (V i) i hi n hn
  rw [upd_same] at h1
  rw [← h1]
  apply List.ext_getElem?
  intro k
  rw [List.getElem?_set]
  have hlt : i * 5 + 5 ≤ 5 * n := by omega
  have hlen : ((rflat L V n).take (i * 5)).length = i * 5 := by rw [List.length_take, hl]; omega
  by_cases hk : i * 5 + 4 = k
  · subst hk
    rw [if_pos rfl, if_pos (by omega), List.append_assoc, List.getElem?_append_right (by omega), hlen, show i * 5 + 4 - i * 5 = 4 by omega]
    rfl
  · rw [if_neg hk]
    by_cases h2 : k < i * 5
    · rw [List.append_assoc, List.getElem?_append_left (by omega), List.getElem?_take, if_pos h2]
    · by_cases h3 : k < i * 5 + 5
      · rw [List.append_assoc, List.getElem?_append_right (by omega), hlen, List.getElem?_append_left (by simp [enC]; omega)]
        have := rflat_at L V n i hn (k - i * 5) (by omega)
        rw [show i * 5 + (k - i * 5) = k by omega] at this
        rw [this]
        have h4 : k - i * 5 = 0 ∨ k - i * 5 = 1 ∨ k - i * 5 = 2 ∨ k - i * 5 = 3 := by omega
        rcases h4 with h4 | h4 | h4 | h4 <;> rw [h4] <;> rfl
      · rw [List.getElem?_append_right (by rw [List.length_append, hlen]; simp [enC]; omega), List.getElem?_drop, List.length_append, hlen]
        congr 1
        simp [enC]
        omega
theorem enC_one {s : Sl} {v : Value} (hv : v.oneCell' = true) : ∀ u ∈ enC s v, u.oneCell' = true := by
  intro u hu
  simp [enC] at hu
  rcases hu with rfl | rfl | rfl | rfl | rfl
  · rfl
  · exact hv
  · rfl
  · rfl
  · rfl
theorem Own.one {w : World} {B : Nat} {e : TypeId} {v : Value} {l : List Value} (h : Own w B e v l) : v.oneCell' = true := by
  rcases h.2 with ⟨rfl, _⟩ | ⟨x, cap, cur, rfl, _⟩ <;> rfl
theorem Own.ltB {w : World} {B : Nat} {e : TypeId} {v : Value} {l : List Value} (h : Own w B e v l) {g : Nat} (hg : v.ownBlock = some g) : g < w.heap.size := by
  obtain ⟨_, cur, hh⟩ := h.block hg
  exact lt_of_some hh
theorem Own.low {w : World} {B : Nat} {e : TypeId} {v : Value} {l : List Value} (h : Own w B e v l) : Own w 0 e v l := by
  refine ⟨h.1, ?_⟩
  rcases h.2 with h0 | ⟨x, cap, cur, hv, hx, rest⟩
  · exact Or.inl h0
  · exact Or.inr ⟨x, cap, cur, hv, Nat.zero_le _, rest⟩
abbrev byV (w : World) (v : Value) (t : ByteArray) : Prop := Own w 0 5 v (nums .u8 (byt t))
def rhd (K h n g : Nat) : Obj := .cells #[.int .i64 (K : Nat), .int .i64 (h : Nat), .slice (some ⟨g, 0, none⟩) n n] 44
/-- The reference's store: its head in block r, its entries in block g, the bytes' blocks not x. -/
structure RT (x : Nat) (w : World) (r g K : Nat) (L : List Sl) (h : Nat) : Prop where
  head : w.heap[r]? = some (rhd K h L.length g)
  inv : Inv K L h
  body : ∃ V : Nat → Value, w.heap[g]? = some (.cells (rflat L V L.length).toArray 67) ∧ ∀ i, i < L.length → byV w (V i) (at0 L i).bs ∧ (V i).ownBlock ≠ some x
theorem RT.lt {x : Nat} {w : World} {r g K h : Nat} {L : List Sl} (t : RT x w r g K L h) : r < w.heap.size ∧ g < w.heap.size := by
  obtain ⟨V, hg, _⟩ := t.body
  exact ⟨lt_of_some t.head, lt_of_some hg⟩
theorem RT.below {x : Nat} {w w' : World} {r g K h : Nat} {L : List Sl} (t : RT x w r g K L h) (k : Below w.heap.size w w') : RT x w' r g K L h := by
  obtain ⟨V, hg, hV⟩ := t.body
  exact ⟨(k.block r t.lt.1).trans t.head, t.inv, V, (k.block g t.lt.2).trans hg, fun i hi => ⟨(hV i hi).1.below k, (hV i hi).2⟩⟩
/-- What is written to a block of another kind, or to x, is not the store's. -/
theorem RT.kept {x : Nat} {w w' : World} {r g K h b : Nat} {L : List Sl} (t : RT x w r g K L h) (hb : b = x ∨ ∃ cs e, w.heap[b]? = some (.cells cs e) ∧ e ≠ 5) (hr : b ≠ r) (hg : b ≠ g) (k : Kept b b w w') : RT x w' r g K L h := by
  obtain ⟨V, hgg, hV⟩ := t.body
  refine ⟨(k.block r t.lt.1 hr.symm hr.symm).trans t.head, t.inv, V, (k.block g t.lt.2 hg.symm hg.symm).trans hgg, fun i hi => ⟨(hV i hi).1.keep fun y hy => ?_, (hV i hi).2⟩⟩
  have hne : y ≠ b := by
    rcases hb with rfl | ⟨cs, e, hcs, he⟩
    · intro e; subst e; exact (hV i hi).2 hy
    · intro e'
      subst e'
      obtain ⟨_, cur, hh⟩ := (hV i hi).1.block hy
      rw [hcs] at hh
      simp at hh
      exact he hh.2
  exact k.block y ((hV i hi).1.ltB hy) hne hne
theorem RT.new {x x' : Nat} {w : World} {r g K h : Nat} {L : List Sl} (t : RT x w r g K L h) (hx : w.heap.size ≤ x') : RT x' w r g K L h := by
  obtain ⟨V, hg, hV⟩ := t.body
  exact ⟨t.head, t.inv, V, hg, fun i hi => ⟨(hV i hi).1, fun e => by have := (hV i hi).1.ltB e; omega⟩⟩
theorem RT.cellR {x : Nat} {w : World} {r g K h : Nat} {L : List Sl} (t : RT x w r g K L h) : w.cell? ⟨r, 0, none⟩ = some (.int .i64 (K : Nat)) ∧ w.cell? ⟨r, 1, none⟩ = some (.int .i64 (h : Nat)) ∧ w.cell? ⟨r, 2, none⟩ = some (.slice (some ⟨g, 0, none⟩) L.length L.length) := by
  have := t.head
  unfold rhd at this
  refine ⟨?_, ?_, ?_⟩ <;> simp [World.cell?, this]
theorem RT.frozen {x : Nat} {w : World} {r g K h : Nat} {L : List Sl} (t : RT x w r g K L h) (o : Nat) : w.frozen? ⟨r, o, none⟩ = false ∧ w.frozen? ⟨g, o, none⟩ = false := by
  have h1 := t.head
  unfold rhd at h1
  obtain ⟨V, hg, _⟩ := t.body
  exact ⟨by simp [World.frozen?, h1], by simp [World.frozen?, hg]⟩
theorem RT.cells {x : Nat} {w : World} {r g K h : Nat} {L : List Sl} (t : RT x w r g K L h) {i : Nat} (hi : i < L.length) : ∃ v, w.cell? ⟨g, i * 5, none⟩ = some (.string (at0 L i).key) ∧ w.cell? ⟨g, i * 5 + 1, none⟩ = some v ∧ w.cell? ⟨g, i * 5 + 2, none⟩ = some (.int .i64 (at0 L i).at_) ∧ w.cell? ⟨g, i * 5 + 3, none⟩ = some (.int .i64 (at0 L i).age) ∧ w.cell? ⟨g, i * 5 + 4, none⟩ = some (.bool (at0 L i).asked) ∧ byV w v (at0 L i).bs ∧ v.ownBlock ≠ some x := by
  obtain ⟨V, hg, hV⟩ := t.body
  have f (j : Nat) (hj : j < 5) : w.cell? ⟨g, i * 5 + j, none⟩ = (enC (at0 L i) (V i))[j]? := by
    have := rflat_at L V L.length i hi j hj
    simp only [World.cell?, hg]
    simpa using this
  exact ⟨V i, f 0 (by omega), f 1 (by omega), f 2 (by omega), f 3 (by omega), f 4 (by omega), (hV i hi).1, (hV i hi).2⟩
theorem infoE : (Try.prog.info? 67).map (·.size) = some 5 := by kernel_rfl
theorem RT.ne {x : Nat} {w : World} {r g K h : Nat} {L : List Sl} (t : RT x w r g K L h) : r ≠ g := by
  obtain ⟨V, hg, _⟩ := t.body
  intro e; subst e
  have := t.head
  rw [hg] at this
  simp [rhd] at this
theorem RT.apart {x : Nat} {w : World} {r g K h : Nat} {L : List Sl} (t : RT x w r g K L h) {u : Value} {l : List Value} (hu : Own w 0 5 u l) : u.ownBlock ≠ some r ∧ u.ownBlock ≠ some g := by
  obtain ⟨V, hg, _⟩ := t.body
  constructor
  · intro e
    obtain ⟨_, cur, hh⟩ := hu.block e
    rw [t.head] at hh
    simp [rhd] at hh
  · intro e
    obtain ⟨_, cur, hh⟩ := hu.block e
    rw [hg] at hh
    simp at hh
/-- An entry is put. -/
theorem RT.store {x : Nat} {w w1 : World} {r g K h : Nat} {L : List Sl} (t : RT x w r g K L h) (k : Below w.heap.size w w1) (i : Nat) (hi : i < L.length) (s : Sl) (hI : Inv K (L.set i s) h) (v : Value) (hv : byV w1 v s.bs) (hx : v.ownBlock ≠ some x) :
    ∃ w2, (Instr.storeAt 67 (.pointer (some ⟨g, i * 5, none⟩)) (.agg (enC s v).toArray)).run Try.prog w1 = .ok () w2 ∧ RT x w2 r g K (L.set i s) h ∧ Kept g g w w2 := by
  have h1 := t.below k
  have hrg := h1.ne
  obtain ⟨V, hg, hV⟩ := h1.body
  have hl := rflat_length L V L.length
  have hst := run_storeCells_at Try.prog g (i * 5) 67 (enC s v) 0 (rflat L V L.length).toArray w1 hg (by simp [hl, enC]; omega) (enC_one hv.one)
  obtain ⟨inf, hinf, hz⟩ := Option.map_eq_some_iff.1 infoE
  rw [Nat.add_zero, List.toList_toArray, show (enC s v).length = 5 from rfl, rflat_set L V s v i hi L.length hi] at hst
  refine ⟨w1.setRow g (rflat (L.set i s) (upd V i v) L.length).toArray, ?_, ⟨?_, hI, upd V i v, ?_, fun j hj => ?_⟩, (Kept.of_below k).setRow (Or.inl rfl) _⟩
  · have e3 : (enC s v).toArray.size = 5 := rfl
    simp [Instr.storeAt, Instr.sureAddr, storeVar, sizeOf, typeInfo, hinf, hz, Value.cells, hst, show (enC s v).length = 5 from rfl]
  · rw [setRow_other _ _ _ _ hrg, List.length_set]; exact h1.head
  · rw [List.length_set]; exact setRow_heap _ _ _ _ 67 (0, 0) hg
  · rw [List.length_set] at hj
    rw [at0_set s hi]
    unfold upd
    have key : ∀ (u : Value) (l : List Value), Own w1 0 5 u l → Own (w1.setRow g (rflat (L.set i s) (upd V i v) L.length).toArray) 0 5 u l := fun u l hu => hu.keep fun y hy => setRow_other _ _ _ _ (by
      intro e; subst e
      exact (h1.apart hu).2 hy)
    by_cases hji : j = i
    · rw [if_pos hji, if_pos hji]; exact ⟨key _ _ hv, hx⟩
    · rw [if_neg hji, if_neg hji]; exact ⟨key _ _ (hV j hj).1, (hV j hj).2⟩
/-- Whether an entry was asked for is told. -/
theorem RT.ask {x : Nat} {w : World} {r g K h : Nat} {L : List Sl} (t : RT x w r g K L h) {i : Nat} (hi : i < L.length) (b : Bool) (hI : Inv K (L.set i { at0 L i with asked := b }) h) : RT x (w.setCell ⟨g, i * 5 + 4, none⟩ (.bool b)) r g K (L.set i { at0 L i with asked := b }) h := by
  have hrg := t.ne
  obtain ⟨V, hg, hV⟩ := t.body
  refine ⟨?_, hI, V, ?_, fun j hj => ?_⟩
  · rw [heap_setCell_other _ _ _ _ hrg, List.length_set]; exact t.head
  · rw [heap_setCell_same hg, List.length_set]
    congr 2
    rw [← rflat_asked L V i L.length hi hi b]
    simp
  · rw [List.length_set] at hj
    rw [at0_set _ hi]
    have hbs : (if j = i then ({ at0 L i with asked := b } : Sl) else at0 L j).bs = (at0 L j).bs := by
      split
      · rename_i e; rw [e]
      · rfl
    rw [hbs]
    exact ⟨(hV j hj).1.keep fun y hy => heap_setCell_other _ _ _ _ (by intro e; subst e; exact (t.apart (hV j hj).1).2 hy), (hV j hj).2⟩
/-- The hand goes on. -/
theorem RT.go {x : Nat} {w : World} {r g K h : Nat} {L : List Sl} (t : RT x w r g K L h) (h' : Nat) (hI : Inv K L h') : RT x (w.setCell ⟨r, 1, none⟩ (.int .i64 (h' : Nat))) r g K L h' := by
  have hrg := t.ne
  obtain ⟨V, hg, hV⟩ := t.body
  refine ⟨?_, hI, V, ?_, fun j hj => ?_⟩
  · rw [heap_setCell_same t.head]; rfl
  · rw [heap_setCell_other _ _ _ _ hrg.symm]; exact hg
  · exact ⟨(hV j hj).1.keep fun y hy => heap_setCell_other _ _ _ _ (by intro e; subst e; exact (t.apart (hV j hj).1).1 hy), (hV j hj).2⟩
end Go.Proofs.Ytcihkdmndpdmoaa
