/-
  Slots as they lie in memory, a store in memory, and the leaf functions of package store; conditions as each theorem has them.
-/
import Derived.Test.YtcihkdmndpdmoaaA
set_option linter.unusedSimpArgs false
set_option linter.unusedVariables false
namespace Go.Proofs.Ytcihkdmndpdmoaa
open Go.RowKit

/-- A slot as it lies in memory. -/
def slC (s : Sl) : List Value := [.string s.key, .string s.bs, .int .i64 s.at_, .int .i64 s.age, .bool s.asked]
theorem slC_length (s : Sl) : (slC s).length = 5 := rfl
theorem slC_one (s : Sl) : ∀ v ∈ slC s, v.oneCell' = true := by
  intro v hv
  simp only [slC, List.mem_cons, List.not_mem_nil, or_false] at hv
  rcases hv with rfl | rfl | rfl | rfl | rfl <;> rfl
/-- Slots as they lie in memory. -/
def flat (L : List Sl) : List Value := L.flatMap slC
theorem flat_cons (s : Sl) (L : List Sl) : flat (s :: L) = slC s ++ flat L := rfl
theorem flat_append (L K : List Sl) : flat (L ++ K) = flat L ++ flat K := by simp [flat]
theorem flat_length : ∀ (L : List Sl), (flat L).length = 5 * L.length
  | [] => rfl
  | s :: L => by rw [flat_cons, List.length_append, slC_length, flat_length L, List.length_cons]; omega
theorem flat_at : ∀ (L : List Sl) (i : Nat) (s : Sl), L[i]? = some s → ∀ j, j < 5 → (flat L)[i * 5 + j]? = (slC s)[j]?
  | [], i, s, hs, j, hj => by simp at hs
  | x :: L, 0, s, hs, j, hj => by
    simp at hs
    subst hs
    rw [flat_cons, List.getElem?_append_left (by rw [slC_length]; omega)]
    simp
  | x :: L, i + 1, s, hs, j, hj => by
    rw [flat_cons, List.getElem?_append_right (by rw [slC_length]; omega), slC_length, show (i + 1) * 5 + j - 5 = i * 5 + j by omega]
    exact flat_at L i s (by simpa using hs) j hj
theorem flat_set {L : List Sl} {i : Nat} (hi : i < L.length) (x : Sl) : (flat L).take (i * 5) ++ slC x ++ (flat L).drop (i * 5 + 5) = flat (L.set i x) := by
  have e : L = L.take i ++ [at0 L i] ++ L.drop (i + 1) := by
    conv => lhs; rw [← List.take_append_drop i L, List.drop_eq_getElem_cons hi]
    simp [at0, hi]
  have l1 : (flat (L.take i)).length = i * 5 := by rw [flat_length]; simp; omega
  have l2 : (slC (at0 L i)).length = 5 := rfl
  have e1 : (flat L).take (i * 5) = flat (L.take i) := by
    conv => lhs; rw [e]
    rw [flat_append, flat_append, List.append_assoc, List.take_append_of_le_length (by omega), List.take_of_length_le (by omega)]
  have e2 : (flat L).drop (i * 5 + 5) = flat (L.drop (i + 1)) := by
    conv => lhs; rw [e]
    rw [flat_append, flat_append, List.drop_append, List.drop_of_length_le (by simp [flat, l1] at *; omega)]
    simp only [List.length_append, l1]
    rw [show (flat [at0 L i]).length = 5 by simpa [flat] using l2]
    simp
  rw [e1, e2, List.set_eq_take_append_cons_drop, if_pos hi, flat_append, flat_cons, List.append_assoc]
theorem flat_one (L : List Sl) : ∀ v ∈ flat L, v.oneCell' = true := by
  intro v hv
  simp only [flat, List.mem_flatMap] at hv
  obtain ⟨s, _, hs⟩ := hv
  exact slC_one s v hs
theorem set_cell (l : List Value) (k : Nat) (v : Value) (hk : k < l.length) : l.set k v = l.take k ++ [v] ++ l.drop (k + 1) := by
  rw [List.set_eq_take_append_cons_drop, if_pos hk]; simp
/-- One cell of a slot is turned. -/
theorem flat_asked {L : List Sl} {i : Nat} (hi : i < L.length) (b : Bool) : (flat L).set (i * 5 + 4) (.bool b) = flat (L.set i { at0 L i with asked := b }) := by
  rw [← flat_set hi]
  have h0 := flat_at L i _ (get_at0 hi)
  have hl := flat_length L
  apply List.ext_getElem?
  intro k
  rw [List.getElem?_set]
  rcases Nat.lt_or_ge k (i * 5) with h1 | h1
  · rw [if_neg (by omega), List.append_assoc, List.getElem?_append_left (by rw [List.length_take]; omega), List.getElem?_take, if_pos h1]
  · rcases Nat.lt_or_ge k (i * 5 + 5) with h2 | h2
    · obtain ⟨j, rfl⟩ : ∃ j, k = i * 5 + j := ⟨k - i * 5, by omega⟩
      rw [List.append_assoc, List.getElem?_append_right (by rw [List.length_take]; omega), List.length_take, Nat.min_eq_left (by omega), List.getElem?_append_left (by rw [slC_length]; omega), h0 j (by omega)]
      rw [show i * 5 + j - i * 5 = j by omega]
      have hj : j = 0 ∨ j = 1 ∨ j = 2 ∨ j = 3 ∨ j = 4 := by omega
      rcases hj with rfl | rfl | rfl | rfl | rfl
      · rw [if_neg (by omega)]; rfl
      · rw [if_neg (by omega)]; rfl
      · rw [if_neg (by omega)]; rfl
      · rw [if_neg (by omega)]; rfl
      · rw [if_pos rfl, if_pos (by omega)]; rfl
    · rw [if_neg (by omega), List.getElem?_append_right (by rw [List.length_append, List.length_take, slC_length]; omega), List.length_append, List.length_take, slC_length, Nat.min_eq_left (by omega), List.getElem?_drop]
      congr 1
      omega

def thd (K h n g : Nat) : Obj := .cells #[.bool true, .int .i64 (K : Nat), .int .i64 (h : Nat), .slice (some ⟨g, 0, none⟩) n n] 57
theorem thd_cells {w : World} {r K h n g : Nat} (e : w.heap[r]? = some (thd K h n g)) : w.cell? ⟨r, 0, none⟩ = some (.bool true) ∧ w.cell? ⟨r, 1, none⟩ = some (.int .i64 (K : Nat)) ∧ w.cell? ⟨r, 2, none⟩ = some (.int .i64 (h : Nat)) ∧ w.cell? ⟨r, 3, none⟩ = some (.slice (some ⟨g, 0, none⟩) n n) := by
  unfold thd at e
  simp [World.cell?, e]
theorem thd_hand {w : World} {r K h n g : Nat} (e : w.heap[r]? = some (thd K h n g)) (k : Nat) : (w.setCell ⟨r, 2, none⟩ (.int .i64 (k : Nat))).heap[r]? = some (thd K k n g) := by
  unfold thd at e ⊢
  rw [heap_setCell_same e]
  rfl

/-- The slots L in block g. -/
def Row (w : World) (g : Nat) (L : List Sl) : Prop := w.heap[g]? = some (.cells (flat L).toArray 62)
theorem Row.cell {w : World} {g : Nat} {L : List Sl} (h : Row w g L) {i : Nat} {s : Sl} (hs : L[i]? = some s) {j : Nat} (hj : j < 5) : w.cell? ⟨g, i * 5 + j, none⟩ = (slC s)[j]? := by
  have := flat_at L i s hs j hj
  unfold Row at h
  simpa [World.cell?, h] using this
theorem Row.cells {w : World} {g : Nat} {L : List Sl} (h : Row w g L) {i : Nat} {s : Sl} (hs : L[i]? = some s) :
    w.cell? ⟨g, i * 5, none⟩ = some (.string s.key) ∧ w.cell? ⟨g, i * 5 + 1, none⟩ = some (.string s.bs) ∧ w.cell? ⟨g, i * 5 + 2, none⟩ = some (.int .i64 s.at_) ∧ w.cell? ⟨g, i * 5 + 3, none⟩ = some (.int .i64 s.age) ∧ w.cell? ⟨g, i * 5 + 4, none⟩ = some (.bool s.asked) :=
  ⟨h.cell hs (j := 0) (by omega), h.cell hs (j := 1) (by omega), h.cell hs (j := 2) (by omega), h.cell hs (j := 3) (by omega), h.cell hs (j := 4) (by omega)⟩
theorem Row.frozen {w : World} {g : Nat} {L : List Sl} (h : Row w g L) (o : Nat) : w.frozen? ⟨g, o, none⟩ = false := by
  unfold Row at h
  simp [World.frozen?, h]
theorem Row.below {w w' : World} {g : Nat} {L : List Sl} (h : Row w g L) (k : Below w.heap.size w w') : Row w' g L := (k.block g (lt_of_some h)).trans h
theorem Row.asked {w : World} {g : Nat} {L : List Sl} (h : Row w g L) {i : Nat} (hi : i < L.length) (b : Bool) : Row (w.setCell ⟨g, i * 5 + 4, none⟩ (.bool b)) g (L.set i { at0 L i with asked := b }) := by
  unfold Row at h ⊢
  rw [heap_setCell_same h, ← flat_asked hi]
  simp
theorem Row.set {w : World} {g : Nat} {L : List Sl} (h : Row w g L) {i : Nat} (hi : i < L.length) (x : Sl) : Row (w.setRow g ((flat L).take (i * 5) ++ slC x ++ (flat L).drop (i * 5 + 5)).toArray) g (L.set i x) := by
  rw [flat_set hi x]
  exact setRow_heap w g _ _ 62 (0, 0) h

/-- A store that New made: its head in block r, its slots L in block g, its hand at h. -/
structure IsTab (w : World) (r g K : Nat) (L : List Sl) (h : Nat) : Prop where
  head : w.heap[r]? = some (thd K h L.length g)
  row : Row w g L
  ne : r ≠ g
  inv : Inv K L h
theorem IsTab.lt {w : World} {r g K h : Nat} {L : List Sl} (t : IsTab w r g K L h) : r < w.heap.size ∧ g < w.heap.size := ⟨lt_of_some t.head, lt_of_some t.row⟩
theorem IsTab.keep {w w' : World} {r g K h : Nat} {L : List Sl} (t : IsTab w r g K L h) (h1 : w'.heap[r]? = w.heap[r]?) (h2 : w'.heap[g]? = w.heap[g]?) : IsTab w' r g K L h :=
  ⟨h1.trans t.head, h2.trans t.row, t.ne, t.inv⟩
theorem IsTab.below {w w' : World} {r g K h : Nat} {L : List Sl} (t : IsTab w r g K L h) (b : Below w.heap.size w w') : IsTab w' r g K L h := t.keep (b.block r t.lt.1) (b.block g t.lt.2)
theorem IsTab.drewN {w : World} {r g K h : Nat} {L : List Sl} (t : IsTab w r g K L h) (n : Nat) : IsTab (w.drewN n) r g K L h := t.keep rfl rfl
theorem IsTab.alloc {w : World} {r g K h : Nat} {L : List Sl} (t : IsTab w r g K L h) (o : Obj) : IsTab (w.alloc o) r g K L h := t.below ((Below.refl _ _).alloc (Nat.le_refl _) _)
theorem IsTab.cells {w : World} {r g K h : Nat} {L : List Sl} (t : IsTab w r g K L h) : w.cell? ⟨r, 0, none⟩ = some (.bool true) ∧ w.cell? ⟨r, 1, none⟩ = some (.int .i64 (K : Nat)) ∧ w.cell? ⟨r, 2, none⟩ = some (.int .i64 (h : Nat)) ∧ w.cell? ⟨r, 3, none⟩ = some (.slice (some ⟨g, 0, none⟩) L.length L.length) := thd_cells t.head
theorem cell_below {w w' : World} {a : Addr} {v : Value} (h : w.cell? a = some v) (k : Below w.heap.size w w') : w'.cell? a = some v := (k.cell (lt_of_cell h)).trans h

theorem isMade_at (r : Nat) (b : Bool) (w : World) (h : w.cell? ⟨r, 0, none⟩ = some (.bool b)) : Calls Try.prog 29 #[.pointer (some ⟨r, 0, none⟩)] w fun e w' => e = .returned (.bool b) ∧ w = w' := by
  go_enter Try.func29, Try.ntmps29
  go_wp2
  go_ret
  exact ⟨rfl, rfl⟩
theorem isMade_nil (w : World) : Calls Try.prog 29 #[.pointer none] w fun e w' => e = .returned (.bool false) ∧ w = w' := by
  go_enter Try.func29, Try.ntmps29
  go_wp2
  go_ret
  exact ⟨rfl, rfl⟩
theorem isNow_at (now : Int) (w : World) : Calls Try.prog 30 #[.int .i64 now] w fun e w' => e = .returned (.bool (decide (¬ badNow now))) ∧ w = w' := by
  by_cases h1 : now < 0
  · have e : decide (¬ badNow now) = false := by simp [badNow]; omega
    rw [e]
    have d : decide (now ≥ 0) = false := by simp; omega
    have d' : decide (0 ≤ now) = false := by simp; omega
    go_enter Try.func30, Try.ntmps30
    go_wp2
    go_ret
    exact ⟨rfl, rfl⟩
  · have d : decide (now ≥ 0) = true := by simp; omega
    have d' : decide (0 ≤ now) = true := by simp; omega
    by_cases h2 : 1099511627776 < now
    · have e : decide (¬ badNow now) = false := by simp [badNow]; omega
      rw [e]
      have d2 : decide (now ≤ 1099511627776) = false := by simp; omega
      go_enter Try.func30, Try.ntmps30
      go_wp2
      go_ret
      exact ⟨rfl, rfl⟩
    · have e : decide (¬ badNow now) = true := by simp [badNow]; omega
      rw [e]
      have d2 : decide (now ≤ 1099511627776) = true := by simp; omega
      go_enter Try.func30, Try.ntmps30
      go_wp2
      go_ret
      exact ⟨rfl, rfl⟩
theorem isAge_at (age : Int) (w : World) : Calls Try.prog 32 #[.int .i64 age] w fun e w' => e = .returned (.bool (decide (¬ badAge age))) ∧ w = w' := by
  by_cases h1 : age < 1
  · have e : decide (¬ badAge age) = false := by simp [badAge]; omega
    rw [e]
    have d : decide (age ≥ 1) = false := by simp; omega
    have d' : decide (1 ≤ age) = false := by simp; omega
    go_enter Try.func32, Try.ntmps32
    go_wp2
    go_ret
    exact ⟨rfl, rfl⟩
  · have d : decide (age ≥ 1) = true := by simp; omega
    have d' : decide (1 ≤ age) = true := by simp; omega
    by_cases h2 : 1048576 < age
    · have e : decide (¬ badAge age) = false := by simp [badAge]; omega
      rw [e]
      have d2 : decide (age ≤ 1048576) = false := by simp; omega
      go_enter Try.func32, Try.ntmps32
      go_wp2
      go_ret
      exact ⟨rfl, rfl⟩
    · have e : decide (¬ badAge age) = true := by simp [badAge]; omega
      rw [e]
      have d2 : decide (age ≤ 1048576) = true := by simp; omega
      go_enter Try.func32, Try.ntmps32
      go_wp2
      go_ret
      exact ⟨rfl, rfl⟩
theorem isKey_at (key : ByteArray) (w : World) : Calls Try.prog 31 #[.string key] w fun e w' => e = .returned (.bool (decide (¬ badKey key))) ∧ w = w' := by
  have e0 : (key.toList == []) = decide (key.size = 0) := ba_nil key
  have e0' : key.toList.isEmpty = decide (key.size = 0) := ba_emp key
  by_cases h1 : key.size = 0
  · have e : decide (¬ badKey key) = false := decide_eq_false (by unfold badKey; omega)
    rw [e]
    have d1 : decide (key.size = 0) = true := by simp [h1]
    go_enter Try.func31, Try.ntmps31
    go_wp2
    go_ret
    exact ⟨rfl, rfl⟩
  have d1 : decide (key.size = 0) = false := by simp [h1]
  by_cases h2 : 4096 < key.size
  · have e : decide (¬ badKey key) = false := decide_eq_false (by unfold badKey; omega)
    rw [e]
    have d2 : decide ((key.size : Int) ≤ 4096) = false := by simp; omega
    go_enter Try.func31, Try.ntmps31
    go_wp2
    go_ret
    exact ⟨rfl, rfl⟩
  have d2 : decide ((key.size : Int) ≤ 4096) = true := by simp; omega
  have e : decide (¬ badKey key) = true := decide_eq_true (by unfold badKey; omega)
  rw [e]
  go_enter Try.func31, Try.ntmps31
  go_wp2
  go_ret
  exact ⟨rfl, rfl⟩
theorem wrap_int (n : Int) (h1 : -9223372036854775808 ≤ n) (h2 : n ≤ 9223372036854775807) : IntKind.i64.wrap n = n := by rw [IntKind.wrap_i64]; omega
end Go.Proofs.Ytcihkdmndpdmoaa
