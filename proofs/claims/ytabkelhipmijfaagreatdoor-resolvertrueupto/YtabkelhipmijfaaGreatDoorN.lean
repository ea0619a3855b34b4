/-
  Messages of DNS in numbers: names, heads, questions, records, what is written of them, and how it is read again; no program.
-/
import Derived.Test.YtabkelhipmijfaaGreatDoorM
set_option linter.unusedSimpArgs false
set_option linter.unusedVariables false
namespace Go.Proofs.YtabkelhipmijfaaGreatDoor

/-- An address; and whether a host is right. -/
abbrev Ad := Nat × Nat × Nat × Nat
def Ad.ok (a : Ad) : Prop := a.1 < 256 ∧ a.2.1 < 256 ∧ a.2.2.1 < 256 ∧ a.2.2.2 < 256
def chk (a : Ad) (n : List Nat) : Bool := decide (n = []) || (decide (name n = (n, .ok)) && decide (a = (0, 0, 0, 0)))
theorem name_ok {l q : List Nat} (h : name l = (q, .ok)) : l.length ≤ 253 ∧ labs 0 (pcs l) = none ∧ ¬ ((pcs l).getLastD []).all dig = true ∧ q = low l := by
  unfold name at h
  split at h
  · cases h
  · rename_i hl
    split at h
    · cases h
    · rename_i hlab
      split at h
      · cases h
      · rename_i hd
        injection h with h1 h2
        exact ⟨by omega, hlab, hd, h1.symm⟩
theorem lo_same {c : Nat} (h : c < 65 ∨ 90 < c) : lo c = c := by unfold lo; rw [if_neg (by omega)]
theorem bLowSame {l : List Nat} (h : ∀ x ∈ l, x < 65 ∨ 90 < x) : low l = l := by
  unfold low
  conv => rhs; rw [← List.map_id l]
  exact List.map_congr_left fun x hx => lo_same (h x hx)
theorem low_low (l : List Nat) : low (low l) = low l := by
  apply bLowSame
  intro x hx
  simp only [low, List.mem_map] at hx
  obtain ⟨c, _, rfl⟩ := hx
  unfold lo
  split <;> omega
theorem bDigLo (c : Nat) : dig (lo c) = dig c := by
  rw [Bool.eq_iff_iff, dig_iff, dig_iff]
  unfold lo
  split <;> omega
theorem lb_lo {c : Nat} (h : lb c = true) : lb (lo c) = true := by
  simp only [lb, Bool.or_eq_true, Bool.and_eq_true, decide_eq_true_eq, dig_iff] at h ⊢
  unfold lo
  split <;> omega
theorem bLo45 (c : Nat) : lo c = 45 ↔ c = 45 := by unfold lo; split <;> omega
theorem bLabLow {p : List Nat} (h : isLab p) : isLab (low p) := by
  obtain ⟨h1, h2, h3⟩ := h
  refine ⟨by rw [low_length]; exact h1, by rw [low_length]; exact h2, fun i hi => ?_⟩
  rw [low_length] at hi ⊢
  have := h3 i hi
  have e : (low p).getD i 0 = lo (p.getD i 0) := by simp [low, List.getD, List.getElem?_map, List.getElem?_eq_getElem hi]
  rw [e]
  simp only [lbAt, Bool.and_eq_true] at this ⊢
  refine ⟨lb_lo this.1, ?_⟩
  rw [show decide (lo (p.getD i 0) = 45) = decide (p.getD i 0 = 45) from decide_eq_decide.2 (bLo45 _)]
  exact this.2
theorem bLabsNone : ∀ (ps : List (List Nat)) (a : Nat), labs a ps = none ↔ ∀ p ∈ ps, isLab p
  | [], a => by simp [labs]
  | p :: ps, a => by
    unfold labs
    split
    · rename_i h
      rw [bLabsNone ps]
      simp [(labB_iff p).1 h]
    · rename_i h
      simp
      intro hp
      exact absurd ((labB_iff p).2 hp) h
theorem getLastD_map (f : List Nat → List Nat) (hf : f [] = []) : ∀ (ps : List (List Nat)), (ps.map f).getLastD [] = f (ps.getLastD [])
  | [] => by simp [hf]
  | p :: ps => by
    rw [List.getLastD_eq_getLast?, List.getLastD_eq_getLast?, List.getLast?_map]
    cases h : (p :: ps).getLast? with
    | none => simp [hf]
    | some x => simp
/-- The small letters of a name are a name, and that one. -/
theorem name_low {l q : List Nat} (h : name l = (q, .ok)) : name (low l) = (low l, .ok) := by
  obtain ⟨h1, h2, h3, rfl⟩ := name_ok h
  have g2 : labs 0 (pcs (low l)) = none := by
    rw [bLabsNone, pcs_low]
    intro p hp
    obtain ⟨r, hr, rfl⟩ := List.mem_map.1 hp
    exact bLabLow ((bLabsNone _ _).1 h2 r hr)
  have g3 : ¬ ((pcs (low l)).getLastD []).all dig = true := by
    rw [pcs_low, getLastD_map low rfl]
    intro hk
    apply h3
    rw [List.all_eq_true] at hk ⊢
    intro x hx
    rw [← bDigLo]
    exact hk (lo x) (List.mem_map_of_mem hx)
  unfold name
  rw [if_neg (by rw [low_length]; omega), g2]
  simp only []
  rw [if_neg g3, low_low]
/-! ### Names within a message -/
/-- Where two bytes lead. -/
def led (b : List Nat) (p : Nat) : Nat := (b.getD p 0 * 256 + b.getD (p + 1) 0) % 16384
/-- The bytes of a label behind its length. -/
def lbl (b : List Nat) (p : Nat) : List Nat := (b.drop (p + 1)).take (b.getD p 0)
/-- The labels so far, and one more. -/
def tx (t l : List Nat) : List Nat := if t = [] then l else t ++ 46 :: l
/-- The name that begins at a, read on at p in the piece that begins at q, with the labels so far, and where what stands behind begins if the first piece is over. -/
def nm (b : List Nat) (a q p : Nat) (t : List Nat) (bh : Nat) : List Nat × Nat × Er :=
  if h1 : b.length ≤ p then ([], 0, .one b.length 6) else
  if 192 ≤ b.getD p 0 then
    if b.length < p + 2 then ([], 0, .one b.length 6) else
    if h2 : q ≤ led b p then ([], 0, .one p 100) else
    nm b a (led b p) (led b p) t (if q = a then p + 2 else bh)
  else if 64 ≤ b.getD p 0 then ([], 0, .one p 61)
  else if b.getD p 0 = 0 then
    if (name t).2 = .ok then ((name t).1, if q = a then p + 1 else bh, .ok) else ([], 0, .one a 63)
  else if b.length < p + 1 + b.getD p 0 then ([], 0, .one b.length 6)
  else if labB (lbl b p) = true then
    if 253 < (tx t (lbl b p)).length then ([], 0, .one a 63) else
    nm b a q (p + 1 + b.getD p 0) (tx t (lbl b p)) bh
  else ([], 0, .one p 61)
termination_by (q, b.length - p)
decreasing_by
  · exact Prod.Lex.left _ _ (by omega)
  · exact Prod.Lex.right _ (by omega)

section nm
variable {b : List Nat} {a q p : Nat} {t : List Nat} {bh : Nat}
theorem nm_out (h : b.length ≤ p) : nm b a q p t bh = ([], 0, .one b.length 6) := by rw [nm, dif_pos h]
theorem nm_led1 (h : p < b.length) (h1 : 192 ≤ b.getD p 0) (h2 : b.length < p + 2) : nm b a q p t bh = ([], 0, .one b.length 6) := by
  rw [nm, dif_neg (by omega), if_pos h1, if_pos h2]
theorem nm_led2 (h1 : 192 ≤ b.getD p 0) (h2 : p + 2 ≤ b.length) (h3 : q ≤ led b p) : nm b a q p t bh = ([], 0, .one p 100) := by
  rw [nm, dif_neg (by omega), if_pos h1, if_neg (by omega), dif_pos h3]
theorem nm_led (h1 : 192 ≤ b.getD p 0) (h2 : p + 2 ≤ b.length) (h3 : led b p < q) : nm b a q p t bh = nm b a (led b p) (led b p) t (if q = a then p + 2 else bh) := by
  rw [nm, dif_neg (by omega), if_pos h1, if_neg (by omega), dif_neg (by omega)]
theorem nm_mid (h : p < b.length) (h1 : b.getD p 0 < 192) (h2 : 64 ≤ b.getD p 0) : nm b a q p t bh = ([], 0, .one p 61) := by
  rw [nm, dif_neg (by omega), if_neg (by omega), if_pos h2]
theorem nm_end (h : p < b.length) (h1 : b.getD p 0 = 0) : nm b a q p t bh = if (name t).2 = .ok then ((name t).1, if q = a then p + 1 else bh, .ok) else ([], 0, .one a 63) := by
  rw [nm, dif_neg (by omega), if_neg (by omega), if_neg (by omega), if_pos h1]
theorem nm_lab1 (h : p < b.length) (h1 : 0 < b.getD p 0) (h2 : b.getD p 0 < 64) (h3 : b.length < p + 1 + b.getD p 0) : nm b a q p t bh = ([], 0, .one b.length 6) := by
  rw [nm, dif_neg (by omega), if_neg (by omega), if_neg (by omega), if_neg (by omega), if_pos h3]
theorem nm_lab2 (h1 : 0 < b.getD p 0) (h2 : b.getD p 0 < 64) (h3 : p + 1 + b.getD p 0 ≤ b.length) (h4 : ¬ labB (lbl b p) = true) : nm b a q p t bh = ([], 0, .one p 61) := by
  rw [nm, dif_neg (by omega), if_neg (by omega), if_neg (by omega), if_neg (by omega), if_neg (by omega), if_neg h4]
theorem nm_lab3 (h1 : 0 < b.getD p 0) (h2 : b.getD p 0 < 64) (h3 : p + 1 + b.getD p 0 ≤ b.length) (h4 : labB (lbl b p) = true) (h5 : 253 < (tx t (lbl b p)).length) : nm b a q p t bh = ([], 0, .one a 63) := by
  rw [nm, dif_neg (by omega), if_neg (by omega), if_neg (by omega), if_neg (by omega), if_neg (by omega), if_pos h4, if_pos h5]
theorem nm_lab (h1 : 0 < b.getD p 0) (h2 : b.getD p 0 < 64) (h3 : p + 1 + b.getD p 0 ≤ b.length) (h4 : labB (lbl b p) = true) (h5 : (tx t (lbl b p)).length ≤ 253) : nm b a q p t bh = nm b a q (p + 1 + b.getD p 0) (tx t (lbl b p)) bh := by
  rw [nm, dif_neg (by omega), if_neg (by omega), if_neg (by omega), if_neg (by omega), if_neg (by omega), if_pos h4, if_neg (by omega)]
end nm

/-- A walk along a name, by the ways that it may go. -/
theorem nm_ways {M : List Nat → Nat → Nat → Nat → List Nat → Nat → Prop} (b : List Nat) (a : Nat)
    (hout : ∀ q p t bh, b.length ≤ p → M b a q p t bh)
    (hled1 : ∀ q p t bh, p < b.length → 192 ≤ b.getD p 0 → b.length < p + 2 → M b a q p t bh)
    (hled2 : ∀ q p t bh, 192 ≤ b.getD p 0 → p + 2 ≤ b.length → q ≤ led b p → M b a q p t bh)
    (hled : ∀ q p t bh, 192 ≤ b.getD p 0 → p + 2 ≤ b.length → led b p < q → M b a (led b p) (led b p) t (if q = a then p + 2 else bh) → M b a q p t bh)
    (hmid : ∀ q p t bh, p < b.length → b.getD p 0 < 192 → 64 ≤ b.getD p 0 → M b a q p t bh)
    (hend : ∀ q p t bh, p < b.length → b.getD p 0 = 0 → M b a q p t bh)
    (hlab1 : ∀ q p t bh, p < b.length → 0 < b.getD p 0 → b.getD p 0 < 64 → b.length < p + 1 + b.getD p 0 → M b a q p t bh)
    (hlab2 : ∀ q p t bh, 0 < b.getD p 0 → b.getD p 0 < 64 → p + 1 + b.getD p 0 ≤ b.length → ¬ labB (lbl b p) = true → M b a q p t bh)
    (hlab3 : ∀ q p t bh, 0 < b.getD p 0 → b.getD p 0 < 64 → p + 1 + b.getD p 0 ≤ b.length → labB (lbl b p) = true → 253 < (tx t (lbl b p)).length → M b a q p t bh)
    (hlab : ∀ q p t bh, 0 < b.getD p 0 → b.getD p 0 < 64 → p + 1 + b.getD p 0 ≤ b.length → labB (lbl b p) = true → (tx t (lbl b p)).length ≤ 253 → M b a q (p + 1 + b.getD p 0) (tx t (lbl b p)) bh → M b a q p t bh)
    (q p : Nat) (t : List Nat) (bh : Nat) : M b a q p t bh :=
  if h1 : b.length ≤ p then hout q p t bh h1 else
  if h2 : 192 ≤ b.getD p 0 then
    if h3 : b.length < p + 2 then hled1 q p t bh (by omega) h2 h3 else
    if h4 : q ≤ led b p then hled2 q p t bh h2 (by omega) h4 else
    hled q p t bh h2 (by omega) (by omega) (nm_ways b a hout hled1 hled2 hled hmid hend hlab1 hlab2 hlab3 hlab (led b p) (led b p) t _)
  else if h3 : 64 ≤ b.getD p 0 then hmid q p t bh (by omega) (by omega) h3
  else if h4 : b.getD p 0 = 0 then hend q p t bh (by omega) h4
  else if h5 : b.length < p + 1 + b.getD p 0 then hlab1 q p t bh (by omega) (by omega) (by omega) h5
  else if h6 : labB (lbl b p) = true then
    if h7 : 253 < (tx t (lbl b p)).length then hlab3 q p t bh (by omega) (by omega) (by omega) h6 h7 else
    hlab q p t bh (by omega) (by omega) (by omega) h6 (by omega) (nm_ways b a hout hled1 hled2 hled hmid hend hlab1 hlab2 hlab3 hlab q (p + 1 + b.getD p 0) (tx t (lbl b p)) bh)
  else hlab2 q p t bh (by omega) (by omega) (by omega) h6
termination_by (q, b.length - p)
decreasing_by
  · exact Prod.Lex.left _ _ (by omega)
  · exact Prod.Lex.right _ (by omega)

theorem name_bad {l : List Nat} (h : (name l).2 ≠ .ok) : (name l).1 = [] := by
  unfold name at h ⊢
  split
  · rfl
  · rename_i h1
    rw [if_neg h1] at h
    split
    · rfl
    · rename_i h2
      rw [h2] at h
      simp only [] at h
      split
      · rfl
      · rename_i h3
        rw [if_neg h3] at h
        exact absurd rfl h
theorem name_some {l : List Nat} (h : (name l).2 = .ok) : (name l).1 = low l ∧ l ≠ [] ∧ l.length ≤ 253 := by
  obtain ⟨h1, h2, h3, h4⟩ := name_ok (l := l) (q := (name l).1) (by rw [← h])
  refine ⟨h4, ?_, h1⟩
  rintro rfl
  apply h3
  rfl

/-- What is told of a name that is wrong. -/
theorem nm_bad (b : List Nat) (a q p : Nat) (t : List Nat) (bh : Nat) : (nm b a q p t bh).2.2 ≠ .ok → nm b a q p t bh = ([], 0, (nm b a q p t bh).2.2) := by
  refine nm_ways (M := fun b a q p t bh => (nm b a q p t bh).2.2 ≠ .ok → nm b a q p t bh = ([], 0, (nm b a q p t bh).2.2)) b a ?_ ?_ ?_ ?_ ?_ ?_ ?_ ?_ ?_ ?_ q p t bh
  · intro q p t bh h _; rw [nm_out h]
  · intro q p t bh h h1 h2 _; rw [nm_led1 h h1 h2]
  · intro q p t bh h1 h2 h3 _; rw [nm_led2 h1 h2 h3]
  · intro q p t bh h1 h2 h3 ih; rw [nm_led h1 h2 h3]; exact ih
  · intro q p t bh h h1 h2 _; rw [nm_mid h h1 h2]
  · intro q p t bh h h1; rw [nm_end h h1]; split
    · intro e; exact absurd rfl e
    · intro _; rfl
  · intro q p t bh h h1 h2 h3 _; rw [nm_lab1 h h1 h2 h3]
  · intro q p t bh h1 h2 h3 h4 _; rw [nm_lab2 h1 h2 h3 h4]
  · intro q p t bh h1 h2 h3 h4 h5 _; rw [nm_lab3 h1 h2 h3 h4 h5]
  · intro q p t bh h1 h2 h3 h4 h5 ih; rw [nm_lab h1 h2 h3 h4 h5]; exact ih
/-- What is wrong lies at a place, and has a number. -/
theorem nm_one (b : List Nat) (a q p : Nat) (t : List Nat) (bh : Nat) : (nm b a q p t bh).2.2 = .ok ∨ ∃ x k, (nm b a q p t bh).2.2 = .one x k := by
  refine nm_ways (M := fun b a q p t bh => (nm b a q p t bh).2.2 = .ok ∨ ∃ x k, (nm b a q p t bh).2.2 = .one x k) b a ?_ ?_ ?_ ?_ ?_ ?_ ?_ ?_ ?_ ?_ q p t bh
  · intro q p t bh h; rw [nm_out h]; exact Or.inr ⟨_, _, rfl⟩
  · intro q p t bh h h1 h2; rw [nm_led1 h h1 h2]; exact Or.inr ⟨_, _, rfl⟩
  · intro q p t bh h1 h2 h3; rw [nm_led2 h1 h2 h3]; exact Or.inr ⟨_, _, rfl⟩
  · intro q p t bh h1 h2 h3 ih; rw [nm_led h1 h2 h3]; exact ih
  · intro q p t bh h h1 h2; rw [nm_mid h h1 h2]; exact Or.inr ⟨_, _, rfl⟩
  · intro q p t bh h h1; rw [nm_end h h1]; split
    · exact Or.inl rfl
    · exact Or.inr ⟨_, _, rfl⟩
  · intro q p t bh h h1 h2 h3; rw [nm_lab1 h h1 h2 h3]; exact Or.inr ⟨_, _, rfl⟩
  · intro q p t bh h1 h2 h3 h4; rw [nm_lab2 h1 h2 h3 h4]; exact Or.inr ⟨_, _, rfl⟩
  · intro q p t bh h1 h2 h3 h4 h5; rw [nm_lab3 h1 h2 h3 h4 h5]; exact Or.inr ⟨_, _, rfl⟩
  · intro q p t bh h1 h2 h3 h4 h5 ih; rw [nm_lab h1 h2 h3 h4 h5]; exact ih
/-- What is told of a name that is right. -/
theorem nm_good (b : List Nat) (a q p : Nat) (t : List Nat) (bh : Nat) : (nm b a q p t bh).2.2 = .ok → (q = a ∧ a ≤ p ∨ q < a ∧ a < bh ∧ bh ≤ b.length) →
    a < (nm b a q p t bh).2.1 ∧ (nm b a q p t bh).2.1 ≤ b.length ∧ ∃ u, name u = ((nm b a q p t bh).1, .ok) := by
  refine nm_ways (M := fun b a q p t bh => (nm b a q p t bh).2.2 = .ok → (q = a ∧ a ≤ p ∨ q < a ∧ a < bh ∧ bh ≤ b.length) →
    a < (nm b a q p t bh).2.1 ∧ (nm b a q p t bh).2.1 ≤ b.length ∧ ∃ u, name u = ((nm b a q p t bh).1, .ok)) b a ?_ ?_ ?_ ?_ ?_ ?_ ?_ ?_ ?_ ?_ q p t bh
  · intro q p t bh h e; rw [nm_out h] at e; cases e
  · intro q p t bh h h1 h2 e; rw [nm_led1 h h1 h2] at e; cases e
  · intro q p t bh h1 h2 h3 e; rw [nm_led2 h1 h2 h3] at e; cases e
  · intro q p t bh h1 h2 h3 ih e hi; rw [nm_led h1 h2 h3] at e ⊢
    refine ih e (Or.inr ?_)
    split <;> omega
  · intro q p t bh h h1 h2 e; rw [nm_mid h h1 h2] at e; cases e
  · intro q p t bh h h1 e hi; rw [nm_end h h1] at e ⊢; split at e
    · rename_i ho
      rw [if_pos ho]
      refine ⟨?_, ?_, t, by rw [← ho]⟩ <;> simp only [] <;> split <;> omega
    · cases e
  · intro q p t bh h h1 h2 h3 e; rw [nm_lab1 h h1 h2 h3] at e; cases e
  · intro q p t bh h1 h2 h3 h4 e; rw [nm_lab2 h1 h2 h3 h4] at e; cases e
  · intro q p t bh h1 h2 h3 h4 h5 e; rw [nm_lab3 h1 h2 h3 h4 h5] at e; cases e
  · intro q p t bh h1 h2 h3 h4 h5 ih e hi; rw [nm_lab h1 h2 h3 h4 h5] at e ⊢; exact ih e (by omega)

theorem getD_app (b m : List Nat) (i : Nat) (h : i < b.length) : (b ++ m).getD i 0 = b.getD i 0 := by simp [List.getD, List.getElem?_append_left h]
theorem led_app (b m : List Nat) (p : Nat) (h : p + 2 ≤ b.length) : led (b ++ m) p = led b p := by unfold led; rw [getD_app _ _ _ (by omega), getD_app _ _ _ (by omega)]
theorem lbl_app (b m : List Nat) (p : Nat) (h : p + 1 + b.getD p 0 ≤ b.length) : lbl (b ++ m) p = lbl b p := by
  unfold lbl
  rw [getD_app _ _ _ (by omega), List.drop_append_of_le_length (by omega), List.take_append_of_le_length (by rw [List.length_drop]; omega)]
/-- A name that is right is the same with more bytes behind. -/
theorem nm_app (m b : List Nat) (a q p : Nat) (t : List Nat) (bh : Nat) : (nm b a q p t bh).2.2 = .ok → nm (b ++ m) a q p t bh = nm b a q p t bh := by
  refine nm_ways (M := fun b a q p t bh => (nm b a q p t bh).2.2 = .ok → nm (b ++ m) a q p t bh = nm b a q p t bh) b a ?_ ?_ ?_ ?_ ?_ ?_ ?_ ?_ ?_ ?_ q p t bh
  · intro q p t bh h e; rw [nm_out h] at e; cases e
  · intro q p t bh h h1 h2 e; rw [nm_led1 h h1 h2] at e; cases e
  · intro q p t bh h1 h2 h3 e; rw [nm_led2 h1 h2 h3] at e; cases e
  · intro q p t bh h1 h2 h3 ih e
    rw [nm_led h1 h2 h3] at e ⊢
    rw [nm_led (by rw [getD_app _ _ _ (by omega)]; exact h1) (by simp; omega) (by rw [led_app _ _ _ h2]; exact h3), led_app _ _ _ h2]
    exact ih e
  · intro q p t bh h h1 h2 e; rw [nm_mid h h1 h2] at e; cases e
  · intro q p t bh h h1 e
    rw [nm_end h h1, nm_end (by simp; omega) (by rw [getD_app _ _ _ h]; exact h1)]
  · intro q p t bh h h1 h2 h3 e; rw [nm_lab1 h h1 h2 h3] at e; cases e
  · intro q p t bh h1 h2 h3 h4 e; rw [nm_lab2 h1 h2 h3 h4] at e; cases e
  · intro q p t bh h1 h2 h3 h4 h5 e; rw [nm_lab3 h1 h2 h3 h4 h5] at e; cases e
  · intro q p t bh h1 h2 h3 h4 h5 ih e
    rw [nm_lab h1 h2 h3 h4 h5] at e ⊢
    have el := lbl_app b m p h3
    have eg := getD_app b m p (by omega)
    rw [nm_lab (by omega) (by omega) (by rw [List.length_append]; omega) (by rw [el]; exact h4) (by rw [el]; exact h5), el, eg]
    exact ih e
/-- The name that begins at a. -/
def nam (b : List Nat) (a : Nat) : List Nat × Nat × Er := nm b a a a [] 0
theorem nam_bad {b : List Nat} {a : Nat} (h : (nam b a).2.2 ≠ .ok) : nam b a = ([], 0, (nam b a).2.2) := nm_bad _ _ _ _ _ _ h
theorem nam_one (b : List Nat) (a : Nat) : (nam b a).2.2 = .ok ∨ ∃ x k, (nam b a).2.2 = .one x k := nm_one _ _ _ _ _ _
theorem nam_good {b : List Nat} {a : Nat} (h : (nam b a).2.2 = .ok) : a < (nam b a).2.1 ∧ (nam b a).2.1 ≤ b.length ∧ ∃ u, name u = ((nam b a).1, .ok) := nm_good _ _ _ _ _ _ h (by omega)
theorem nam_app {b : List Nat} {a : Nat} (m : List Nat) (h : (nam b a).2.2 = .ok) : nam (b ++ m) a = nam b a := nm_app _ _ _ _ _ _ _ h

/-- A part. -/
def pc (b : List Nat) (k m : Nat) : List Nat := (b.drop k).take m
/-! ### A reader of numbers -/
abbrev Sr := Nat × Er
def stp (p k : Nat) (s : Sr) : Sr := if s.2 = .ok then (s.1, .one p k) else s
def tk (b : List Nat) (m : Nat) (s : Sr) : Sr := if s.2 = .ok then (if s.1 + m ≤ b.length then (s.1 + m, .ok) else (s.1, .one b.length 6)) else s
def nu (b : List Nat) (s : Sr) : Nat := if (tk b 2 s).2 = .ok then b.getD s.1 0 * 256 + b.getD (s.1 + 1) 0 else 0
theorem stp_bad {p k : Nat} {s : Sr} (h : s.2 ≠ .ok) : stp p k s = s := by unfold stp; rw [if_neg h]
theorem tk_bad {b : List Nat} {m : Nat} {s : Sr} (h : s.2 ≠ .ok) : tk b m s = s := by unfold tk; rw [if_neg h]
theorem nu_bad {b : List Nat} {s : Sr} (h : s.2 ≠ .ok) : nu b s = 0 := by unfold nu; rw [tk_bad h, if_neg h]
theorem stp_ne (p k : Nat) (s : Sr) : (stp p k s).2 ≠ .ok := by unfold stp; split <;> simp_all
theorem tk_ok {b : List Nat} {m : Nat} {s : Sr} (h : (tk b m s).2 = .ok) : s.2 = .ok ∧ s.1 + m ≤ b.length ∧ tk b m s = (s.1 + m, .ok) := by
  unfold tk at h ⊢
  split at h
  · rename_i h1
    split at h
    · rename_i h2; exact ⟨h1, h2, by rw [if_pos h1, if_pos h2]⟩
    · cases h
  · rename_i h1; exact absurd h h1
theorem tk_in {b : List Nat} {m k : Nat} (h : k + m ≤ b.length) : tk b m (k, .ok) = (k + m, .ok) := by unfold tk; rw [if_pos rfl, if_pos h]
theorem nu_in {b : List Nat} {k : Nat} (h : k + 2 ≤ b.length) : nu b (k, .ok) = b.getD k 0 * 256 + b.getD (k + 1) 0 := by unfold nu; rw [tk_in h, if_pos rfl]
theorem getD_lt {b : List Nat} (h : ∀ x ∈ b, x < 256) (i : Nat) : b.getD i 0 < 256 := by
  by_cases hi : i < b.length
  · rw [show b.getD i 0 = b[i] by simp [List.getD, List.getElem?_eq_getElem hi]]; exact h _ (List.getElem_mem hi)
  · rw [show b.getD i 0 = 0 by simp [List.getD, List.getElem?_eq_none (Nat.le_of_not_lt hi)]]; omega
theorem nu_lt {b : List Nat} (h : ∀ x ∈ b, x < 256) (s : Sr) : nu b s < 65536 := by
  unfold nu
  have h1 := getD_lt h s.1
  have h2 := getD_lt h (s.1 + 1)
  split <;> omega
theorem tk_app {b : List Nat} {m : Nat} {s : Sr} (e : List Nat) (h : (tk b m s).2 = .ok) : tk (b ++ e) m s = tk b m s := by
  obtain ⟨h1, h2, h3⟩ := tk_ok h
  rw [h3]
  unfold tk
  rw [if_pos h1, if_pos (by simp; omega)]
theorem nu_app {b : List Nat} {s : Sr} (e : List Nat) (h : (tk b 2 s).2 = .ok) : nu (b ++ e) s = nu b s := by
  obtain ⟨h1, h2, h3⟩ := tk_ok h
  unfold nu
  rw [tk_app e h, if_pos h, getD_app _ _ _ (by omega), getD_app _ _ _ (by omega)]
  rw [if_pos h]
/-- A state that is no worse. -/
def Er.isOk (s : Sr) : Prop := s.2 = .ok

/-! ### Heads and questions -/
def opn (b : List Nat) : Sr := if 512 < b.length then (0, .one 512 3) else (0, .ok)
/-- A test: if it does not hold, it is told. -/
def chk1 (c : Bool) (p k : Nat) (s : Sr) : Sr := if c = true then s else stp p k s
theorem chk1_ok {c : Bool} {p k : Nat} {s : Sr} (h : (chk1 c p k s).2 = .ok) : c = true ∧ s.2 = .ok ∧ chk1 c p k s = s := by
  unfold chk1 at h ⊢
  split at h
  · rename_i hc; exact ⟨hc, h, by rw [if_pos hc]⟩
  · exact absurd h (stp_ne _ _ _)
theorem chk1_bad {c : Bool} {p k : Nat} {s : Sr} (h : s.2 ≠ .ok) : chk1 c p k s = s := by unfold chk1; split; rfl; exact stp_bad h
def s1 (b : List Nat) : Sr := tk b 2 (opn b)
def s2 (b : List Nat) (k : Nat) : Sr := chk1 (decide (nu b (s1 b) &&& 64000 = k)) 2 101 (tk b 2 (s1 b))
def s3 (b : List Nat) (k : Nat) : Sr := chk1 (decide (nu b (s2 b k) = 1)) 4 101 (tk b 2 (s2 b k))
def s4 (b : List Nat) (k : Nat) : Sr := tk b 2 (s3 b k)
def s5 (b : List Nat) (k : Nat) : Sr := tk b (12 - (s4 b k).1) (s4 b k)
def hId (b : List Nat) : Nat := nu b (opn b)
def hFl (b : List Nat) : Nat := nu b (s1 b)
def hAn (b : List Nat) (k : Nat) : Nat := nu b (s3 b k)
/-- A name of a message, and where the reader stands then. -/
def mn (b : List Nat) (s : Sr) : List Nat × Sr := if s.2 = .ok then ((nam b s.1).1, (nam b s.1).2) else ([], s)
def q1 (b : List Nat) (s : Sr) : Sr := chk1 (decide (nu b (mn b s).2 = 1)) (mn b s).2.1 101 (tk b 2 (mn b s).2)
def q2 (b : List Nat) (s : Sr) : Sr := chk1 (decide (nu b (q1 b s) = 1)) (mn b s).2.1 101 (tk b 2 (q1 b s))
theorem mn_bad {b : List Nat} {s : Sr} (h : s.2 ≠ .ok) : mn b s = ([], s) := by unfold mn; rw [if_neg h]
theorem mn_ok {b : List Nat} {s : Sr} (h : (mn b s).2.2 = .ok) : s.2 = .ok ∧ (nam b s.1).2.2 = .ok ∧ mn b s = ((nam b s.1).1, (nam b s.1).2) := by
  unfold mn at h ⊢
  split at h
  · rename_i h1; exact ⟨h1, h, by rw [if_pos h1]⟩
  · rename_i h1; exact absurd h h1
theorem mn_app {b : List Nat} {s : Sr} (e : List Nat) (h : (mn b s).2.2 = .ok) : mn (b ++ e) s = mn b s := by
  obtain ⟨h1, h2, h3⟩ := mn_ok h
  rw [h3]
  unfold mn
  rw [if_pos h1, nam_app e h2]
/-- Too long, or not. -/
theorem opn_ok {b : List Nat} (h : (opn b).2 = .ok) : b.length ≤ 512 ∧ opn b = (0, .ok) := by
  unfold opn at h ⊢
  split at h
  · cases h
  · exact ⟨by omega, by rw [if_neg (by omega)]⟩

/-! ### Records -/
structure Rc where
  nm : List Nat
  kd : Nat
  cl : Nat
  sc : Nat
  da : Nat
  sz : Nat
/-- Where the reader stands behind so many numbers of a record. -/
def rs (b : List Nat) (s : Sr) : Nat → Sr
  | 0 => (mn b s).2
  | k + 1 => tk b 2 (rs b s k)
def secs (h l : Nat) : Nat := if 32768 ≤ h then 0 else h * 65536 + l
def rc (b : List Nat) (s : Sr) : Rc := ⟨(mn b s).1, nu b (rs b s 0), nu b (rs b s 1), secs (nu b (rs b s 2)) (nu b (rs b s 3)), (rs b s 5).1, nu b (rs b s 4)⟩
def rcS (b : List Nat) (s : Sr) : Sr := tk b (nu b (rs b s 4)) (rs b s 5)
abbrev Ls := List Nat × List Ad × Nat
/-- The name that is looked for, the addresses, the time. -/
def adAt (b : List Nat) (p : Nat) : Ad := (b.getD p 0, b.getD (p + 1) 0, b.getD (p + 2) 0, b.getD (p + 3) 0)
def more (l : List Ad) (a : Ad) : List Ad := if l.length = 16 then l else l ++ [a]
def alS (b : List Nat) (r : Rc) (s : Sr) : Sr :=
  if (nam b r.da).2.1 = r.da + r.sz then (s.1, (nam b r.da).2.2) else stp r.da 6 (s.1, (nam b r.da).2.2)
def rstep (b : List Nat) (x : Sr × Ls) : Sr × Ls :=
  if (rcS b x.1).2 ≠ .ok ∨ (rc b x.1).nm ≠ x.2.1 ∨ (rc b x.1).cl ≠ 1 then (rcS b x.1, x.2)
  else if (rc b x.1).kd = 5 then (alS b (rc b x.1) (rcS b x.1), (nam b (rc b x.1).da).1, x.2.2.1, min x.2.2.2 (rc b x.1).sc)
  else if (rc b x.1).kd = 1 ∧ (rc b x.1).sz = 4 then (rcS b x.1, x.2.1, more x.2.2.1 (adAt b (rc b x.1).da), min x.2.2.2 (rc b x.1).sc)
  else (rcS b x.1, x.2)
def rloop (b : List Nat) : Nat → Sr × Ls → Sr × Ls
  | 0, x => x
  | n + 1, x => if x.1.2 = .ok then rloop b n (rstep b x) else x
theorem rloop_bad {b : List Nat} {n : Nat} {x : Sr × Ls} (h : x.1.2 ≠ .ok) : rloop b n x = x := by cases n with
  | zero => rfl
  | succ n => unfold rloop; rw [if_neg h]
theorem rloop_ok {b : List Nat} {n : Nat} {x : Sr × Ls} (h : x.1.2 = .ok) : rloop b (n + 1) x = rloop b n (rstep b x) := by rw [rloop, if_pos h]

/-- An answer: id, name, code, addresses, time. -/
structure An where
  id : Nat
  nm : List Nat
  cd : Nat
  ad : List Ad
  tl : Nat
def An.none : An := ⟨0, [], 0, [], 0⟩
def aS (b : List Nat) : Sr := q2 b (s5 b 32768)
def aN (b : List Nat) : List Nat := (mn b (s5 b 32768)).1
def aL (b : List Nat) : Sr × Ls := if hFl b &&& 15 = 0 then rloop b (hAn b 32768) (aS b, aN b, [], 1048576) else (aS b, aN b, [], 0)
def ans (b : List Nat) : An × Er :=
  if (aL b).1.2 = .ok then (⟨hId b, aN b, hFl b &&& 15, (aL b).2.2.1, if (aL b).2.2.1 = [] then 0 else (aL b).2.2.2⟩, .ok) else (An.none, (aL b).1.2)
def qus (b : List Nat) : (Nat × List Nat) × Er :=
  if (q2 b (s5 b 0)).2 = .ok then ((hId b, (mn b (s5 b 0)).1), .ok) else ((0, []), (q2 b (s5 b 0)).2)
end Go.Proofs.YtabkelhipmijfaaGreatDoor
