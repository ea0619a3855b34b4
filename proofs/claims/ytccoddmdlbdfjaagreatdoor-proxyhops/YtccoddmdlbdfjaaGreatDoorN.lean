/-
  Heads in numbers: line ends, lines, tokens, values, fields, first lines, what is written; no program.
-/
import Derived.Test.YtccoddmdlbdfjaaGreatDoorJoinedM
set_option linter.unusedSimpArgs false
set_option linter.unusedVariables false
namespace Go.Proofs.YtccoddmdlbdfjaaGreatDoor

/-- Where the first line's end begins. -/
def pair : List Nat → Option Nat
  | [] => none
  | c :: r => if c = 13 ∧ r.head? = some 10 then some 0 else (pair r).map (· + 1)
theorem pair_lt : ∀ {l : List Nat} {k : Nat}, pair l = some k → k + 1 < l.length
  | [], k, h => by simp [pair] at h
  | c :: r, k, h => by
    unfold pair at h
    split at h
    · rename_i hc
      cases r with
      | nil => simp at hc
      | cons d r => simp at h; subst h; simp
    · cases hp : pair r with
      | none => simp [hp] at h
      | some j =>
        simp [hp] at h
        have := pair_lt hp
        subst h
        simp; omega
/-- A line's end stands at k. -/
def At2 (l : List Nat) (k : Nat) : Prop := l[k]? = some 13 ∧ l[k + 1]? = some 10
theorem pair_at : ∀ {l : List Nat} {k : Nat}, pair l = some k → At2 l k
  | [], k, h => by simp [pair] at h
  | c :: r, k, h => by
    unfold pair at h
    split at h
    · rename_i hc
      cases r with
      | nil => simp at hc
      | cons d r => simp at h hc; subst h; simp [At2, hc]
    · cases hp : pair r with
      | none => simp [hp] at h
      | some j =>
        simp [hp] at h
        have := pair_at hp
        subst h
        simpa [At2] using this
theorem pair_min : ∀ {l : List Nat} {k : Nat}, At2 l k → ∃ j, pair l = some j ∧ j ≤ k
  | [], k, h => by simp [At2] at h
  | c :: r, k, h => by
    unfold pair
    split
    · exact ⟨0, rfl, Nat.zero_le _⟩
    · rename_i hc
      cases k with
      | zero =>
        exfalso; apply hc
        simp [At2] at h
        cases r with
        | nil => simp at h
        | cons d r => simp at h ⊢; exact h
      | succ k =>
        obtain ⟨j, h1, h2⟩ := pair_min (l := r) (k := k) (by simpa [At2] using h)
        exact ⟨j + 1, by simp [h1], by omega⟩
theorem pair_none {l : List Nat} (h : pair l = none) (k : Nat) : ¬ At2 l k := fun g => by
  obtain ⟨j, h1, _⟩ := pair_min g
  rw [h] at h1; cases h1
theorem pair_of {l : List Nat} {k : Nat} (h : At2 l k) (hn : ∀ j, j < k → ¬ At2 l j) : pair l = some k := by
  obtain ⟨j, h1, h2⟩ := pair_min h
  by_cases e : j = k
  · rw [h1, e]
  · exact absurd (pair_at h1) (hn j (by omega))
theorem pair_of_none {l : List Nat} (hn : ∀ j, ¬ At2 l j) : pair l = none := by
  cases h : pair l with
  | none => rfl
  | some k => exact absurd (pair_at h) (hn k)
theorem pair_app : ∀ (x r : List Nat), pair x = none → pair (x ++ 13 :: 10 :: r) = some x.length
  | [], r, _ => by simp [pair]
  | c :: x, r, h => by
    have h' : ¬ (c = 13 ∧ x.head? = some 10) ∧ pair x = none := by
      unfold pair at h
      split at h
      · cases h
      · rename_i hc
        refine ⟨hc, ?_⟩
        cases hp : pair x with
        | none => rfl
        | some j => simp [hp] at h
    have ih := pair_app x r h'.2
    rw [List.cons_append, pair, if_neg, ih]
    · simp
    · intro hc
      apply h'.1
      refine ⟨hc.1, ?_⟩
      cases x with
      | nil => simp at hc
      | cons d x => simpa using hc.2
theorem pair_take {l : List Nat} {k : Nat} (h : pair l = some k) : pair (l.take k) = none := by
  apply pair_of_none
  intro j g
  have hj : j + 1 < k := by
    have := g.2
    rw [List.getElem?_take] at this
    split at this
    · assumption
    · cases this
  have g' : At2 l j := by
    refine ⟨?_, ?_⟩
    · have := g.1; rw [List.getElem?_take, if_pos (by omega)] at this; exact this
    · have := g.2; rw [List.getElem?_take, if_pos (by omega)] at this; exact this
  obtain ⟨i, h1, h2⟩ := pair_min g'
  rw [h] at h1
  cases h1
  omega
theorem pair_split {l : List Nat} {k : Nat} (h : pair l = some k) : l = l.take k ++ 13 :: 10 :: l.drop (k + 2) := by
  have hl := pair_lt h
  obtain ⟨h1, h2⟩ := pair_at h
  have e1 : l.drop k = 13 :: l.drop (k + 1) := by
    rw [List.drop_eq_getElem_cons (by omega)]
    rw [List.getElem?_eq_getElem (by omega)] at h1
    rw [Option.some.inj h1]
  have e2 : l.drop (k + 1) = 10 :: l.drop (k + 2) := by
    rw [List.drop_eq_getElem_cons (by omega)]
    rw [List.getElem?_eq_getElem (by omega)] at h2
    rw [Option.some.inj h2]
  conv => lhs; rw [← List.take_append_drop k l, e1, e2]

/-- The lines of a head, without the empty one. -/
def lns (l : List Nat) : Option (List (List Nat)) := match h : pair l with
  | none => none
  | some 0 => some []
  | some (k + 1) => (lns (l.drop (k + 3))).map (l.take (k + 1) :: ·)
termination_by l.length
decreasing_by have := pair_lt h; simp; omega
theorem lns_none {l : List Nat} (h : pair l = none) : lns l = none := by
  rw [lns]; split
  · rfl
  · rename_i g; rw [h] at g; cases g
  · rename_i g; rw [h] at g; cases g
theorem lns_zero {l : List Nat} (h : pair l = some 0) : lns l = some [] := by
  rw [lns]; split
  · rename_i g; rw [h] at g; cases g
  · rfl
  · rename_i g; rw [h] at g; cases g
theorem lns_succ {l : List Nat} {k : Nat} (h : pair l = some (k + 1)) : lns l = (lns (l.drop (k + 3))).map (l.take (k + 1) :: ·) := by
  rw [lns]; split
  · rename_i g; rw [h] at g; cases g
  · rename_i g; rw [h] at g; cases g
  · rename_i j g; rw [h] at g; cases g; rfl
/-- Lines with their ends. -/
def fla : List (List Nat) → List Nat
  | [] => []
  | x :: r => x ++ 13 :: 10 :: fla r
def fl (ls : List (List Nat)) : List Nat := fla ls ++ [13, 10]
theorem fl_nil : fl [] = [13, 10] := rfl
theorem fl_cons (x : List Nat) (r : List (List Nat)) : fl (x :: r) = x ++ 13 :: 10 :: fl r := by simp [fl, fla]
theorem fla_app : ∀ (a b : List (List Nat)), fla (a ++ b) = fla a ++ fla b
  | [], b => rfl
  | x :: a, b => by simp [fla, fla_app a b]
def Ln (x : List Nat) : Prop := x ≠ [] ∧ pair x = none
theorem lns_fl : ∀ (ls : List (List Nat)) (r : List Nat), (∀ x ∈ ls, Ln x) → lns (fl ls ++ r) = some ls
  | [], r, _ => lns_zero (by simp [fl_nil, pair])
  | x :: ls, r, h => by
    have hx := h x (by simp)
    have ih := lns_fl ls r fun y hy => h y (by simp [hy])
    have hp : pair (fl (x :: ls) ++ r) = some x.length := by
      rw [fl_cons, List.append_assoc, List.cons_append, List.cons_append]; exact pair_app x _ hx.2
    obtain ⟨k, hk⟩ : ∃ k, x.length = k + 1 := ⟨x.length - 1, by have := hx.1; cases x with | nil => exact absurd rfl this | cons c x => simp⟩
    rw [hk] at hp
    rw [lns_succ hp]
    have e1 : (fl (x :: ls) ++ r).drop (k + 3) = fl ls ++ r := by
      rw [fl_cons, List.append_assoc, List.drop_append, List.drop_eq_nil_of_le (by omega), hk, show k + 3 - (k + 1) = 2 by omega]; rfl
    have e2 : (fl (x :: ls) ++ r).take (k + 1) = x := by
      rw [fl_cons, List.append_assoc, List.take_append_of_le_length (by omega), List.take_of_length_le (by omega)]
    rw [e1, e2, ih]; rfl
theorem lns_some : ∀ (n : Nat) (l : List Nat) (ls : List (List Nat)), l.length ≤ n → lns l = some ls → (∃ r, l = fl ls ++ r) ∧ ∀ x ∈ ls, Ln x
  | n, l, ls, hn, h => by
    cases hp : pair l with
    | none => rw [lns_none hp] at h; cases h
    | some k =>
      have hs := pair_split hp
      have hlt := pair_lt hp
      cases k with
      | zero =>
        rw [lns_zero hp] at h; cases h
        refine ⟨⟨l.drop 2, ?_⟩, by simp⟩
        rw [fl_nil]; simpa using hs
      | succ k =>
        rw [lns_succ hp] at h
        cases n with
        | zero => omega
        | succ n =>
        cases hr : lns (l.drop (k + 3)) with
        | none => rw [hr] at h; cases h
        | some ls' =>
          rw [hr] at h; cases h
          obtain ⟨⟨r, e⟩, g⟩ := lns_some n _ ls' (by simp; omega) hr
          refine ⟨⟨r, ?_⟩, ?_⟩
          · rw [fl_cons]; conv => lhs; rw [hs, show k + 1 + 2 = k + 3 by omega, e]
            simp
          · intro x hx
            simp at hx
            rcases hx with rfl | hx
            · refine ⟨?_, pair_take hp⟩
              intro e; have e2 : (l.take (k + 1)).length = 0 := by rw [e]; rfl
              rw [List.length_take] at e2; omega
            · exact g x hx
/-- How many bytes the head has. -/
def tot (ls : List (List Nat)) : Nat := (fl ls).length
theorem tot_nil : tot [] = 2 := rfl
theorem tot_cons (x : List Nat) (r : List (List Nat)) : tot (x :: r) = x.length + 2 + tot r := by simp [tot, fl_cons]; omega
theorem tot_ge (ls : List (List Nat)) : 2 ≤ tot ls := by cases ls <;> simp [tot_nil, tot_cons] <;> have := fl_nil <;> omega
/-- The head's end within some bytes. -/
def en (l : List Nat) : Option Nat := (lns l).map tot
theorem en_none {l : List Nat} (h : pair l = none) : en l = none := by rw [en, lns_none h]; rfl
theorem en_zero {l : List Nat} (h : pair l = some 0) : en l = some 2 := by rw [en, lns_zero h]; rfl
theorem en_succ {l : List Nat} {k : Nat} (h : pair l = some (k + 1)) : en l = (en (l.drop (k + 3))).map (k + 3 + ·) := by
  have hlt := pair_lt h
  rw [en, lns_succ h, en]
  cases lns (l.drop (k + 3)) with
  | none => rfl
  | some ls => simp [tot_cons]; omega
/-- The head at whose beginning some bytes are. -/
def hd (l : List Nat) : Option (List (List Nat)) := lns (l.take 8192)
theorem hd_some {l : List Nat} {ls : List (List Nat)} (h : hd l = some ls) : (∃ r, l = fl ls ++ r) ∧ (∀ x ∈ ls, Ln x) ∧ tot ls ≤ 8192 ∧ tot ls ≤ l.length := by
  obtain ⟨⟨r, e⟩, g⟩ := lns_some _ _ ls (Nat.le_refl _) h
  have hlen := congrArg List.length e
  simp at hlen
  have ht : tot ls = (fl ls).length := rfl
  refine ⟨⟨r ++ l.drop 8192, ?_⟩, g, by omega, by omega⟩
  conv => lhs; rw [← List.take_append_drop 8192 l, e]
  simp
theorem hd_of {ls : List (List Nat)} (r : List Nat) (g : ∀ x ∈ ls, Ln x) (h : tot ls ≤ 8192) : hd (fl ls ++ r) = some ls := by
  have ht : tot ls = (fl ls).length := rfl
  rw [hd, List.take_append, List.take_of_length_le (by omega)]
  exact lns_fl ls _ g
theorem hd_take {l : List Nat} {ls : List (List Nat)} (h : hd l = some ls) : l.take (tot ls) = fl ls := by
  obtain ⟨⟨r, e⟩, _⟩ := hd_some h
  rw [e, tot, List.take_append_of_le_length (Nat.le_refl _), List.take_of_length_le (Nat.le_refl _)]
/-- With fewer bytes there is no end. -/
theorem hd_short {l : List Nat} {ls : List (List Nat)} (h : hd l = some ls) {k : Nat} (hk : k < tot ls) : hd (l.take k) = none := by
  cases g : hd (l.take k) with
  | none => rfl
  | some ls' =>
    obtain ⟨⟨r, e⟩, hL, h1, h2⟩ := hd_some g
    obtain ⟨⟨r2, e2⟩, hL2, h3, h4⟩ := hd_some h
    have : hd l = some ls' := by
      have : l = fl ls' ++ (r ++ l.drop k) := by conv => lhs; rw [← List.take_append_drop k l, e]
                                                 simp
      rw [this]; exact hd_of _ hL h1
    rw [h] at this
    cases this
    simp at h2
    omega

/-- What is wrong with a head. -/
inductive Hr where
  | ok
  | one (a c : Nat)
  | wr (a : Nat) (e : Er)
deriving DecidableEq
/-- What End tells. -/
def enE (l : List Nat) : Nat × Hr := match hd l with
  | some ls => (tot ls, .ok)
  | none => if l.length < 8192 then (0, .one l.length 6) else (0, .one 8192 3)

/-- The place of the four bytes that end a head. -/
def At4 (l : List Nat) (k : Nat) : Prop := At2 l k ∧ At2 l (k + 2)
theorem at2_drop (l : List Nat) (a k : Nat) : At2 (l.drop a) k ↔ At2 l (a + k) := by
  unfold At2
  rw [List.getElem?_drop, List.getElem?_drop]
  rfl
theorem at2_zero {l : List Nat} (h : pair l = some 0) : At2 l 0 := pair_at h
theorem at4_en : ∀ (n : Nat) (l : List Nat) (k : Nat), l.length ≤ n → pair l ≠ some 0 → At4 l k → (∀ j, j < k → ¬ At4 l j) → en l = some (k + 4)
  | n, l, k, hn, h0, h, hm => by
    obtain ⟨j, hj, hjk⟩ := pair_min h.1
    have hlt := pair_lt hj
    cases j with
    | zero => exact absurd hj h0
    | succ j =>
    cases n with
    | zero => omega
    | succ n =>
    rw [en_succ hj]
    by_cases hz : At2 (l.drop (j + 3)) 0
    · obtain ⟨i, hi, hi0⟩ := pair_min hz
      have : i = 0 := by omega
      subst this
      rw [en_zero hi]
      have hz' : At2 l (j + 3) := (at2_drop l _ 0).1 hz
      have : k = j + 1 := by
        by_cases e : k = j + 1
        · exact e
        · exact absurd ⟨pair_at hj, hz'⟩ (hm (j + 1) (by omega))
      subst this
      simp
    · have hne : pair (l.drop (j + 3)) ≠ some 0 := fun e => hz (pair_at e)
      have hk1 : k ≠ j + 1 := fun e => hz ((at2_drop l _ 0).2 (by rw [e] at h; exact h.2))
      have hk2 : k ≠ j + 2 := fun e => by
        have h1 := h.1.1
        have h2 := (pair_at hj).2
        rw [e] at h1
        rw [h1] at h2
        cases h2
      obtain ⟨m, rfl⟩ : ∃ m, k = j + 3 + m := ⟨k - (j + 3), by omega⟩
      have h4 : At4 (l.drop (j + 3)) m := ⟨(at2_drop l _ m).2 h.1, (at2_drop l _ (m + 2)).2 (by have := h.2; rwa [Nat.add_assoc] at this)⟩
      rw [at4_en n _ m (by simp; omega) hne h4 (fun i hi g => hm (j + 3 + i) (by omega) ⟨(at2_drop l _ i).1 g.1, by have := (at2_drop l _ (i + 2)).1 g.2; rwa [← Nat.add_assoc] at this⟩)]
      simp; omega
theorem no4_en : ∀ (n : Nat) (l : List Nat), l.length ≤ n → pair l ≠ some 0 → (∀ j, ¬ At4 l j) → en l = none
  | n, l, hn, h0, hm => by
    cases hj : pair l with
    | none => exact en_none hj
    | some j =>
    have hlt := pair_lt hj
    cases j with
    | zero => exact absurd hj h0
    | succ j =>
    cases n with
    | zero => omega
    | succ n =>
    rw [en_succ hj]
    have hne : pair (l.drop (j + 3)) ≠ some 0 := fun e => hm (j + 1) ⟨pair_at hj, (at2_drop l (j + 3) 0).1 (pair_at e)⟩
    rw [no4_en n _ (by simp; omega) hne (fun i g => hm (j + 3 + i) ⟨(at2_drop l _ i).1 g.1, by have := (at2_drop l _ (i + 2)).1 g.2; rwa [← Nat.add_assoc] at this⟩)]
    rfl
theorem hd_en (l : List Nat) : en (l.take 8192) = (hd l).map tot := rfl
theorem enE_some {l : List Nat} {n : Nat} (h : en (l.take 8192) = some n) : enE l = (n, .ok) := by
  rw [hd_en] at h
  unfold enE
  cases g : hd l with
  | none => rw [g] at h; cases h
  | some ls => rw [g] at h; simp at h; simp [h]
theorem enE_none {l : List Nat} (h : en (l.take 8192) = none) : enE l = if l.length < 8192 then (0, .one l.length 6) else (0, .one 8192 3) := by
  rw [hd_en] at h
  unfold enE
  cases g : hd l with
  | none => rfl
  | some ls => rw [g] at h; simp at h

/-- All lines of a text that ends by a line's end. -/
def pcl (l : List Nat) : List (List Nat) := match h : pair l with
  | none => []
  | some k => l.take k :: pcl (l.drop (k + 2))
termination_by l.length
decreasing_by have := pair_lt h; simp; omega
theorem pcl_none {l : List Nat} (h : pair l = none) : pcl l = [] := by
  rw [pcl]; split
  · rfl
  · rename_i g; rw [h] at g; cases g
theorem pcl_some {l : List Nat} {k : Nat} (h : pair l = some k) : pcl l = l.take k :: pcl (l.drop (k + 2)) := by
  rw [pcl]; split
  · rename_i g; rw [h] at g; cases g
  · rename_i j g; rw [h] at g; cases g; rfl
theorem pcl_fl : ∀ (ls : List (List Nat)), (∀ x ∈ ls, pair x = none) → pcl (fl ls) = ls ++ [[]]
  | [], _ => by
    rw [fl_nil, pcl_some (k := 0) (by simp [pair]), pcl_none (by simp [pair])]; rfl
  | x :: ls, h => by
    have ih := pcl_fl ls fun y hy => h y (by simp [hy])
    have hp : pair (fl (x :: ls)) = some x.length := by rw [fl_cons]; exact pair_app x _ (h x (by simp))
    have e1 : (fl (x :: ls)).drop (x.length + 2) = fl ls := by
      rw [fl_cons, List.drop_append, List.drop_eq_nil_of_le (by omega), show x.length + 2 - x.length = 2 by omega]; rfl
    have e2 : (fl (x :: ls)).take x.length = x := by rw [fl_cons, List.take_append_of_le_length (by omega), List.take_of_length_le (by omega)]
    rw [pcl_some hp, e1, e2, ih]; rfl
/-- Where lines begin. -/
def begs (a : Nat) : List (List Nat) → List Nat
  | [] => []
  | x :: r => a :: begs (a + x.length + 2) r

/-- Pieces between blanks. -/
def bl : List Nat → List (List Nat)
  | [] => [[]]
  | c :: r => if c = 32 then [] :: bl r else ((c :: (bl r).headD []) :: (bl r).tail)
theorem bl_ne : ∀ l, bl l ≠ []
  | [] => by simp [bl]
  | c :: r => by unfold bl; split <;> simp
theorem bl_app : ∀ (p l : List Nat), 32 ∉ p → bl (p ++ 32 :: l) = p :: bl l
  | [], l, _ => by simp [bl]
  | c :: p, l, h => by
    simp at h
    have ih := bl_app p l h.2
    rw [List.cons_append, bl, if_neg (fun e => h.1 e.symm), ih]
    rfl
theorem bl_one : ∀ (p : List Nat), 32 ∉ p → bl p = [p]
  | [], _ => rfl
  | c :: p, h => by
    simp at h
    rw [bl, if_neg (fun e => h.1 e.symm), bl_one p h.2]
    rfl
/-- At most so many pieces. -/
def bln : Nat → List Nat → List (List Nat)
  | 0, _ => []
  | 1, l => [l]
  | k + 2, [] => [[]]
  | k + 2, c :: r => if c = 32 then [] :: bln (k + 1) r else ((c :: (bln (k + 2) r).headD []) :: (bln (k + 2) r).tail)

/-- A byte of a token. -/
def mk : List Nat := [33, 35, 36, 37, 38, 39, 42, 43, 45, 46, 94, 95, 96, 124, 126]
def tb (c : Nat) : Bool := (decide (97 ≤ c) && decide (c ≤ 122)) || (decide (65 ≤ c) && decide (c ≤ 90)) || dig c || mk.contains c
def tok (l : List Nat) : Bool := decide (l ≠ []) && decide (l.length ≤ 64) && l.all tb
def bk (c : Nat) : Bool := decide (c = 32) || decide (c = 9)
def vb (c : Nat) : Bool := decide (c = 9) || (decide (32 ≤ c) && decide (c ≤ 126))
def trimL (l : List Nat) : List Nat := l.dropWhile bk
def trimR (l : List Nat) : List Nat := (l.reverse.dropWhile bk).reverse
def trim (l : List Nat) : List Nat := trimL (trimR l)
def value (l : List Nat) : Bool := decide (l.length ≤ 4096) && decide (trim l = l) && l.all vb
/-- Bytes from a least to a most one. -/
def within (a b : Nat) (l : List Nat) : Bool := l.all fun c => decide (a ≤ c) && decide (c ≤ b)
def path (l : List Nat) : Bool := decide (l.head? = some 47) && decide (l.length ≤ 2048) && within 33 126 l
def reason (l : List Nat) : Bool := decide (l.length ≤ 256) && within 32 126 l
def v11 : List Nat := [72, 84, 84, 80, 47, 49, 46, 49]
def v10 : List Nat := [72, 84, 84, 80, 47, 49, 46, 48]
def ver (l : List Nat) : Bool := decide (l = v11) || decide (l = v10)
/-- A CR or LF. -/
def lone (l : List Nat) : Bool := l.any fun c => decide (c = 13) || decide (c = 10)
/-- The first place of a byte. -/
def fst (d : Nat) : List Nat → Option Nat
  | [] => none
  | c :: r => if c = d then some 0 else (fst d r).map (· + 1)
/-- A field. -/
abbrev Fd := List Nat × List Nat
def fld (x : List Nat) : Fd × Nat := match fst 58 x with
  | none => (([], []), 80)
  | some k => if lone x = true then (([], []), 80) else
    if tok (x.take k) = false then (([], []), 81) else
    if value (trim (x.drop (k + 1))) = false then (([], []), 83) else ((x.take k, trim (x.drop (k + 1))), 0)
def flds : Nat → List (List Nat) → List Fd → List Fd × Hr
  | _, [], acc => (acc, .ok)
  | a, x :: r, acc => if acc.length = 64 then ([], .one a 3) else
    if (fld x).2 ≠ 0 then ([], .one a (fld x).2) else flds (a + x.length + 2) r (acc ++ [(fld x).1])
def conn : List Nat := [67, 79, 78, 78, 69, 67, 84]
def sch : List Nat := [104, 116, 116, 112, 58, 47, 47]
/-- Where a target that is not CONNECT's goes, and its path. -/
def cutT (t : List Nat) : List Nat × List Nat := match fst 47 (t.drop 7) with
  | none => (t.drop 7, [47])
  | some k => ((t.drop 7).take k, (t.drop 7).drop k)
def okT (t : List Nat) : Bool := decide (t.take 7 = sch) && path (cutT t).2
/-- Where it goes. -/
def goTo (t : List Nat) : De × Er := if 58 ∈ t then dest t else match host t with
  | (h, .ok) => ((h, 80), .ok)
  | (_, e) => ((noH, 0), e)
def noD : De := (noH, 0)
abbrev Rq := List Nat × De × List Nat
def noR : Rq := ([], noD, [])
def targ (m t : List Nat) : Rq × Hr :=
  if m = conn then (match dest t with
    | (d, .ok) => ((m, d, []), .ok)
    | (_, e) => (noR, .wr (m.length + 1) e)) else
  if okT t = false then (noR, .one (m.length + 1) 82) else
  match goTo (cutT t).1 with
  | (d, .ok) => ((m, d, (cutT t).2), .ok)
  | (_, e) => (noR, .wr (m.length + 8) e)
/-- A request's line. -/
def rline (x : List Nat) : Rq × Hr := match bl x with
  | [m, t, v] => if ver v = false ∨ lone x = true then (noR, .one 0 80) else if tok m = false then (noR, .one 0 81) else targ m t
  | _ => (noR, .one 0 80)
def req (ls : List (List Nat)) : (Rq × List Fd) × Hr := match ls with
  | [] => ((noR, []), .one 0 80)
  | x :: r => match rline x with
    | (q, .ok) => match flds (x.length + 2) r [] with
      | (f, .ok) => ((q, f), .ok)
      | (_, e) => ((noR, []), e)
    | (_, e) => ((noR, []), e)
def request (l : List Nat) : (Rq × List Fd) × Nat × Hr := match hd l with
  | none => ((noR, []), 0, (enE l).2)
  | some ls => match req ls with
    | (q, .ok) => (q, tot ls, .ok)
    | (_, e) => ((noR, []), 0, e)
/-- A status. -/
def stat (l : List Nat) : Option Nat := if l.length = 3 ∧ l.all dig = true ∧ 100 ≤ val 0 l ∧ val 0 l ≤ 599 then some (val 0 l) else none
def yline (x : List Nat) : (Nat × List Nat) × Hr := match bln 3 x with
  | [v, c, r] => if ver v = false ∨ reason r = false then ((0, []), .one 0 80) else match stat c with
    | none => ((0, []), .one 0 80)
    | some n => ((n, r), .ok)
  | _ => ((0, []), .one 0 80)
def rep (ls : List (List Nat)) : ((Nat × List Nat) × List Fd) × Hr := match ls with
  | [] => (((0, []), []), .one 0 80)
  | x :: r => match yline x with
    | (q, .ok) => match flds (x.length + 2) r [] with
      | (f, .ok) => ((q, f), .ok)
      | (_, e) => (((0, []), []), e)
    | (_, e) => (((0, []), []), e)
def reply (l : List Nat) : ((Nat × List Nat) × List Fd) × Nat × Hr := match hd l with
  | none => (((0, []), []), 0, (enE l).2)
  | some ls => match rep ls with
    | (q, .ok) => (q, tot ls, .ok)
    | (_, e) => (((0, []), []), 0, e)
/-- What is written. -/
def fline (f : Fd) : List Nat := f.1 ++ 58 :: 32 :: f.2
def okF (f : Fd) : Bool := tok f.1 && value f.2
def put (x : List Nat) (fs : List Fd) : List Nat × Nat :=
  if fs.all okF = false then ([], 2) else
  if 64 < fs.length ∨ 8192 < tot (x :: fs.map fline) then ([], 3) else (fl (x :: fs.map fline), 0)
/-- Fields by their names. -/
def get : List Fd → List Nat → List Nat × Nat
  | [], _ => ([], 0)
  | f :: r, n => if low f.1 = low n then (f.2, (get r n).2 + 1) else get r n
end Go.Proofs.YtccoddmdlbdfjaaGreatDoor
