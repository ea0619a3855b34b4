/-
  Fields in numbers, further: pieces without blanks at their ends by their places, both parts of a list in step, keys; no program.
-/
import Derived.Test.YtffjhhacegnhmaaDoorFN
set_option linter.unusedSimpArgs false
set_option linter.unusedVariables false
namespace Go.Proofs.YtffjhhacegnhmaaDoor

theorem dw_all (p : Nat → Bool) : ∀ (x y : List Nat), (∀ c ∈ x, p c = true) → (x ++ y).dropWhile p = y.dropWhile p
  | [], y, _ => rfl
  | c :: r, y, h => by
    rw [List.cons_append, List.dropWhile_cons, if_pos (h c List.mem_cons_self)]
    exact dw_all p r y fun d hd => h d (List.mem_cons_of_mem _ hd)
theorem trim_span (x y z : List Nat) (hx : ∀ c ∈ x, bk c = true) (hz : ∀ c ∈ z, bk c = true) (hy : trim y = y) : trim (x ++ y ++ z) = y := by
  obtain ⟨h1, h2⟩ := (trim_ends y).1 hy
  unfold trim trimL trimR
  rw [List.reverse_append, dw_all bk _ _ (fun c hc => hz c (by simpa using hc)), List.reverse_append]
  cases hyy : y with
  | nil =>
    simp only [List.reverse_nil, List.nil_append]
    have : (x.reverse ++ []).dropWhile bk = ([] : List Nat).dropWhile bk := dw_all bk _ _ (fun c hc => hx c (by simpa using hc))
    rw [List.append_nil] at this
    rw [this]; rfl
  | cons c r =>
    rw [← hyy]
    have hne : y ≠ [] := by rw [hyy]; simp
    rw [dw_of bk (l := y.reverse ++ x.reverse) (fun d hd => by
      rw [List.head?_append, List.head?_reverse] at hd
      cases hg : y.getLast? with
      | none => exact absurd (List.getLast?_eq_none_iff.1 hg) hne
      | some q => rw [hg] at hd; simp at hd; exact h2 d (by rw [hg, hd]))]
    rw [List.reverse_append, List.reverse_reverse, List.reverse_reverse, dw_all bk _ _ hx, dw_of bk h1]
/-- From one place to another. -/
def sub (l : List Nat) (a b : Nat) : List Nat := (l.drop a).take (b - a)
theorem sub_len (l : List Nat) (a b : Nat) (h : b ≤ l.length) : (sub l a b).length = b - a := by simp [sub]; omega
theorem sub_nil (l : List Nat) (a : Nat) : sub l a a = [] := by simp [sub]
theorem sub_snoc (l : List Nat) {a b : Nat} (h1 : a ≤ b) (h2 : b < l.length) : sub l a (b + 1) = sub l a b ++ [l.getD b 0] := by
  unfold sub
  rw [show b + 1 - a = (b - a) + 1 by omega, List.take_add_one]
  congr 1
  rw [List.getElem?_drop, show a + (b - a) = b by omega, List.getElem?_eq_getElem h2]
  simp [List.getD, List.getElem?_eq_getElem h2]
theorem sub_cons (l : List Nat) {a b : Nat} (h1 : a < b) (h2 : a < l.length) : sub l a b = l.getD a 0 :: sub l (a + 1) b := by
  unfold sub
  rw [List.drop_eq_getElem_cons h2, show b - a = (b - (a + 1)) + 1 by omega, List.take_succ_cons]
  simp [List.getD, List.getElem?_eq_getElem h2]
theorem sub_app (l : List Nat) {a b c : Nat} (h1 : a ≤ b) (h2 : b ≤ c) : sub l a c = sub l a b ++ sub l b c := by
  unfold sub
  rw [show c - a = (b - a) + (c - b) by omega, List.take_add, List.drop_drop, show a + (b - a) = b by omega]
theorem sub_full (l : List Nat) (a : Nat) : sub l a l.length = l.drop a := by
  unfold sub
  exact List.take_of_length_le (by simp)
theorem sub_last (l : List Nat) {a b : Nat} (h1 : a < b) (h2 : b ≤ l.length) : (sub l a b).getLast? = some (l.getD (b - 1) 0) := by
  rw [show b = (b - 1) + 1 by omega, sub_snoc l (by omega) (by omega)]
  simp
theorem sub_trim (l : List Nat) {f a b i : Nat} (h1 : f ≤ a) (h2 : a ≤ b) (h3 : b ≤ i) (h4 : i ≤ l.length) (hl : ∀ c ∈ sub l f a, bk c = true) (hr : ∀ c ∈ sub l b i, bk c = true) (ha : a = b ∨ bk (l.getD a 0) = false) (hb : a = b ∨ bk (l.getD (b - 1) 0) = false) : trim (sub l f i) = sub l a b := by
  rw [sub_app l (show f ≤ b by omega) h3, sub_app l h1 h2]
  refine trim_span _ _ _ hl hr ?_
  by_cases e : a = b
  · subst e; rw [sub_nil]; rfl
  · rw [trim_ends]
    refine ⟨fun c hc => ?_, fun c hc => ?_⟩
    · rw [sub_cons l (by omega) (by omega)] at hc
      simp at hc
      subst hc
      exact ha.resolve_left e
    · rw [sub_last l (by omega) (by omega)] at hc
      cases hc
      exact hb.resolve_left e
theorem cms_hit (l : List Nat) {f i : Nat} (h1 : f ≤ i) (h2 : i < l.length) (hn : 44 ∉ sub l f i) (hc : l.getD i 0 = 44) : cms (l.drop f) = sub l f i :: cms (l.drop (i + 1)) := by
  have e : l.drop f = sub l f i ++ 44 :: l.drop (i + 1) := by
    rw [← sub_full l f, sub_app l h1 (Nat.le_of_lt h2)]
    congr 1
    rw [sub_cons l h2 h2, hc, sub_full]
  conv => lhs; rw [e]
  exact cms_app _ _ hn
theorem cms_end (l : List Nat) {f : Nat} (hn : 44 ∉ sub l f l.length) : cms (l.drop f) = [sub l f l.length] := by
  rw [sub_full] at hn ⊢
  exact cms_no _ hn
/-- Both parts of a list go in step. -/
theorem filter_drop {α : Type} (p : α → Bool) (l : List α) (n : Nat) : (l.filter p).drop ((l.take n).filter p).length = (l.drop n).filter p := by
  conv => lhs; rw [← List.take_append_drop n l]
  rw [List.filter_append]
  rw [show ((List.take n l ++ List.drop n l).take n) = l.take n by rw [List.take_append_drop]]
  rw [List.drop_append_of_le_length (Nat.le_refl _), List.drop_length]; rfl
theorem filter_hit {α : Type} (p : α → Bool) (l : List α) (n : Nat) (f : α) (h : l[n]? = some f) (hp : p f = true) : (l.filter p)[((l.take n).filter p).length]? = some f := by
  have hn := (List.getElem?_eq_some_iff.1 h).1
  have e := filter_drop p l n
  have h0 : l.drop n = f :: l.drop (n + 1) := by rw [List.drop_eq_getElem_cons hn, (List.getElem?_eq_some_iff.1 h).2]
  rw [h0, List.filter_cons_of_pos hp] at e
  have := congrArg List.head? e
  rw [List.head?_drop] at this
  exact this
theorem filter_len {α : Type} (p : α → Bool) (l : List α) (n : Nat) (f : α) (h : l[n]? = some f) : ((l.take (n + 1)).filter p).length = ((l.take n).filter p).length + (if p f = true then 1 else 0) := by
  have hn := (List.getElem?_eq_some_iff.1 h).1
  rw [List.take_add_one, h, List.filter_append, List.length_append]
  congr 1
  by_cases hp : p f = true
  · simp [hp]
  · simp [hp]
theorem filter_two {α : Type} (p : α → Bool) (l : List α) : (l.filter fun f => p f == true).length + (l.filter fun f => p f == false).length = l.length := by
  induction l with
  | nil => rfl
  | cons a r ih =>
    cases h : p a with
    | true => simp [List.filter_cons, h]; simp at ih; omega
    | false => simp [List.filter_cons, h]; simp at ih; omega
theorem filter_other {α : Type} (p : α → Bool) (l : List α) {k : Nat} {g : α} (h : (l.filter p)[k]? = some g) : p g = true := (List.mem_filter.1 (List.mem_of_getElem? h)).2
/-- A key. -/
def getM : List Nat := [71, 69, 84]
end Go.Proofs.YtffjhhacegnhmaaDoor
