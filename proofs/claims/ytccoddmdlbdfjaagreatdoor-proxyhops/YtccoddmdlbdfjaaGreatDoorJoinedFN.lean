/-
  Fields in numbers: pieces between commas, what is read of them, hop fields, directives, ages, keys; no program.; Fields in numbers, further: pieces without blanks at their ends by their places, both parts of a list in step, keys; no program.; Small functions of package fields: small, readName, readDirective, readNumber, readAge, forbids; conditions as each theorem has them.
-/
import Derived.Test.YtccoddmdlbdfjaaGreatDoorN2
import Derived.Test.YtccoddmdlbdfjaaGreatDoorJoinedD
set_option linter.unusedSimpArgs false
set_option linter.unusedVariables false
namespace Go.Proofs.YtccoddmdlbdfjaaGreatDoor

/-- The pieces between commas. -/
def cms : List Nat → List (List Nat)
  | [] => [[]]
  | c :: r => if c = 44 then [] :: cms r else ((c :: (cms r).headD []) :: (cms r).tail)
theorem cms_ne : ∀ l, cms l ≠ []
  | [] => by simp [cms]
  | c :: r => by unfold cms; split <;> simp
theorem cms_no : ∀ (p : List Nat), 44 ∉ p → cms p = [p]
  | [], _ => rfl
  | c :: r, h => by
    have ih := cms_no r (fun e => h (List.mem_cons_of_mem _ e))
    have hc : ¬ c = 44 := fun e => h (by rw [e]; exact List.mem_cons_self)
    rw [cms, if_neg hc, ih]; rfl
theorem cms_app : ∀ (p l : List Nat), 44 ∉ p → cms (p ++ 44 :: l) = p :: cms l
  | [], l, _ => by simp [cms]
  | c :: r, l, h => by
    have ih := cms_app r l (fun e => h (List.mem_cons_of_mem _ e))
    have hc : ¬ c = 44 := fun e => h (by rw [e]; exact List.mem_cons_self)
    rw [List.cons_append, cms, if_neg hc, ih]; rfl
theorem cms_none {l : List Nat} (h : fst 44 l = none) : cms l = [l] := cms_no l (fst_none_iff.1 h)
theorem csplit {d : Nat} {l : List Nat} {k : Nat} (h : fst d l = some k) : l = l.take k ++ d :: l.drop (k + 1) ∧ d ∉ l.take k := by
  obtain ⟨h1, h2, h3⟩ := fst_lt h
  refine ⟨?_, fun hm => ?_⟩
  · conv => lhs; rw [← List.take_append_drop k l]
    congr 1
    rw [List.drop_eq_getElem_cons h1]
    rw [List.getElem?_eq_getElem h1] at h2
    rw [Option.some.inj h2]
  · obtain ⟨i, hi, e⟩ := List.getElem_of_mem hm
    have hik : i < k := by have := List.length_take_le k l; omega
    apply h3 i hik
    rw [List.getElem_take] at e
    rw [List.getElem?_eq_getElem (by omega), e]
theorem cms_some {l : List Nat} {k : Nat} (h : fst 44 l = some k) : cms l = l.take k :: cms (l.drop (k + 1)) := by
  obtain ⟨h1, h2⟩ := csplit h
  conv => lhs; rw [h1]
  exact cms_app _ _ h2
theorem cms_sub : ∀ (l : List Nat), ∀ p ∈ cms l, ∀ c ∈ p, c ∈ l
  | [], p, hp, c, hc => by
    simp only [cms, List.mem_singleton] at hp
    subst hp; simp at hc
  | d :: r, p, hp, c, hc => by
    have ih := cms_sub r
    have hne := cms_ne r
    unfold cms at hp
    split at hp
    · rcases List.mem_cons.1 hp with rfl | hp
      · simp at hc
      · exact List.mem_cons_of_mem _ (ih p hp c hc)
    · cases h : cms r with
      | nil => exact absurd h hne
      | cons q qs =>
        rw [h] at hp ih
        simp only [List.headD_cons, List.tail_cons] at hp
        rcases List.mem_cons.1 hp with rfl | hp
        · rcases List.mem_cons.1 hc with rfl | hc
          · exact List.mem_cons_self
          · exact List.mem_cons_of_mem _ (ih q List.mem_cons_self c hc)
        · exact List.mem_cons_of_mem _ (ih p (List.mem_cons_of_mem _ hp) c hc)
theorem cms_len : ∀ (l : List Nat), (cms l).length ≤ l.length + 1
  | [] => by simp [cms]
  | c :: r => by
    have ih := cms_len r
    have hne := cms_ne r
    unfold cms
    split
    · simp; omega
    · cases h : cms r with
      | nil => exact absurd h hne
      | cons q qs => rw [h] at ih; simp at ih ⊢; omega
/-- What is read of the pieces of all fields of a name. -/
def gat {α : Type} (nm : List Nat) (rd : List Nat → Option α) : List Fd → List α
  | [] => []
  | f :: r => (if low f.1 = nm then (cms f.2).filterMap (fun p => rd (trim p)) else []) ++ gat nm rd r
theorem gat_app {α : Type} (nm : List Nat) (rd : List Nat → Option α) : ∀ (a b : List Fd), gat nm rd (a ++ b) = gat nm rd a ++ gat nm rd b
  | [], b => rfl
  | f :: a, b => by simp only [List.cons_append, gat, gat_app nm rd a b, List.append_assoc]
theorem gat_one {α : Type} (nm : List Nat) (rd : List Nat → Option α) (f : Fd) : gat nm rd [f] = if low f.1 = nm then (cms f.2).filterMap (fun p => rd (trim p)) else [] := by
  simp [gat]
theorem gat_len {α : Type} (nm : List Nat) (rd : List Nat → Option α) : ∀ (fs : List Fd), (gat nm rd fs).length ≤ (fs.map fun f => f.2.length + 1).sum
  | [] => by simp [gat]
  | f :: r => by
    have ih := gat_len nm rd r
    have h1 : (if low f.1 = nm then (cms f.2).filterMap (fun p => rd (trim p)) else []).length ≤ f.2.length + 1 := by
      split
      · exact Nat.le_trans (List.length_filterMap_le _ _) (cms_len f.2)
      · simp
    simp only [gat, List.length_append, List.map_cons, List.sum_cons]
    omega
/-- A whole number of at most seven digits. -/
def n7 (l : List Nat) : Option Nat := if isNum l = true ∧ l.length ≤ 7 then some (val 0 l) else none
def cnS : List Nat := [99, 111, 110, 110, 101, 99, 116, 105, 111, 110]
def ccS : List Nat := [99, 97, 99, 104, 101, 45, 99, 111, 110, 116, 114, 111, 108]
def maS : List Nat := [109, 97, 120, 45, 97, 103, 101, 61]
def clS : List Nat := [99, 111, 110, 116, 101, 110, 116, 45, 108, 101, 110, 103, 116, 104]
def teS : List Nat := [116, 114, 97, 110, 115, 102, 101, 114, 45, 101, 110, 99, 111, 100, 105, 110, 103]
def nsS : List Nat := [110, 111, 45, 115, 116, 111, 114, 101]
def ncS : List Nat := [110, 111, 45, 99, 97, 99, 104, 101]
def prS : List Nat := [112, 114, 105, 118, 97, 116, 101]
def ncE : List Nat := [110, 111, 45, 99, 97, 99, 104, 101, 61]
def prE : List Nat := [112, 114, 105, 118, 97, 116, 101, 61]
def kaS : List Nat := [107, 101, 101, 112, 45, 97, 108, 105, 118, 101]
def paS : List Nat := [112, 114, 111, 120, 121, 45, 97, 117, 116, 104, 101, 110, 116, 105, 99, 97, 116, 101]
def pzS : List Nat := [112, 114, 111, 120, 121, 45, 97, 117, 116, 104, 111, 114, 105, 122, 97, 116, 105, 111, 110]
def pcS : List Nat := [112, 114, 111, 120, 121, 45, 99, 111, 110, 110, 101, 99, 116, 105, 111, 110]
def tS : List Nat := [116, 101]
def trS : List Nat := [116, 114, 97, 105, 108, 101, 114]
def upS : List Nat := [117, 112, 103, 114, 97, 100, 101]
def fixN : List (List Nat) := [cnS, kaS, paS, pzS, pcS, tS, trS, teS, upS]
def rdN (p : List Nat) : Option (List Nat) := if tok p = true then some (low p) else none
def rdD (p : List Nat) : Option (List Nat) := if p = [] then none else some (low p)
def mx (d : List Nat) : Option Nat := if d.take 8 = maS then some ((n7 (d.drop 8)).getD 0) else none
def rdA (p : List Nat) : Option Nat := mx (low p)
theorem mx_nil : mx [] = none := rfl
theorem rdA_bind (p : List Nat) : rdA p = (rdD p).bind mx := by
  unfold rdA rdD
  by_cases h : p = []
  · subst h; rfl
  · rw [if_neg h]; rfl
def dirs (fs : List Fd) : List (List Nat) := gat ccS rdD fs
theorem gat_bind {α β : Type} (nm : List Nat) (f : List Nat → Option α) (g : α → Option β) : ∀ fs, gat nm (fun p => (f p).bind g) fs = (gat nm f fs).filterMap g
  | [] => rfl
  | x :: r => by
    simp only [gat, gat_bind nm f g r, List.filterMap_append]
    congr 1
    split
    · rw [List.filterMap_filterMap]
    · rfl
theorem ages_dirs (fs : List Fd) : gat ccS rdA fs = (dirs fs).filterMap mx := by
  rw [dirs, ← gat_bind]
  congr 1
  funext p
  exact rdA_bind p
/-- What forbids. -/
def forb (d : List Nat) : Bool := decide (d = nsS) || decide (d = ncS) || decide (d = prS) || decide (d.take 9 = ncE) || decide (d.take 8 = prE)
def agev (fs : List Fd) : Nat × Bool := if (dirs fs).any forb = true then (0, false) else match gat ccS rdA fs with
  | [n] => if n = 0 then (0, false) else (min n 1048576, true)
  | _ => (0, false)
/-- As the reference reads it, directive by directive. -/
def rg : List (List Nat) → Nat → Nat → Nat × Bool
  | [], a, n => if n = 1 then (a, true) else (0, false)
  | d :: r, a, n => if forb d = true then (0, false) else
    match mx d with
    | none => rg r a n
    | some m => if m = 0 then (0, false) else rg r (min m 1048576) (n + 1)
theorem rg_eq : ∀ (ds : List (List Nat)) (a n : Nat), rg ds a n = if ds.any forb = true then (0, false) else if (ds.filterMap mx).any (fun m => decide (m = 0)) = true then (0, false) else
    if n + (ds.filterMap mx).length = 1 then (match ds.filterMap mx with | [] => (a, true) | m :: _ => (min m 1048576, true)) else (0, false)
  | [], a, n => by simp [rg]; rfl
  | d :: r, a, n => by
    rw [rg, List.any_cons]
    by_cases hf : forb d = true
    · rw [if_pos hf, hf, Bool.true_or, if_pos rfl]
    · have hf' : forb d = false := by simpa using hf
      rw [if_neg hf, hf', Bool.false_or]
      cases hm : mx d with
      | none =>
        rw [List.filterMap_cons_none hm]
        exact rg_eq r a n
      | some m =>
        rw [List.filterMap_cons_some hm]
        simp only [List.any_cons, List.length_cons]
        by_cases h0 : m = 0
        · rw [if_pos h0, decide_eq_true h0, Bool.true_or, if_pos rfl]
          split <;> rfl
        · rw [if_neg h0, decide_eq_false h0, Bool.false_or, rg_eq r (min m 1048576) (n + 1)]
          by_cases h1 : r.any forb = true
          · rw [if_pos h1, if_pos h1]
          · rw [if_neg h1, if_neg h1]
            by_cases h2 : (r.filterMap mx).any (fun m => decide (m = 0)) = true
            · rw [if_pos h2, if_pos h2]
            · rw [if_neg h2, if_neg h2]
              by_cases h3 : n + 1 + (r.filterMap mx).length = 1
              · rw [if_pos h3, if_pos (show n + ((r.filterMap mx).length + 1) = 1 by omega)]
                have : r.filterMap mx = [] := List.length_eq_zero_iff.1 (by omega)
                rw [this]
              · rw [if_neg h3, if_neg (show ¬ n + ((r.filterMap mx).length + 1) = 1 by omega)]
theorem rg_agev (fs : List Fd) : rg (dirs fs) 0 0 = agev fs := by
  rw [rg_eq, agev, ages_dirs]
  split
  · rfl
  · cases h : (dirs fs).filterMap mx with
    | nil => simp
    | cons m r =>
      cases r with
      | nil =>
        by_cases h0 : m = 0
        · simp [h0]
        · simp [h0]
      | cons k r => simp
theorem agev_no {fs : List Fd} (h : (agev fs).2 = false) : (agev fs).1 = 0 := by
  unfold agev at h ⊢
  split
  · rfl
  · rename_i h1
    rw [if_neg h1] at h
    revert h
    cases gat ccS rdA fs with
    | nil => intro _; rfl
    | cons m r =>
      cases r with
      | nil =>
        simp only
        split
        · intro _; rfl
        · intro h; cases h
      | cons k r => intro _; rfl
theorem agev_le (fs : List Fd) : (agev fs).1 ≤ 1048576 := by
  unfold agev
  split
  · simp
  · cases gat ccS rdA fs with
    | nil => simp
    | cons m r =>
      cases r with
      | nil =>
        simp only
        split
        · simp
        · simp; omega
      | cons k r => simp
theorem agev_other (a b : List Fd) (x : Fd) (h : low x.1 ≠ ccS) : agev (a ++ [x] ++ b) = agev (a ++ b) := by
  have e : ∀ {α : Type} (rd : List Nat → Option α), gat ccS rd (a ++ [x] ++ b) = gat ccS rd (a ++ b) := fun rd => by
    rw [gat_app, gat_app, gat_app, gat_one, if_neg h, List.append_nil]
  unfold agev dirs
  rw [e, e]
/-- The names of hop fields. -/
def hopN (fs : List Fd) : List (List Nat) := fixN ++ gat cnS rdN fs
def hopB (fs : List Fd) (n : List Nat) : Bool := (hopN fs).contains (low n)
def somE (fs : List Fd) (b : Bool) : List Fd × Nat := if 64 < fs.length then ([], 3) else (fs.filter (fun f => hopB fs f.1 == b), 0)
theorem hopB_fix (fs : List Fd) {n : List Nat} (h : hopB fs n = false) : fixN.contains (low n) = false := by
  unfold hopB hopN at h
  simp only [List.contains_eq_mem, List.mem_append, decide_eq_false_iff_not, not_or] at h
  simp only [List.contains_eq_mem, decide_eq_false_iff_not]
  exact h.1
theorem gat_nil {α : Type} (nm : List Nat) (rd : List Nat → Option α) : ∀ (fs : List Fd), (∀ f ∈ fs, low f.1 ≠ nm) → gat nm rd fs = []
  | [], _ => rfl
  | f :: r, h => by
    simp only [gat, if_neg (h f List.mem_cons_self), List.nil_append]
    exact gat_nil nm rd r fun g hg => h g (List.mem_cons_of_mem _ hg)
/-- What is kept is kept again. -/
theorem keep_keep (fs : List Fd) : (fs.filter fun f => hopB fs f.1 == false).filter (fun f => hopB (fs.filter fun f => hopB fs f.1 == false) f.1 == false) = fs.filter fun f => hopB fs f.1 == false := by
  obtain ⟨gs, hgs⟩ : ∃ gs, gs = fs.filter fun f => hopB fs f.1 == false := ⟨_, rfl⟩
  rw [← hgs]
  have h1 : ∀ f ∈ gs, fixN.contains (low f.1) = false := fun f hf => by
    rw [hgs] at hf
    have := (List.mem_filter.1 hf).2
    exact hopB_fix fs (by simpa using this)
  have h2 : gat cnS rdN gs = [] := gat_nil _ _ _ fun f hf e => by
    have := h1 f hf
    rw [e] at this
    exact absurd this (by decide)
  rw [List.filter_eq_self]
  intro f hf
  have := h1 f hf
  unfold hopB hopN
  rw [h2, List.append_nil, this]; rfl
/-- A length that is told. -/
def lenv (fs : List Fd) : Option Nat := if (get fs clS).2 = 1 ∧ (get fs teS).2 = 0 then n7 (get fs clS).1 else none
theorem val_bound : ∀ (l : List Nat) (a : Nat), (∀ c ∈ l, c ≤ 57) → val a l < (a + 1) * 10 ^ l.length
  | [], a, _ => by simp [val]
  | c :: r, a, h => by
    have hc := h c List.mem_cons_self
    have ih := val_bound r (step a c) fun x hx => h x (List.mem_cons_of_mem _ hx)
    rw [val_cons]
    refine Nat.lt_of_lt_of_le ih ?_
    rw [List.length_cons, Nat.pow_succ, Nat.mul_comm (10 ^ r.length) 10, ← Nat.mul_assoc]
    apply Nat.mul_le_mul_right
    unfold step
    omega
theorem isNum_dig {l : List Nat} (h : isNum l = true) : ∀ c ∈ l, 48 ≤ c ∧ c ≤ 57 := fun c hc => by
  unfold isNum at h
  simp only [Bool.and_eq_true] at h
  exact (dig_iff c).1 (List.all_eq_true.1 h.1.2 c hc)
theorem n7_lt {l : List Nat} {n : Nat} (h : n7 l = some n) : n < 10000000 := by
  unfold n7 at h
  split at h
  · rename_i hh
    cases h
    have := val_bound l 0 fun c hc => (isNum_dig hh.1 c hc).2
    have h2 : 10 ^ l.length ≤ 10 ^ 7 := Nat.pow_le_pow_right (by omega) hh.2
    have h3 : (10 : Nat) ^ 7 = 10000000 := by decide
    omega
  · cases h
theorem mx_lt {d : List Nat} {n : Nat} (h : mx d = some n) : n < 10000000 := by
  unfold mx at h
  split at h
  · cases h
    cases h7 : n7 (d.drop 8) with
    | none => simp
    | some m => simp; exact n7_lt h7
  · cases h
end Go.Proofs.YtccoddmdlbdfjaaGreatDoor

set_option linter.unusedSimpArgs false
set_option linter.unusedVariables false
namespace Go.Proofs.YtccoddmdlbdfjaaGreatDoor

theorem dw_all (p : Nat → Bool) : ∀ (x y : List Nat), (∀ c ∈ x, p c = true) → (x ++ y).dropWhile p = y.dropWhile p
  | [], y, _ => rfl
  | c :: r, y, h => by
    rw [List.cons_append, List.dropWhile_cons, if_pos (h c List.mem_cons_self)]
    exact dw_all p r y fun d hd => h d (List.mem_cons_of_mem _ hd)
theorem trim_span (x y z : List Nat) (hx : ∀ c ∈ x, bk c = true) (hz : ∀ c ∈ z, bk c = true) (hy : trim y = y) : trim (x ++ y ++ z) = y := by
  obtain ⟨h1, h2⟩ := (trim_ends y).1 hy
  unfold trim trimL trimR
  rw [List.reverse_append, dw_all bk _ _ (fun c hc => hz c (by simpa using hc)), List.reverse_append]
  cases hyy : y with
  | nil =>
    simp only [List.reverse_nil, List.nil_append]
    have : (x.reverse ++ []).dropWhile bk = ([] : List Nat).dropWhile bk := dw_all bk _ _ (fun c hc => hx c (by simpa using hc))
    rw [List.append_nil] at this
    rw [this]; rfl
  | cons c r =>
    rw [← hyy]
    have hne : y ≠ [] := by rw [hyy]; simp
    rw [dw_of bk (l := y.reverse ++ x.reverse) (fun d hd => by
      rw [List.head?_append, List.head?_reverse] at hd
      cases hg : y.getLast? with
      | none => exact absurd (List.getLast?_eq_none_iff.1 hg) hne
      | some q => rw [hg] at hd; simp at hd; exact h2 d (by rw [hg, hd]))]
    rw [List.reverse_append, List.reverse_reverse, List.reverse_reverse, dw_all bk _ _ hx, dw_of bk h1]
/-- From one place to another. -/
def sub (l : List Nat) (a b : Nat) : List Nat := (l.drop a).take (b - a)
theorem sub_len (l : List Nat) (a b : Nat) (h : b ≤ l.length) : (sub l a b).length = b - a := by simp [sub]; omega
theorem sub_nil (l : List Nat) (a : Nat) : sub l a a = [] := by simp [sub]
theorem sub_snoc (l : List Nat) {a b : Nat} (h1 : a ≤ b) (h2 : b < l.length) : sub l a (b + 1) = sub l a b ++ [l.getD b 0] := by
  unfold sub
  rw [show b + 1 - a = (b - a) + 1 by omega, List.take_add_one]
  congr 1
  rw [List.getElem?_drop, show a + (b - a) = b by omega, List.getElem?_eq_getElem h2]
  simp [List.getD, List.getElem?_eq_getElem h2]
theorem sub_cons (l : List Nat) {a b : Nat} (h1 : a < b) (h2 : a < l.length) : sub l a b = l.getD a 0 :: sub l (a + 1) b := by
  unfold sub
  rw [List.drop_eq_getElem_cons h2, show b - a = (b - (a + 1)) + 1 by omega, List.take_succ_cons]
  simp [List.getD, List.getElem?_eq_getElem h2]
theorem sub_app (l : List Nat) {a b c : Nat} (h1 : a ≤ b) (h2 : b ≤ c) : sub l a c = sub l a b ++ sub l b c := by
  unfold sub
  rw [show c - a = (b - a) + (c - b) by omega, List.take_add, List.drop_drop, show a + (b - a) = b by omega]
theorem sub_full (l : List Nat) (a : Nat) : sub l a l.length = l.drop a := by
  unfold sub
  exact List.take_of_length_le (by simp)
theorem sub_last (l : List Nat) {a b : Nat} (h1 : a < b) (h2 : b ≤ l.length) : (sub l a b).getLast? = some (l.getD (b - 1) 0) := by
  rw [show b = (b - 1) + 1 by omega, sub_snoc l (by omega) (by omega)]
  simp
theorem sub_trim (l : List Nat) {f a b i : Nat} (h1 : f ≤ a) (h2 : a ≤ b) (h3 : b ≤ i) (h4 : i ≤ l.length) (hl : ∀ c ∈ sub l f a, bk c = true) (hr : ∀ c ∈ sub l b i, bk c = true) (ha : a = b ∨ bk (l.getD a 0) = false) (hb : a = b ∨ bk (l.getD (b - 1) 0) = false) : trim (sub l f i) = sub l a b := by
  rw [sub_app l (show f ≤ b by omega) h3, sub_app l h1 h2]
  refine trim_span _ _ _ hl hr ?_
  by_cases e : a = b
  · subst e; rw [sub_nil]; rfl
  · rw [trim_ends]
    refine ⟨fun c hc => ?_, fun c hc => ?_⟩
    · rw [sub_cons l (by omega) (by omega)] at hc
      simp at hc
      subst hc
      exact ha.resolve_left e
    · rw [sub_last l (by omega) (by omega)] at hc
      cases hc
      exact hb.resolve_left e
theorem cms_hit (l : List Nat) {f i : Nat} (h1 : f ≤ i) (h2 : i < l.length) (hn : 44 ∉ sub l f i) (hc : l.getD i 0 = 44) : cms (l.drop f) = sub l f i :: cms (l.drop (i + 1)) := by
  have e : l.drop f = sub l f i ++ 44 :: l.drop (i + 1) := by
    rw [← sub_full l f, sub_app l h1 (Nat.le_of_lt h2)]
    congr 1
    rw [sub_cons l h2 h2, hc, sub_full]
  conv => lhs; rw [e]
  exact cms_app _ _ hn
theorem cms_end (l : List Nat) {f : Nat} (hn : 44 ∉ sub l f l.length) : cms (l.drop f) = [sub l f l.length] := by
  rw [sub_full] at hn ⊢
  exact cms_no _ hn
/-- Both parts of a list go in step. -/
theorem filter_drop {α : Type} (p : α → Bool) (l : List α) (n : Nat) : (l.filter p).drop ((l.take n).filter p).length = (l.drop n).filter p := by
  conv => lhs; rw [← List.take_append_drop n l]
  rw [List.filter_append]
  rw [show ((List.take n l ++ List.drop n l).take n) = l.take n by rw [List.take_append_drop]]
  rw [List.drop_append_of_le_length (Nat.le_refl _), List.drop_length]; rfl
theorem filter_hit {α : Type} (p : α → Bool) (l : List α) (n : Nat) (f : α) (h : l[n]? = some f) (hp : p f = true) : (l.filter p)[((l.take n).filter p).length]? = some f := by
  have hn := (List.getElem?_eq_some_iff.1 h).1
  have e := filter_drop p l n
  have h0 : l.drop n = f :: l.drop (n + 1) := by rw [List.drop_eq_getElem_cons hn, (List.getElem?_eq_some_iff.1 h).2]
  rw [h0, List.filter_cons_of_pos hp] at e
  have := congrArg List.head? e
  rw [List.head?_drop] at this
  exact this
theorem filter_len {α : Type} (p : α → Bool) (l : List α) (n : Nat) (f : α) (h : l[n]? = some f) : ((l.take (n + 1)).filter p).length = ((l.take n).filter p).length + (if p f = true then 1 else 0) := by
  have hn := (List.getElem?_eq_some_iff.1 h).1
  rw [List.take_add_one, h, List.filter_append, List.length_append]
  congr 1
  by_cases hp : p f = true
  · simp [hp]
  · simp [hp]
theorem filter_two {α : Type} (p : α → Bool) (l : List α) : (l.filter fun f => p f == true).length + (l.filter fun f => p f == false).length = l.length := by
  induction l with
  | nil => rfl
  | cons a r ih =>
    cases h : p a with
    | true => simp [List.filter_cons, h]; simp at ih; omega
    | false => simp [List.filter_cons, h]; simp at ih; omega
theorem filter_other {α : Type} (p : α → Bool) (l : List α) {k : Nat} {g : α} (h : (l.filter p)[k]? = some g) : p g = true := (List.mem_filter.1 (List.mem_of_getElem? h)).2
/-- A key. -/
def getM : List Nat := [71, 69, 84]
end Go.Proofs.YtccoddmdlbdfjaaGreatDoor

set_option linter.unusedSimpArgs false
set_option linter.unusedVariables false
namespace Go.Proofs.YtccoddmdlbdfjaaGreatDoor
open Go.RowKit

set_option maxRecDepth 100000 in
set_option maxHeartbeats 4000000 in
theorem fsmall_at (t : ByteArray) (w : World) (hm : t.size ≤ 140737488355328) : Calls Tryz.prog 99 #[.string t] w fun e w' => e = .returned (.string (strN (low (byt t)))) ∧ Below w.heap.size w w' := by
  obtain ⟨l, hl⟩ : ∃ l, l = byt t := ⟨_, rfl⟩
  rw [← hl]
  have HL : Hid (byt t = l) := hl.symm
  obtain ⟨N, hN⟩ : ∃ N, N = t.size := ⟨_, rfl⟩
  have HNL : Hid (N = l.length) := by show _ = _; rw [hN, hl, byt_length]
  have HLT : Hid (∀ k, l.getD k 0 < 256) := fun k => by rw [hl]; exact getD_lt (byt_lt t) k
  obtain ⟨cap, w1, hcv, hcap, hb1, hbeg⟩ := conv_bytes t w
  rw [← hN] at hcv hcap hm
  rw [← hl] at hbeg
  have HI : Hid (Beg w1 w.heap.size (low (l.take 0) ++ l.drop 0) ∧ Below w.heap.size w w1) := ⟨hbeg, hb1⟩
  clear hl hN hb1 hbeg
  go_enter Tryz.func99, Tryz.ntmps99
  go_wp2_with fail
  clear hcv
  go_loopw [10] (fun i wr => ∃ k : Nat, k ≤ N ∧ i = .int .i64 k ∧ Hid (Beg wr w.heap.size (low (l.take k) ++ l.drop k) ∧ Below w.heap.size w wr)) (fun i _ => N - (intOf i).toNat)
  case atStart => exact ⟨0, by omega, rfl, HI.out⟩
  case round =>
    obtain ⟨k, hk, rfl, HI⟩ := hrel
    obtain ⟨i1, i2⟩ := HI.out
    have I1 := hide i1
    have I2 := hide i2
    by_cases hkN : k < N
    · have hdk : decide ((k : Int) < (N : Int)) = true := decide_eq_true (by omega)
      have hkl : k < l.length := by rw [← HNL.out]; exact hkN
      have hcl := i1.cell (j := k) (by rw [mid_len]; exact hkl)
      rw [mid_getD l k hkl] at hcl
      have hfr := i1.frozen (j := k) (by rw [mid_len]; exact hkl)
      have hc := HLT.out k
      have HS := hide (i1.set (j := k) (by rw [mid_len]; exact hkl) (lo (l.getD k 0)))
      rw [low_set l k hkl] at HS
      have HM : Hid (lo (l.getD k 0) = l.getD k 0 → low (l.take k) ++ l.drop k = low (l.take (k + 1)) ++ l.drop (k + 1)) := low_same l k hkl
      obtain ⟨c, hcc⟩ : ∃ c, c = l.getD k 0 := ⟨_, rfl⟩
      rw [← hcc] at hcl hc HS HM
      clear hcc hkl i1 i2
      by_cases h65 : 65 ≤ c
      · have q1 : decide (65 ≤ (c : Int)) = true := decide_eq_true (by omega)
        by_cases h90 : c ≤ 90
        · have q2 : decide ((c : Int) ≤ 90) = true := decide_eq_true (by omega)
          have hlo : lo c = c + 32 := by rw [lo, if_pos ⟨h65, h90⟩]
          rw [hlo, show ((c + 32 : Nat) : Int) = (c : Int) - 65 + 97 by omega] at HS
          clear hlo HM
          go_wp2_with fail
          go_roundw
          case rel => exact ⟨k + 1, by omega, by go_num, HS.out, I2.out.setCell (by simp) _⟩
          case measure => simp [intOf]; omega
        · have q2 : decide ((c : Int) ≤ 90) = false := decide_eq_false (by omega)
          have hlo : lo c = c := by rw [lo, if_neg (by omega)]
          have HM2 := hide (HM.out hlo)
          clear hlo HM HS
          go_wp2_with fail
          go_roundw
          case rel => exact ⟨k + 1, by omega, by go_num, by have := I1.out; rw [HM2.out] at this; exact this, I2.out⟩
          case measure => simp [intOf]; omega
      · have q1 : decide (65 ≤ (c : Int)) = false := decide_eq_false (by omega)
        have hlo : lo c = c := by rw [lo, if_neg (by omega)]
        have HM2 := hide (HM.out hlo)
        clear hlo HM HS
        go_wp2_with fail
        go_roundw
        case rel => exact ⟨k + 1, by omega, by go_num, by have := I1.out; rw [HM2.out] at this; exact this, I2.out⟩
        case measure => simp [intOf]; omega
    · have hdk : decide ((k : Int) < (N : Int)) = false := decide_eq_false (by omega)
      rw [List.take_of_length_le (by rw [← HNL.out]; omega), List.drop_eq_nil_of_le (by rw [← HNL.out]; omega), List.append_nil] at i1
      have hstr := run_str wr w.heap.size 0 N cap (low l) (by rw [low_length, ← HNL.out]) (fun i hi => by
        rw [Nat.zero_add]; exact i1.cell (by rw [low_length, ← HNL.out]; exact hi))
      clear i1 i2
      go_wp2_with fail
      go_ret
      exact ⟨rfl, I2.out⟩
/-- What a reader of pieces answers: a text, and whether there is one. -/
def RdS (rd : List Nat → Option (List Nat)) (t : ByteArray) (e : Ending) : Prop := ∃ (x : ByteArray) (ok : Bool), e = .returned (.tuple #[.string x, .bool ok]) ∧ rd (byt t) = if ok then some (byt x) else none
def RdI (rd : List Nat → Option Nat) (t : ByteArray) (e : Ending) : Prop := ∃ (x : Nat) (ok : Bool), e = .returned (.tuple #[.int .i64 (x : Nat), .bool ok]) ∧ x < 10000000 ∧ rd (byt t) = if ok then some x else none
theorem readName_at (t : ByteArray) (w : World) (hm : t.size ≤ 140737488355328) : Calls Tryz.prog 139 #[.string t] w fun e w' => RdS rdN t e ∧ Below w.heap.size w w' := by
  have HS := hide (fsmall_at t w hm)
  have HT : Hid (∀ W, Calls Tryz.prog 92 #[.string t] W fun e w' => e = .returned (.bool (tok (byt t))) ∧ Below W.heap.size W w') := fun W => token_at t W (by unfold maxLen; omega)
  have HR : Hid (rdN (byt t) = if tok (byt t) then some (byt (strN (low (byt t)))) else none) := by
    show _ = _
    rw [byt_strN _ (low_lt (byt_lt t))]; rfl
  obtain ⟨X, hX⟩ : ∃ X, X = strN (low (byt t)) := ⟨_, rfl⟩
  obtain ⟨b, hb⟩ : ∃ b, b = tok (byt t) := ⟨_, rfl⟩
  rw [← hX, ← hb] at HR
  rw [← hX] at HS
  rw [← hb] at HT
  clear hX hb hm
  go_enter Tryz.func139, Tryz.ntmps139
  go_wp2_with fail
  refine HS.out.mono ?_
  rintro e w1 ⟨rfl, hb1⟩
  have B1 := hide hb1
  clear hb1
  go_wp2_with fail
  refine (HT.out _).mono ?_
  rintro e w2 ⟨rfl, hb2⟩
  have B2 := hide (B1.out.trans (hb2.mono B1.out.size))
  clear hb2
  go_wp2_with fail
  go_ret2
  exact ⟨⟨X, b, rfl, HR.out⟩, B2.out⟩
end Go.Proofs.YtccoddmdlbdfjaaGreatDoor
