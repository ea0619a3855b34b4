/-
  Hosts in numbers: pieces between points, whole numbers, labels, addresses, names, ports, what is printed of them, and how they come back; no program.
-/
import Derived.Lib.Strings
import Derived.Lib.ItoaNum
import Derived.Lib.AtoiAll
set_option linter.unusedSimpArgs false
set_option linter.unusedVariables false
namespace Go.Proofs.YtiejandeoopiiaaGreatDoor
/-- A digit. -/
def dig (c : Nat) : Bool := decide (48 ≤ c) && decide (c ≤ 57)
theorem dig_iff (c : Nat) : dig c = true ↔ 48 ≤ c ∧ c ≤ 57 := by simp [dig]
/-- The pieces between points. -/
def pcs : List Nat → List (List Nat)
  | [] => [[]]
  | c :: r => if c = 46 then [] :: pcs r else ((c :: (pcs r).headD []) :: (pcs r).tail)
theorem pcs_ne : ∀ l, pcs l ≠ []
  | [] => by simp [pcs]
  | c :: r => by unfold pcs; split <;> simp
/-- Pieces with points between. -/
def jn : List (List Nat) → List Nat
  | [] => []
  | [p] => p
  | p :: q :: r => p ++ 46 :: jn (q :: r)
theorem jn_cons {p : List Nat} {r : List (List Nat)} (h : r ≠ []) : jn (p :: r) = p ++ 46 :: jn r := by
  cases r with
  | nil => exact absurd rfl h
  | cons q r => rfl
theorem jn_pcs : ∀ l, jn (pcs l) = l
  | [] => rfl
  | c :: r => by
    have ih := jn_pcs r
    have hne := pcs_ne r
    unfold pcs
    split
    · rename_i h
      rw [jn_cons hne, ih, h]; rfl
    · cases h : pcs r with
      | nil => exact absurd h hne
      | cons p ps =>
        rw [h] at ih
        cases ps with
        | nil => simp [jn] at ih ⊢; exact ih
        | cons q qs => simp [jn] at ih ⊢; exact ih
theorem pcs_no : ∀ (l : List Nat), ∀ p ∈ pcs l, 46 ∉ p
  | [] => by simp [pcs]
  | c :: r => by
    have ih := pcs_no r
    have hne := pcs_ne r
    unfold pcs
    split
    · intro p hp
      simp at hp
      rcases hp with rfl | hp
      · simp
      · exact ih p hp
    · rename_i hc
      cases h : pcs r with
      | nil => exact absurd h hne
      | cons p ps =>
        rw [h] at ih
        intro q hq
        simp at hq
        rcases hq with rfl | hq
        · have := ih p (by simp)
          simp; exact ⟨fun e => hc e.symm, this⟩
        · exact ih q (by simp [hq])
/-- Pieces without points are the pieces of what they make. -/
theorem pcs_app : ∀ (p l : List Nat), 46 ∉ p → pcs (p ++ 46 :: l) = p :: pcs l
  | [], l, _ => by simp [pcs]
  | c :: p, l, h => by
    simp at h
    have ih := pcs_app p l h.2
    rw [List.cons_append, pcs, if_neg (fun e => h.1 e.symm), ih]
    rfl
theorem pcs_one : ∀ (p : List Nat), 46 ∉ p → pcs p = [p]
  | [], _ => rfl
  | c :: p, h => by
    simp at h
    rw [pcs, if_neg (fun e => h.1 e.symm), pcs_one p h.2]
    rfl
theorem pcs_jn : ∀ (ps : List (List Nat)), ps ≠ [] → (∀ p ∈ ps, 46 ∉ p) → pcs (jn ps) = ps
  | [], h, _ => absurd rfl h
  | [p], _, h => pcs_one p (h p (by simp))
  | p :: q :: r, _, h => by
    rw [jn, pcs_app p _ (h p (by simp)), pcs_jn (q :: r) (by simp) (fun x hx => h x (by simp at hx ⊢; right; exact hx))]
/-- Where the pieces begin. -/
def beg (a : Nat) : List (List Nat) → List Nat
  | [] => []
  | p :: r => a :: beg (a + p.length + 1) r
/-- The value of digits. -/
def step (a c : Nat) : Nat := a * 10 + (c - 48)
def val (a : Nat) (l : List Nat) : Nat := l.foldl step a
theorem val_nil (a : Nat) : val a [] = a := rfl
theorem val_cons (a c : Nat) (l : List Nat) : val a (c :: l) = val (step a c) l := by unfold val; rw [List.foldl_cons]
theorem val_append (l m : List Nat) (a : Nat) : val a (l ++ m) = val (val a l) m := by unfold val; rw [List.foldl_append]
theorem step_mono {a b : Nat} (c : Nat) (h : a ≤ b) : step a c ≤ step b c := by unfold step; omega
theorem step_ge (a c : Nat) : a ≤ step a c := by unfold step; omega
theorem val_ge : ∀ (l : List Nat) (a : Nat), a ≤ val a l
  | [], a => Nat.le_refl _
  | c :: l, a => Nat.le_trans (step_ge a c) (by rw [val_cons]; exact val_ge l _)
theorem val_mono : ∀ (l : List Nat) (a b : Nat), a ≤ b → val a l ≤ val b l
  | [], a, b, h => h
  | c :: l, a, b, h => by rw [val_cons, val_cons]; exact val_mono l _ _ (step_mono c h)
theorem val_pow : ∀ (l : List Nat) (a : Nat), a * 10 ^ l.length ≤ val a l
  | [], a => by simp [val]
  | c :: l, a => by
    have h := val_pow l (step a c)
    rw [val_cons, List.length_cons, Nat.pow_succ]
    have e : a * (10 ^ l.length * 10) = a * 10 * 10 ^ l.length := by rw [Nat.mul_assoc, Nat.mul_comm (10 ^ l.length) 10]
    have : a * 10 * 10 ^ l.length ≤ step a c * 10 ^ l.length := Nat.mul_le_mul_right _ (by unfold step; omega)
    rw [e]
    exact Nat.le_trans this h
/-- Is it a whole number without a 0 ahead? -/
def isNum (l : List Nat) : Bool := decide (l ≠ []) && l.all dig && !(decide (1 < l.length) && decide (l.headD 0 = 48))
/-- The number that is no more than so much. -/
def rd (l : List Nat) (m : Nat) : Option Nat := if isNum l = true ∧ val 0 l ≤ m then some (val 0 l) else none
theorem num_long {l : List Nat} (h : isNum l = true) {k : Nat} (hk : k + 1 < l.length) : 10 ^ (k + 1) ≤ val 0 l := by
  cases l with
  | nil => simp at hk
  | cons c r =>
    simp [isNum, dig] at h
    simp at hk
    obtain ⟨⟨⟨h1, h2⟩, h3⟩, h4⟩ := h
    have hc : 1 ≤ c - 48 := by
      have : ¬ c = 48 := by
        rcases h4 with e | e
        · rw [e] at hk; simp at hk
        · exact e
      omega
    have := val_pow r (c - 48)
    rw [val_cons, show step 0 c = c - 48 by unfold step; omega]
    have h10 : 10 ^ (k + 1) ≤ 10 ^ r.length := Nat.pow_le_pow_right (by omega) (by omega)
    have : 1 * 10 ^ r.length ≤ (c - 48) * 10 ^ r.length := Nat.mul_le_mul_right _ hc
    omega
/-- What is wrong: nothing, or a number at a place. -/
abbrev Er := Option (Nat × Nat)
abbrev Er.ok : Er := none
abbrev Er.one (a c : Nat) : Er := some (a, c)
/-- The four numbers of an address, from the i-th piece on, which begins at a. -/
def octs : Nat → Nat → List (List Nat) → List Nat → List Nat × Er
  | _, _, [], acc => (acc, .ok)
  | i, a, p :: ps, acc => if i = 4 then ([0, 0, 0, 0], .one a 63) else match rd p 255 with
    | none => ([0, 0, 0, 0], .one a 60)
    | some n => octs (i + 1) (a + p.length + 1) ps (acc ++ [n])
/-- ParseAddr. -/
def addr (l : List Nat) : List Nat × Er :=
  if 253 < l.length then ([0, 0, 0, 0], .one 253 3) else
  if (octs 0 0 (pcs l) []).2 = .ok ∧ (pcs l).length < 4 then ([0, 0, 0, 0], .one l.length 63) else octs 0 0 (pcs l) []
/-- Small letters. -/
def lo (c : Nat) : Nat := if 65 ≤ c ∧ c ≤ 90 then c + 32 else c
def low (l : List Nat) : List Nat := l.map lo
theorem low_length (l : List Nat) : (low l).length = l.length := by simp [low]
theorem lo_lt {c : Nat} (h : c < 256) : lo c < 256 := by unfold lo; split <;> omega
theorem lo_46 (c : Nat) : lo c = 46 ↔ c = 46 := by unfold lo; split <;> omega
theorem pcs_low : ∀ l, pcs (low l) = (pcs l).map low
  | [] => rfl
  | c :: r => by
    have ih := pcs_low r
    show pcs (lo c :: low r) = _
    unfold pcs
    by_cases h : c = 46
    · rw [if_pos ((lo_46 c).2 h), if_pos h, ih]; rfl
    · rw [if_neg (fun e => h ((lo_46 c).1 e)), if_neg h, ih]
      cases hp : pcs r with
      | nil => exact absurd hp (pcs_ne r)
      | cons p ps => rfl
theorem jn_low : ∀ ps, jn (ps.map low) = low (jn ps)
  | [] => rfl
  | [p] => rfl
  | p :: q :: r => by
    have ih := jn_low (q :: r)
    simp only [List.map_cons, jn] at ih ⊢
    rw [ih]
    simp [low, lo]
/-- A byte that a label may have within. -/
def lb (c : Nat) : Bool := decide (c = 45) || dig c || (decide (97 ≤ c) && decide (c ≤ 122)) || (decide (65 ≤ c) && decide (c ≤ 90))
/-- A byte that a label may have at its i-th place of n. -/
def lbAt (c i n : Nat) : Bool := lb c && (!decide (c = 45) || (decide (0 < i) && decide (i + 1 < n)))
/-- A label. -/
def isLab (p : List Nat) : Prop := 1 ≤ p.length ∧ p.length ≤ 63 ∧ ∀ i, i < p.length → lbAt (p.getD i 0) i p.length = true
def labB (p : List Nat) : Bool := decide (1 ≤ p.length ∧ p.length ≤ 63 ∧ ∀ i, i < p.length → lbAt (p.getD i 0) i p.length = true)
theorem labB_iff (p : List Nat) : labB p = true ↔ isLab p := by unfold labB isLab; exact decide_eq_true_iff
/-- The first label that is none, from the one that begins at a. -/
def labs : Nat → List (List Nat) → Option Nat
  | _, [] => none
  | a, p :: ps => if labB p = true then labs (a + p.length + 1) ps else some a
/-- ParseName. -/
def name (l : List Nat) : List Nat × Er :=
  if 253 < l.length then ([], .one 253 3) else
  match labs 0 (pcs l) with
  | some a => ([], .one a 61)
  | none => if ((pcs l).getLastD []).all dig = true then ([], .one (l.length - ((pcs l).getLastD []).length) 63) else (low l, .ok)
/-- ParsePort. -/
def port (l : List Nat) : Nat × Er := match rd l 65535 with
  | some n => if n = 0 then (0, .one 0 62) else (n, .ok)
  | none => (0, .one 0 62)
/-- A text of digits and points alone. -/
def looks (l : List Nat) : Bool := l.all fun c => decide (c = 46) || dig c
abbrev Ad := Nat × Nat × Nat × Nat
def Ad.ok (a : Ad) : Prop := a.1 < 256 ∧ a.2.1 < 256 ∧ a.2.2.1 < 256 ∧ a.2.2.2 < 256
/-- An address as a number. -/
def wd (a : Ad) : Nat := a.1 * 16777216 + a.2.1 * 65536 + a.2.2.1 * 256 + a.2.2.2
/-- The digits of a number. -/
def dec (n : Nat) : List Nat := (Lib.decDigits n).map UInt8.toNat
theorem dec_small {n : Nat} (h : n < 10) : dec n = [48 + n] := by
  unfold dec
  rw [Lib.decDigits, dif_pos h]
  simp
  omega
theorem dec_big {n : Nat} (h : ¬ n < 10) : dec n = dec (n / 10) ++ [48 + n % 10] := by
  unfold dec
  conv => lhs; rw [Lib.decDigits, dif_neg h]
  rw [List.map_append]
  congr 1
  simp
  omega
theorem dec_lt (n : Nat) : ∀ x ∈ dec n, x < 256 := by
  intro x hx
  simp only [dec, List.mem_map] at hx
  obtain ⟨c, _, rfl⟩ := hx
  exact c.toNat_lt
theorem dec_len {n : Nat} (h : n < 100000) : (dec n).length ≤ 5 := by
  have g (k n : Nat) (b : 10 ^ (k + 1) > n) : (dec n).length ≤ k + 1 := by
    induction k generalizing n with
    | zero => rw [dec_small (by simpa using b)]; simp
    | succ k ih =>
      by_cases h1 : n < 10
      · rw [dec_small h1]; simp
      · rw [dec_big h1]
        have := ih (n / 10) (by rw [Nat.pow_succ] at b; omega)
        simp; omega
  exact g 4 n h
/-- An address as a text: of its first so many numbers, and of all. -/
def adk (a0 a1 a2 a3 : Nat) : Nat → List Nat
  | 0 => dec a0
  | 1 => dec a0 ++ 46 :: dec a1
  | 2 => (dec a0 ++ 46 :: dec a1) ++ 46 :: dec a2
  | _ => ((dec a0 ++ 46 :: dec a1) ++ 46 :: dec a2) ++ 46 :: dec a3
def adt (a : Ad) : List Nat := adk a.1 a.2.1 a.2.2.1 a.2.2.2 3
theorem adk_len (a0 a1 a2 a3 : Nat) (h0 : a0 < 256) (h1 : a1 < 256) (h2 : a2 < 256) (h3 : a3 < 256) : ∀ k, (adk a0 a1 a2 a3 k).length ≤ 23
  | 0 => by have := dec_len (n := a0) (by omega); simp [adk]; omega
  | 1 => by have := dec_len (n := a0) (by omega); have := dec_len (n := a1) (by omega); simp [adk]; omega
  | 2 => by have := dec_len (n := a0) (by omega); have := dec_len (n := a1) (by omega); have := dec_len (n := a2) (by omega); simp [adk]; omega
  | _ + 3 => by have := dec_len (n := a0) (by omega); have := dec_len (n := a1) (by omega); have := dec_len (n := a2) (by omega); have := dec_len (n := a3) (by omega); simp [adk]; omega
/-- Is a host right? -/
def chk (a : Ad) (n : List Nat) : Bool := decide (n = []) || (decide (name n = (n, .ok)) && decide (a = (0, 0, 0, 0)))
theorem low_lt {p : List Nat} (h : ∀ x ∈ p, x < 256) : ∀ x ∈ low p, x < 256 := by
  intro x hx
  simp only [low, List.mem_map] at hx
  obtain ⟨c, hc, rfl⟩ := hx
  exact lo_lt (h c hc)
theorem name_lt {l : List Nat} (h : ∀ x ∈ l, x < 256) : ∀ x ∈ (name l).1, x < 256 := by
  unfold name
  split
  · simp
  · split
    · simp
    · split
      · simp
      · exact low_lt h
/-- One of four numbers is not 0, and which is the first. -/
theorem ad_ne {a0 a1 a2 a3 : Nat} (h : ¬ ((a0, a1, a2, a3) : Ad) = (0, 0, 0, 0)) : (¬ a0 = 0) ∨ (a0 = 0 ∧ ¬ a1 = 0) ∨ (a0 = 0 ∧ a1 = 0 ∧ ¬ a2 = 0) ∨ (a0 = 0 ∧ a1 = 0 ∧ a2 = 0 ∧ ¬ a3 = 0) := by
  simp only [Prod.mk.injEq] at h
  omega
/-- A host as a text. -/
def hot (a : Ad) (n : List Nat) : List Nat := if chk a n = true then (if n = [] then adt a else n) else []
theorem name_ok_len {l q : List Nat} (h : name l = (q, .ok)) : l.length ≤ 253 := by
  unfold name at h
  by_cases hl : 253 < l.length
  · rw [if_pos hl] at h; cases h
  · omega
theorem hot_len (a : Ad) (n : List Nat) (ha : a.ok) : (hot a n).length ≤ 253 := by
  unfold hot
  by_cases hc : chk a n = true
  · rw [if_pos hc]
    by_cases h0 : n = []
    · rw [if_pos h0]
      have := adk_len a.1 a.2.1 a.2.2.1 a.2.2.2 ha.1 ha.2.1 ha.2.2.1 ha.2.2.2 3
      unfold adt; omega
    · rw [if_neg h0]
      simp [chk, h0] at hc
      exact name_ok_len hc.1
  · rw [if_neg hc]; simp
/-- A destination as a text. -/
def det (a : Ad) (n : List Nat) (p : Int) : List Nat := if chk a n = true ∧ 1 ≤ p ∧ p ≤ 65535 then hot a n ++ 58 :: dec p.toNat else []
theorem dec_ne (n : Nat) : dec n ≠ [] := by
  by_cases h : n < 10
  · rw [dec_small h]; simp
  · rw [dec_big h]; simp
theorem dec_all (n : Nat) : ∀ x ∈ dec n, 48 ≤ x ∧ x ≤ 57 := by
  induction n using Nat.strongRecOn with
  | ind n ih =>
    by_cases h : n < 10
    · rw [dec_small h]; intro x hx; simp at hx; omega
    · rw [dec_big h]
      intro x hx
      rcases List.mem_append.1 hx with hx | hx
      · exact ih (n / 10) (by omega) x hx
      · simp at hx; omega
theorem val_dec (n : Nat) : val 0 (dec n) = n := by
  induction n using Nat.strongRecOn with
  | ind n ih =>
    by_cases h : n < 10
    · rw [dec_small h, val_cons, val_nil]; unfold step; omega
    · rw [dec_big h, val_append, ih (n / 10) (by omega), val_cons, val_nil]; unfold step; omega
theorem headD_app {l m : List Nat} (h : l ≠ []) : (l ++ m).headD 0 = l.headD 0 := by
  cases l with
  | nil => exact absurd rfl h
  | cons c r => rfl
theorem dec_head (n : Nat) (h1 : 1 ≤ n) : (dec n).headD 0 ≠ 48 := by
  induction n using Nat.strongRecOn with
  | ind n ih =>
    by_cases h : n < 10
    · rw [dec_small h]; simp; omega
    · rw [dec_big h, headD_app (dec_ne _)]; exact ih (n / 10) (by omega) (by omega)
theorem isNum_dec (n : Nat) : isNum (dec n) = true := by
  have ha : (dec n).all dig = true := by rw [List.all_eq_true]; intro x hx; exact (dig_iff x).2 (dec_all n x hx)
  have hn := dec_ne n
  have h3 : (!(decide (1 < (dec n).length) && decide ((dec n).headD 0 = 48))) = true := by
    by_cases h : n < 10
    · rw [dec_small h]; simp
    · have := dec_head n (by omega)
      rw [decide_eq_false this, Bool.and_false]; rfl
  unfold isNum
  rw [ha, h3]
  simp [hn]
theorem rd_dec {n m : Nat} (h : n ≤ m) : rd (dec n) m = some n := by
  unfold rd
  rw [val_dec, if_pos ⟨isNum_dec n, h⟩]
theorem num_parts {l : List Nat} : isNum l = true ↔ l ≠ [] ∧ (∀ x ∈ l, 48 ≤ x ∧ x ≤ 57) ∧ (1 < l.length → l.headD 0 ≠ 48) := by
  unfold isNum
  simp only [Bool.and_eq_true, decide_eq_true_eq, List.all_eq_true, dig_iff, Bool.not_eq_true', Bool.and_eq_false_iff, decide_eq_false_iff_not]
  constructor
  · rintro ⟨⟨h1, h2⟩, h3⟩
    exact ⟨h1, h2, fun h => h3.resolve_left (fun g => g h)⟩
  · rintro ⟨h1, h2, h3⟩
    refine ⟨⟨h1, h2⟩, ?_⟩
    by_cases h : 1 < l.length
    · exact Or.inr (h3 h)
    · exact Or.inl h
theorem dec_val : ∀ (k : Nat) (l : List Nat), l.length = k → isNum l = true → dec (val 0 l) = l
  | 0, l, hl, h => by
    obtain rfl := List.length_eq_zero_iff.1 hl
    exact absurd rfl (num_parts.1 h).1
  | k + 1, l, hl, h => by
    obtain ⟨hn, ha, hz⟩ := num_parts.1 h
    obtain ⟨r, c, rfl⟩ : ∃ r c, l = r ++ [c] := ⟨l.dropLast, l.getLast hn, (List.dropLast_concat_getLast hn).symm⟩
    have hc := ha c (by simp)
    rw [val_append, val_cons, val_nil]
    by_cases hr : r = []
    · subst hr
      rw [val_nil, dec_small (by unfold step; omega)]
      simp [step]; omega
    · have hrl : 0 < r.length := List.length_pos_iff.2 hr
      have hlong := num_long h (k := 0) (by simp; omega)
      rw [val_append, val_cons, val_nil] at hlong
      have hrn : isNum r = true := by
        refine num_parts.2 ⟨hr, fun x hx => ha x (by simp [hx]), fun hl2 => ?_⟩
        have := hz (by simp; omega)
        rwa [headD_app hr] at this
      have ih := dec_val k r (by simp at hl; exact hl) hrn
      unfold step at hlong ⊢
      rw [dec_big (by omega), show (val 0 r * 10 + (c - 48)) / 10 = val 0 r by omega, ih]
      congr 2
      omega
theorem dec_rd {l : List Nat} {m n : Nat} (h : rd l m = some n) : dec n = l ∧ n ≤ m := by
  unfold rd at h
  split at h
  · rename_i hh
    obtain rfl := Option.some.inj h
    exact ⟨dec_val _ l rfl hh.1, hh.2⟩
  · cases h
theorem dec_no (n : Nat) {x : Nat} (h : x < 48 ∨ 57 < x) : x ∉ dec n := fun hx => by have := dec_all n x hx; omega
theorem adt_jn (a : Ad) : adt a = jn [dec a.1, dec a.2.1, dec a.2.2.1, dec a.2.2.2] := by
  simp [adt, adk, jn, List.append_assoc]
theorem addr_adt (a : Ad) (ha : a.ok) : addr (adt a) = ([a.1, a.2.1, a.2.2.1, a.2.2.2], .ok) := by
  obtain ⟨a0, a1, a2, a3⟩ := a
  obtain ⟨l0, l1, l2, l3⟩ := ha
  simp only [] at l0 l1 l2 l3
  have hlen := adk_len a0 a1 a2 a3 l0 l1 l2 l3 3
  have hp : pcs (adt (a0, a1, a2, a3)) = [dec a0, dec a1, dec a2, dec a3] := by
    rw [adt_jn, pcs_jn _ (by simp)]
    intro p hp
    simp at hp
    rcases hp with rfl | rfl | rfl | rfl <;> exact dec_no _ (by omega)
  have ho : octs 0 0 [dec a0, dec a1, dec a2, dec a3] [] = ([a0, a1, a2, a3], .ok) := by
    rw [octs, if_neg (by omega), rd_dec (by omega : a0 ≤ 255)]
    show octs 1 _ _ _ = _
    rw [octs, if_neg (by omega), rd_dec (by omega : a1 ≤ 255)]
    show octs 2 _ _ _ = _
    rw [octs, if_neg (by omega), rd_dec (by omega : a2 ≤ 255)]
    show octs 3 _ _ _ = _
    rw [octs, if_neg (by omega), rd_dec (by omega : a3 ≤ 255)]
    rfl
  unfold addr
  rw [if_neg (by unfold adt; simp only []; omega), hp, ho]
  simp
theorem adt_mem (a : Ad) : ∀ x ∈ adt a, x = 46 ∨ (48 ≤ x ∧ x ≤ 57) := by
  intro x hx
  simp only [adt, adk, List.mem_append, List.mem_cons] at hx
  rcases hx with ((hx | hx | hx) | hx | hx) | hx | hx
  all_goals first | exact Or.inl hx | exact Or.inr (dec_all _ x hx)
theorem looks_of {l : List Nat} (h : ∀ x ∈ l, x = 46 ∨ (48 ≤ x ∧ x ≤ 57)) : looks l = true := by
  unfold looks
  rw [List.all_eq_true]
  intro x hx
  simp only [Bool.or_eq_true, decide_eq_true_eq, dig_iff]
  exact h x hx
theorem of_looks {l : List Nat} (h : looks l = true) : ∀ x ∈ l, x = 46 ∨ (48 ≤ x ∧ x ≤ 57) := by
  intro x hx
  have := List.all_eq_true.1 h x hx
  simpa only [Bool.or_eq_true, decide_eq_true_eq, dig_iff] using this
theorem adt_ne (a : Ad) : adt a ≠ [] := by simp [adt, adk]
theorem pcs_mem : ∀ (l : List Nat), ∀ p ∈ pcs l, ∀ x ∈ p, x ∈ l
  | [], p, hp, x, hx => by simp [pcs] at hp; subst hp; exact hx
  | c :: r, p, hp, x, hx => by
    unfold pcs at hp
    split at hp
    · rcases List.mem_cons.1 hp with rfl | hp
      · cases hx
      · exact List.mem_cons_of_mem _ (pcs_mem r p hp x hx)
    · cases hr : pcs r with
      | nil => exact absurd hr (pcs_ne r)
      | cons q qs =>
        rw [hr] at hp
        have ih := pcs_mem r
        rw [hr] at ih
        rcases List.mem_cons.1 hp with rfl | hp
        · rcases List.mem_cons.1 hx with rfl | hx
          · simp
          · exact List.mem_cons_of_mem _ (ih q (by simp) x hx)
        · exact List.mem_cons_of_mem _ (ih p (List.mem_cons_of_mem _ hp) x hx)
theorem getLastD_mem {ps : List (List Nat)} (h : ps ≠ []) : ps.getLastD [] ∈ ps := by
  rw [List.getLastD_eq_getLast?, List.getLast?_eq_some_getLast h]
  exact List.getLast_mem h
theorem name_ok {l q : List Nat} (h : name l = (q, .ok)) : l.length ≤ 253 ∧ labs 0 (pcs l) = none ∧ ¬ ((pcs l).getLastD []).all dig = true ∧ q = low l := by
  unfold name at h
  split at h
  · cases h
  · rename_i hl
    split at h
    · cases h
    · rename_i hlab
      split at h
      · cases h
      · rename_i hd
        injection h with h1 h2
        exact ⟨by omega, hlab, hd, h1.symm⟩
theorem name_not {l q : List Nat} (h : name l = (q, .ok)) : looks l = false := by
  obtain ⟨_, _, hd, _⟩ := name_ok h
  rw [Bool.eq_false_iff]
  intro hk
  apply hd
  have hm := getLastD_mem (pcs_ne l)
  rw [List.all_eq_true]
  intro x hx
  rcases of_looks hk x (pcs_mem l _ hm x hx) with rfl | hx'
  · exact absurd hx (pcs_no l _ hm)
  · exact (dig_iff x).2 hx'
theorem det_ne {a : Ad} {n : List Nat} {p : Int} (h : det a n p ≠ []) : chk a n = true ∧ 1 ≤ p ∧ p ≤ 65535 := by
  unfold det at h
  split at h
  · assumption
  · exact absurd rfl h
theorem lo_same {c : Nat} (h : c < 65 ∨ 90 < c) : lo c = c := by unfold lo; rw [if_neg (by omega)]
theorem bLowSame {l : List Nat} (h : ∀ x ∈ l, x < 65 ∨ 90 < x) : low l = l := by
  unfold low
  conv => rhs; rw [← List.map_id l]
  exact List.map_congr_left fun x hx => lo_same (h x hx)
theorem low_low (l : List Nat) : low (low l) = low l := by
  apply bLowSame
  intro x hx
  simp only [low, List.mem_map] at hx
  obtain ⟨c, _, rfl⟩ := hx
  unfold lo
  split <;> omega
theorem octs_ok : ∀ (ps : List (List Nat)) (i a : Nat) (acc xs : List Nat), octs i a ps acc = (xs, .ok) → ∃ ns : List Nat, xs = acc ++ ns ∧ ps = ns.map dec ∧ ∀ x ∈ ns, x ≤ 255
  | [], i, a, acc, xs, h => by
    injection h with h1 h2
    exact ⟨[], by simp [h1], rfl, by simp⟩
  | p :: ps, i, a, acc, xs, h => by
    unfold octs at h
    split at h
    · cases h
    · cases hr : rd p 255 with
      | none => rw [hr] at h; cases h
      | some n =>
        rw [hr] at h
        obtain ⟨ns, e1, e2, e3⟩ := octs_ok ps _ _ _ _ h
        obtain ⟨d1, d2⟩ := dec_rd hr
        refine ⟨n :: ns, by simp [e1], by simp [d1, e2], fun x hx => ?_⟩
        rcases List.mem_cons.1 hx with rfl | hx
        · exact d2
        · exact e3 x hx
theorem addr_back {l : List Nat} {x0 x1 x2 x3 : Nat} (h : addr l = ([x0, x1, x2, x3], .ok)) : adt (x0, x1, x2, x3) = l ∧ Ad.ok (x0, x1, x2, x3) := by
  unfold addr at h
  split at h
  · cases h
  · split at h
    · cases h
    · obtain ⟨ns, e1, e2, e3⟩ := octs_ok _ _ _ _ _ h
      simp at e1
      subst e1
      refine ⟨?_, ?_⟩
      · rw [adt_jn, ← jn_pcs l, e2]; rfl
      · have := e3 x0 (by simp); have := e3 x1 (by simp); have := e3 x2 (by simp); have := e3 x3 (by simp)
        refine ⟨?_, ?_, ?_, ?_⟩ <;> simp only [] <;> omega
theorem port_back {l : List Nat} {p : Nat} (h : port l = (p, .ok)) : dec p = l ∧ 1 ≤ p ∧ p ≤ 65535 := by
  unfold port at h
  cases hr : rd l 65535 with
  | none => rw [hr] at h; cases h
  | some n =>
    rw [hr] at h
    simp only [] at h
    obtain ⟨e1, e2⟩ := dec_rd hr
    split at h
    · cases h
    · injection h with h1 h2
      subst h1
      exact ⟨e1, by omega, e2⟩
theorem bLabsNone : ∀ (ps : List (List Nat)) (a : Nat), labs a ps = none ↔ ∀ p ∈ ps, isLab p
  | [], a => by simp [labs]
  | p :: ps, a => by
    unfold labs
    split
    · rename_i h
      rw [bLabsNone ps]
      simp [(labB_iff p).1 h]
    · rename_i h
      simp
      intro hp
      exact absurd ((labB_iff p).2 hp) h
def strN (l : List Nat) : ByteArray := ⟨(l.map UInt8.ofNat).toArray⟩
def byt (t : ByteArray) : List Nat := t.data.toList.map UInt8.toNat
theorem byt_length (t : ByteArray) : (byt t).length = t.size := by show (t.data.toList.map _).length = t.data.size; simp
theorem byt_lt (t : ByteArray) : ∀ x ∈ byt t, x < 256 := by
  intro x hx
  simp only [byt, List.mem_map] at hx
  obtain ⟨c, _, rfl⟩ := hx
  exact c.toNat_lt
theorem strN_byt (t : ByteArray) : strN (byt t) = t := by
  simp only [strN, byt, List.map_map]
  have : (UInt8.ofNat ∘ UInt8.toNat) = id := by funext x; simp
  rw [this, List.map_id]
theorem byt_strN (l : List Nat) (h : ∀ x ∈ l, x < 256) : byt (strN l) = l := by
  simp only [strN, byt, List.map_map]
  conv => rhs; rw [← List.map_id l]
  apply List.map_congr_left
  intro x hx
  have := h x hx
  simp
  omega
theorem byt_inj {a b : ByteArray} (h : byt a = byt b) : a = b := by rw [← strN_byt a, ← strN_byt b, h]
theorem strN_size (l : List Nat) : (strN l).size = l.length := by show ((l.map UInt8.ofNat).toArray).size = _; simp
theorem strN_append (a b : List Nat) : strN (a ++ b) = strN a ++ strN b := by
  apply ByteArray.ext
  simp [strN, ByteArray.data_append]
/-- Do two addresses lie in one net of so many bits? -/
def inN (a b : Ad) (k : Nat) : Bool := decide (wd a / 2 ^ (32 - k) = wd b / 2 ^ (32 - k))
def inB (a b : Ad) (k : Int) : Bool := decide (0 ≤ k) && decide (k ≤ 32) && inN a b k.toNat
theorem wd_lt {a : Ad} (h : a.ok) : wd a < 4294967296 := by
  obtain ⟨h0, h1, h2, h3⟩ := h
  unfold wd; omega
/-- Is a name a suffix, or does it end by a point and it? -/
def under (n s : List Nat) : Bool := decide (s ≠ []) && (decide (n = s) || decide ((46 :: s) <:+ n))
end Go.Proofs.YtiejandeoopiiaaGreatDoor
