/-
  Hosts in numbers: pieces between points, whole numbers, labels, addresses, names, ports, destinations, what is printed of them, and how they come back; no program.
-/
set_option linter.unusedSimpArgs false
set_option linter.unusedVariables false
namespace Go.Proofs.YtabkelhipmijfaaGreatDoor

/-- A digit. -/
def dig (c : Nat) : Bool := decide (48 ≤ c) && decide (c ≤ 57)
theorem dig_iff (c : Nat) : dig c = true ↔ 48 ≤ c ∧ c ≤ 57 := by simp [dig]

/-- The pieces between points. -/
def pcs : List Nat → List (List Nat)
  | [] => [[]]
  | c :: r => if c = 46 then [] :: pcs r else ((c :: (pcs r).headD []) :: (pcs r).tail)
theorem pcs_ne : ∀ l, pcs l ≠ []
  | [] => by simp [pcs]
  | c :: r => by unfold pcs; split <;> simp
/-- Pieces with points between. -/
def jn : List (List Nat) → List Nat
  | [] => []
  | [p] => p
  | p :: q :: r => p ++ 46 :: jn (q :: r)
theorem jn_cons {p : List Nat} {r : List (List Nat)} (h : r ≠ []) : jn (p :: r) = p ++ 46 :: jn r := by
  cases r with
  | nil => exact absurd rfl h
  | cons q r => rfl
theorem jn_pcs : ∀ l, jn (pcs l) = l
  | [] => rfl
  | c :: r => by
    have ih := jn_pcs r
    have hne := pcs_ne r
    unfold pcs
    split
    · rename_i h
      rw [jn_cons hne, ih, h]; rfl
    · cases h : pcs r with
      | nil => exact absurd h hne
      | cons p ps =>
        rw [h] at ih
        cases ps with
        | nil => simp [jn] at ih ⊢; exact ih
        | cons q qs => simp [jn] at ih ⊢; exact ih
theorem pcs_no : ∀ (l : List Nat), ∀ p ∈ pcs l, 46 ∉ p
  | [] => by simp [pcs]
  | c :: r => by
    have ih := pcs_no r
    have hne := pcs_ne r
    unfold pcs
    split
    · intro p hp
      simp at hp
      rcases hp with rfl | hp
      · simp
      · exact ih p hp
    · rename_i hc
      cases h : pcs r with
      | nil => exact absurd h hne
      | cons p ps =>
        rw [h] at ih
        intro q hq
        simp at hq
        rcases hq with rfl | hq
        · have := ih p (by simp)
          simp; exact ⟨fun e => hc e.symm, this⟩
        · exact ih q (by simp [hq])
/-- Pieces without points are the pieces of what they make. -/
theorem pcs_app : ∀ (p l : List Nat), 46 ∉ p → pcs (p ++ 46 :: l) = p :: pcs l
  | [], l, _ => by simp [pcs]
  | c :: p, l, h => by
    simp at h
    have ih := pcs_app p l h.2
    rw [List.cons_append, pcs, if_neg (fun e => h.1 e.symm), ih]
    rfl
theorem pcs_one : ∀ (p : List Nat), 46 ∉ p → pcs p = [p]
  | [], _ => rfl
  | c :: p, h => by
    simp at h
    rw [pcs, if_neg (fun e => h.1 e.symm), pcs_one p h.2]
    rfl
theorem pcs_jn : ∀ (ps : List (List Nat)), ps ≠ [] → (∀ p ∈ ps, 46 ∉ p) → pcs (jn ps) = ps
  | [], h, _ => absurd rfl h
  | [p], _, h => pcs_one p (h p (by simp))
  | p :: q :: r, _, h => by
    rw [jn, pcs_app p _ (h p (by simp)), pcs_jn (q :: r) (by simp) (fun x hx => h x (by simp at hx ⊢; right; exact hx))]

/-- Where the pieces begin. -/
def beg (a : Nat) : List (List Nat) → List Nat
  | [] => []
  | p :: r => a :: beg (a + p.length + 1) r

/-- The value of digits. -/
def step (a c : Nat) : Nat := a * 10 + (c - 48)
def val (a : Nat) (l : List Nat) : Nat := l.foldl step a
theorem val_nil (a : Nat) : val a [] = a := rfl
theorem val_cons (a c : Nat) (l : List Nat) : val a (c :: l) = val (step a c) l := by unfold val; rw [List.foldl_cons]
theorem val_append (l m : List Nat) (a : Nat) : val a (l ++ m) = val (val a l) m := by unfold val; rw [List.foldl_append]
theorem step_mono {a b : Nat} (c : Nat) (h : a ≤ b) : step a c ≤ step b c := by unfold step; omega
theorem step_ge (a c : Nat) : a ≤ step a c := by unfold step; omega
theorem val_ge : ∀ (l : List Nat) (a : Nat), a ≤ val a l
  | [], a => Nat.le_refl _
  | c :: l, a => Nat.le_trans (step_ge a c) (by rw [val_cons]; exact val_ge l _)
theorem val_mono : ∀ (l : List Nat) (a b : Nat), a ≤ b → val a l ≤ val b l
  | [], a, b, h => h
  | c :: l, a, b, h => by rw [val_cons, val_cons]; exact val_mono l _ _ (step_mono c h)
theorem val_pow : ∀ (l : List Nat) (a : Nat), a * 10 ^ l.length ≤ val a l
  | [], a => by simp [val]
  | c :: l, a => by
    have h := val_pow l (step a c)
    rw [val_cons, List.length_cons, Nat.pow_succ]
    have e : a * (10 ^ l.length * 10) = a * 10 * 10 ^ l.length := by rw [Nat.mul_assoc, Nat.mul_comm (10 ^ l.length) 10]
    have : a * 10 * 10 ^ l.length ≤ step a c * 10 ^ l.length := Nat.mul_le_mul_right _ (by unfold step; omega)
    rw [e]
    exact Nat.le_trans this h

/-- Is it a whole number without a 0 ahead? -/
def isNum (l : List Nat) : Bool := decide (l ≠ []) && l.all dig && !(decide (1 < l.length) && decide (l.headD 0 = 48))
/-- The number that is no more than so much. -/
def rd (l : List Nat) (m : Nat) : Option Nat := if isNum l = true ∧ val 0 l ≤ m then some (val 0 l) else none
theorem num_long {l : List Nat} (h : isNum l = true) {k : Nat} (hk : k + 1 < l.length) : 10 ^ (k + 1) ≤ val 0 l := by
  cases l with
  | nil => simp at hk
  | cons c r =>
    simp [isNum, dig] at h
    simp at hk
    obtain ⟨⟨⟨h1, h2⟩, h3⟩, h4⟩ := h
    have hc : 1 ≤ c - 48 := by
      have : ¬ c = 48 := by
        rcases h4 with e | e
        · rw [e] at hk; simp at hk
        · exact e
      omega
    have := val_pow r (c - 48)
    rw [val_cons, show step 0 c = c - 48 by unfold step; omega]
    have h10 : 10 ^ (k + 1) ≤ 10 ^ r.length := Nat.pow_le_pow_right (by omega) (by omega)
    have : 1 * 10 ^ r.length ≤ (c - 48) * 10 ^ r.length := Nat.mul_le_mul_right _ hc
    omega

/-- What is wrong. -/
inductive Er where
  | ok
  | one (a c : Nat)
  | two (a b c : Nat)
deriving DecidableEq

/-- The four numbers of an address, from the i-th piece on, which begins at a. -/
def octs : Nat → Nat → List (List Nat) → List Nat → List Nat × Er
  | _, _, [], acc => (acc, .ok)
  | i, a, p :: ps, acc => if i = 4 then ([0, 0, 0, 0], .one a 63) else match rd p 255 with
    | none => ([0, 0, 0, 0], .one a 60)
    | some n => octs (i + 1) (a + p.length + 1) ps (acc ++ [n])
/-- ParseAddr. -/
def addr (l : List Nat) : List Nat × Er :=
  if 253 < l.length then ([0, 0, 0, 0], .one 253 3) else
  if (octs 0 0 (pcs l) []).2 = .ok ∧ (pcs l).length < 4 then ([0, 0, 0, 0], .one l.length 63) else octs 0 0 (pcs l) []

/-- Small letters. -/
def lo (c : Nat) : Nat := if 65 ≤ c ∧ c ≤ 90 then c + 32 else c
def low (l : List Nat) : List Nat := l.map lo
theorem low_length (l : List Nat) : (low l).length = l.length := by simp [low]
theorem lo_lt {c : Nat} (h : c < 256) : lo c < 256 := by unfold lo; split <;> omega
theorem lo_46 (c : Nat) : lo c = 46 ↔ c = 46 := by unfold lo; split <;> omega
theorem pcs_low : ∀ l, pcs (low l) = (pcs l).map low
  | [] => rfl
  | c :: r => by
    have ih := pcs_low r
    show pcs (lo c :: low r) = _
    unfold pcs
    by_cases h : c = 46
    · rw [if_pos ((lo_46 c).2 h), if_pos h, ih]; rfl
    · rw [if_neg (fun e => h ((lo_46 c).1 e)), if_neg h, ih]
      cases hp : pcs r with
      | nil => exact absurd hp (pcs_ne r)
      | cons p ps => rfl
theorem jn_low : ∀ ps, jn (ps.map low) = low (jn ps)
  | [] => rfl
  | [p] => rfl
  | p :: q :: r => by
    have ih := jn_low (q :: r)
    simp only [List.map_cons, jn] at ih ⊢
    rw [ih]
    simp [low, lo]

/-- A byte that a label may have within. -/
def lb (c : Nat) : Bool := decide (c = 45) || dig c || (decide (97 ≤ c) && decide (c ≤ 122)) || (decide (65 ≤ c) && decide (c ≤ 90))
/-- A byte that a label may have at its i-th place of n. -/
def lbAt (c i n : Nat) : Bool := lb c && (!decide (c = 45) || (decide (0 < i) && decide (i + 1 < n)))
/-- A label. -/
def isLab (p : List Nat) : Prop := 1 ≤ p.length ∧ p.length ≤ 63 ∧ ∀ i, i < p.length → lbAt (p.getD i 0) i p.length = true
def labB (p : List Nat) : Bool := decide (1 ≤ p.length ∧ p.length ≤ 63 ∧ ∀ i, i < p.length → lbAt (p.getD i 0) i p.length = true)
theorem labB_iff (p : List Nat) : labB p = true ↔ isLab p := by unfold labB isLab; exact decide_eq_true_iff
/-- The first label that is none, from the one that begins at a. -/
def labs : Nat → List (List Nat) → Option Nat
  | _, [] => none
  | a, p :: ps => if labB p = true then labs (a + p.length + 1) ps else some a
/-- ParseName. -/
def name (l : List Nat) : List Nat × Er :=
  if 253 < l.length then ([], .one 253 3) else
  match labs 0 (pcs l) with
  | some a => ([], .one a 61)
  | none => if ((pcs l).getLastD []).all dig = true then ([], .one (l.length - ((pcs l).getLastD []).length) 63) else (low l, .ok)

/-- A text of digits and points alone. -/
def looks (l : List Nat) : Bool := l.all fun c => decide (c = 46) || dig c
/-- A host: four numbers, and a name. -/
abbrev Ho := List Nat × List Nat
def host (l : List Nat) : Ho × Er :=
  if l = [] then (([0, 0, 0, 0], []), .one 0 63) else
  if looks l = true then (((addr l).1, []), (addr l).2) else (([0, 0, 0, 0], (name l).1), (name l).2)
/-- ParsePort. -/
def port (l : List Nat) : Nat × Er := match rd l 65535 with
  | some n => if n = 0 then (0, .one 0 62) else (n, .ok)
  | none => (0, .one 0 62)
/-- The last colon. -/
def colon : Nat → List Nat → Option Nat
  | _, [] => none
  | i, c :: r => match colon (i + 1) r with
    | some j => some j
    | none => if c = 58 then some i else none
abbrev De := Ho × Nat
def noH : Ho := ([0, 0, 0, 0], [])
def dest (l : List Nat) : De × Er :=
  if 259 < l.length then ((noH, 0), .one 259 3) else
  match colon 0 l with
  | none => ((noH, 0), .one l.length 62)
  | some c => match host (l.take c) with
    | (h, .ok) => match port (l.drop (c + 1)) with
      | (p, .ok) => ((h, p), .ok)
      | _ => ((noH, 0), .two (c + 1) 0 62)
    | (_, e) => ((noH, 0), e)
end Go.Proofs.YtabkelhipmijfaaGreatDoor
