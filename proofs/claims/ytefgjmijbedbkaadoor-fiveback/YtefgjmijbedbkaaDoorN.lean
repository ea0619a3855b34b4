/-
  The messages of SOCKS5 in numbers: what is read of bytes, what is written, how it comes back, and a reader that goes from the front; no program.
-/
import Derived.Test.YtefgjmijbedbkaaDoorM
set_option linter.unusedSimpArgs false
set_option linter.unusedVariables false
namespace Go.Proofs.YtefgjmijbedbkaaDoor

/-- An address; and whether a host is right. -/
abbrev Ad := Nat × Nat × Nat × Nat
def Ad.ok (a : Ad) : Prop := a.1 < 256 ∧ a.2.1 < 256 ∧ a.2.2.1 < 256 ∧ a.2.2.2 < 256
noncomputable def chk (a : Ad) (n : List Nat) : Bool := decide (n = []) || (decide (name n = (n, .ok)) && decide (a = (0, 0, 0, 0)))
theorem name_ok {l q : List Nat} (h : name l = (q, .ok)) : l.length ≤ 253 ∧ labs 0 (pcs l) = none ∧ ¬ ((pcs l).getLastD []).all dig = true ∧ q = low l := by
  unfold name at h
  split at h
  · cases h
  · rename_i hl
    split at h
    · cases h
    · rename_i hlab
      split at h
      · cases h
      · rename_i hd
        injection h with h1 h2
        exact ⟨by omega, hlab, hd, h1.symm⟩
theorem lo_same {c : Nat} (h : c < 65 ∨ 90 < c) : lo c = c := by unfold lo; rw [if_neg (by omega)]
theorem bLowSame {l : List Nat} (h : ∀ x ∈ l, x < 65 ∨ 90 < x) : low l = l := by
  unfold low
  conv => rhs; rw [← List.map_id l]
  exact List.map_congr_left fun x hx => lo_same (h x hx)
theorem low_low (l : List Nat) : low (low l) = low l := by
  apply bLowSame
  intro x hx
  simp only [low, List.mem_map] at hx
  obtain ⟨c, _, rfl⟩ := hx
  unfold lo
  split <;> omega
theorem bDigLo (c : Nat) : dig (lo c) = dig c := by
  rw [Bool.eq_iff_iff, dig_iff, dig_iff]
  unfold lo
  split <;> omega
theorem lb_lo {c : Nat} (h : lb c = true) : lb (lo c) = true := by
  simp only [lb, Bool.or_eq_true, Bool.and_eq_true, decide_eq_true_eq, dig_iff] at h ⊢
  unfold lo
  split <;> omega
theorem bLo45 (c : Nat) : lo c = 45 ↔ c = 45 := by unfold lo; split <;> omega
theorem bLabLow {p : List Nat} (h : isLab p) : isLab (low p) := by
  obtain ⟨h1, h2, h3⟩ := h
  refine ⟨by rw [low_length]; exact h1, by rw [low_length]; exact h2, fun i hi => ?_⟩
  rw [low_length] at hi ⊢
  have := h3 i hi
  have e : (low p).getD i 0 = lo (p.getD i 0) := by simp [low, List.getD, List.getElem?_map, List.getElem?_eq_getElem hi]
  rw [e]
  simp only [lbAt, Bool.and_eq_true] at this ⊢
  refine ⟨lb_lo this.1, ?_⟩
  rw [show decide (lo (p.getD i 0) = 45) = decide (p.getD i 0 = 45) from decide_eq_decide.2 (bLo45 _)]
  exact this.2
theorem bLabsNone : ∀ (ps : List (List Nat)) (a : Nat), labs a ps = none ↔ ∀ p ∈ ps, isLab p
  | [], a => by simp [labs]
  | p :: ps, a => by
    unfold labs
    split
    · rename_i h
      rw [bLabsNone ps]
      simp [(labB_iff p).1 h]
    · rename_i h
      simp
      intro hp
      exact absurd ((labB_iff p).2 hp) h
theorem getLastD_map (f : List Nat → List Nat) (hf : f [] = []) : ∀ (ps : List (List Nat)), (ps.map f).getLastD [] = f (ps.getLastD [])
  | [] => by simp [hf]
  | p :: ps => by
    rw [List.getLastD_eq_getLast?, List.getLastD_eq_getLast?, List.getLast?_map]
    cases h : (p :: ps).getLast? with
    | none => simp [hf]
    | some x => simp
/-- The small letters of a name are a name, and that one. -/
theorem name_low {l q : List Nat} (h : name l = (q, .ok)) : name (low l) = (low l, .ok) := by
  obtain ⟨h1, h2, h3, rfl⟩ := name_ok h
  have g2 : labs 0 (pcs (low l)) = none := by
    rw [bLabsNone, pcs_low]
    intro p hp
    obtain ⟨r, hr, rfl⟩ := List.mem_map.1 hp
    exact bLabLow ((bLabsNone _ _).1 h2 r hr)
  have g3 : ¬ ((pcs (low l)).getLastD []).all dig = true := by
    rw [pcs_low, getLastD_map low rfl]
    intro hk
    apply h3
    rw [List.all_eq_true] at hk ⊢
    intro x hx
    rw [← bDigLo]
    exact hk (lo x) (List.mem_map_of_mem hx)
  unfold name
  rw [if_neg (by rw [low_length]; omega), g2]
  simp only []
  rw [if_neg g3, low_low]
/-- Too few bytes. -/
def sh (b : List Nat) : Er := .one b.length 6
/-- The first byte. -/
def ver (b : List Nat) (v : Nat) : Er := if b = [] then sh b else if b.getD 0 0 = v then .ok else .one 0 70
/-- A number and so many bytes. -/
def txt (b : List Nat) (a m : Nat) : List Nat × Nat × Er :=
  if b.length ≤ a then ([], 0, sh b) else
  if b.getD a 0 < 1 ∨ m < b.getD a 0 then ([], 0, .one a 72) else
  if b.length < a + 1 + b.getD a 0 then ([], 0, sh b) else
  ((b.drop (a + 1)).take (b.getD a 0), a + 1 + b.getD a 0, .ok)
def greet (b : List Nat) : List Nat × Nat × Er := if ver b 5 = .ok then txt b 1 255 else ([], 0, ver b 5)
def login (b : List Nat) : List Nat × List Nat × Nat × Er :=
  if ver b 1 = .ok then
    if (txt b 1 255).2.2 = .ok then
      if (txt b (txt b 1 255).2.1 255).2.2 = .ok then ((txt b 1 255).1, (txt b (txt b 1 255).2.1 255).1, (txt b (txt b 1 255).2.1 255).2.1, .ok) else ([], [], 0, (txt b (txt b 1 255).2.1 255).2.2)
    else ([], [], 0, (txt b 1 255).2.2)
  else ([], [], 0, ver b 1)
def pair (b : List Nat) (v : Nat) : Nat × Nat × Er :=
  if ver b v = .ok then if b.length < 2 then (0, 0, sh b) else (b.getD 1 0, 2, .ok) else (0, 0, ver b v)
/-- A name's fault within. -/
def inF (a : Nat) : Er → Er
  | .one p c => .two a p c
  | e => e
abbrev Ds := Ad × List Nat × Nat
def noA : Ad := (0, 0, 0, 0)
def noD : Ds := (noA, [], 0)
/-- A host at the fourth byte, and where it ends. -/
noncomputable def place (b : List Nat) : (Ad × List Nat) × Nat × Er :=
  if b.length ≤ 3 then ((noA, []), 0, sh b) else
  if b.getD 3 0 = 1 then (if b.length < 8 then ((noA, []), 0, sh b) else (((b.getD 4 0, b.getD 5 0, b.getD 6 0, b.getD 7 0), []), 8, .ok)) else
  if b.getD 3 0 = 3 then
    (if (txt b 4 253).2.2 = .ok then
      (if (name (txt b 4 253).1).2 = .ok then ((noA, (name (txt b 4 253).1).1), (txt b 4 253).2.1, .ok) else ((noA, []), 0, inF 5 (name (txt b 4 253).1).2))
     else ((noA, []), 0, (txt b 4 253).2.2)) else
  ((noA, []), 0, .one 3 71)
noncomputable def req (b : List Nat) : Nat × Ds × Nat × Er :=
  if ver b 5 ≠ .ok then (0, noD, 0, ver b 5) else
  if b.length < 3 then (0, noD, 0, sh b) else
  if b.getD 2 0 ≠ 0 then (0, noD, 0, .one 2 72) else
  if (place b).2.2 ≠ .ok then (0, noD, 0, (place b).2.2) else
  if b.length < (place b).2.1 + 2 then (0, noD, 0, sh b) else
  (b.getD 1 0, ((place b).1.1, (place b).1.2, b.getD (place b).2.1 0 * 256 + b.getD ((place b).2.1 + 1) 0), (place b).2.1 + 2, .ok)

theorem sh_ne (b : List Nat) : sh b ≠ .ok := by simp [sh]
theorem inF_ne (a : Nat) (e : Er) (h : e ≠ .ok) : inF a e ≠ .ok := by cases e <;> simp_all [inF]
theorem getD_app (b m : List Nat) (i : Nat) (h : i < b.length) : (b ++ m).getD i 0 = b.getD i 0 := by simp [List.getD, List.getElem?_append_left h]
theorem ver_ok {b : List Nat} {v : Nat} : ver b v = .ok ↔ 0 < b.length ∧ b.getD 0 0 = v := by
  unfold ver
  by_cases h : b = []
  · simp [h, sh]
  · have := List.length_pos_iff.2 h
    rw [if_neg h]
    by_cases h2 : b.getD 0 0 = v
    · rw [if_pos h2]; exact Iff.intro (fun _ => ⟨this, h2⟩) (fun _ => rfl)
    · rw [if_neg h2]; exact Iff.intro (fun e => (by cases e)) (fun e => absurd e.2 h2)
theorem ver_app {b : List Nat} {v : Nat} (m : List Nat) (h : b ≠ []) : ver (b ++ m) v = ver b v := by
  have := List.length_pos_iff.2 h
  unfold ver
  rw [if_neg h, if_neg (by simp [h]), getD_app b m 0 this]
/-- A number and so many bytes, that are there. -/
theorem txt_ok {b : List Nat} {a m : Nat} (h : (txt b a m).2.2 = .ok) : a < b.length ∧ 1 ≤ b.getD a 0 ∧ b.getD a 0 ≤ m ∧ a + 1 + b.getD a 0 ≤ b.length ∧ txt b a m = ((b.drop (a + 1)).take (b.getD a 0), a + 1 + b.getD a 0, .ok) := by
  unfold txt at h ⊢
  by_cases h1 : b.length ≤ a
  · rw [if_pos h1] at h; exact absurd h (sh_ne b)
  · rw [if_neg h1] at h ⊢
    by_cases h2 : b.getD a 0 < 1 ∨ m < b.getD a 0
    · rw [if_pos h2] at h; simp at h
    · rw [if_neg h2] at h ⊢
      by_cases h3 : b.length < a + 1 + b.getD a 0
      · rw [if_pos h3] at h; exact absurd h (sh_ne b)
      · rw [if_neg h3]
        exact ⟨by omega, by omega, by omega, by omega, rfl⟩
theorem txt_in {b : List Nat} {a m : Nat} (h1 : a < b.length) (h2 : 1 ≤ b.getD a 0) (h3 : b.getD a 0 ≤ m) (h4 : a + 1 + b.getD a 0 ≤ b.length) : txt b a m = ((b.drop (a + 1)).take (b.getD a 0), a + 1 + b.getD a 0, .ok) := by
  unfold txt
  rw [if_neg (by omega), if_neg (by omega), if_neg (by omega)]
theorem txt_app {b : List Nat} {a m : Nat} (x : List Nat) (h : (txt b a m).2.2 ≠ sh b) : txt (b ++ x) a m = txt b a m := by
  by_cases h1 : b.length ≤ a
  · exact absurd (by unfold txt; rw [if_pos h1]) h
  · have e : (b ++ x).getD a 0 = b.getD a 0 := getD_app b x a (by omega)
    by_cases h2 : b.getD a 0 < 1 ∨ m < b.getD a 0
    · unfold txt
      rw [if_neg h1, if_pos h2, if_neg (by simp; omega), e, if_pos h2]
    · by_cases h3 : b.length < a + 1 + b.getD a 0
      · exact absurd (by unfold txt; rw [if_neg h1, if_neg h2, if_pos h3]) h
      · unfold txt
        rw [if_neg h1, if_neg h2, if_neg h3, if_neg (by rw [List.length_append]; omega), e, if_neg h2, if_neg (by rw [List.length_append]; omega)]
        congr 1
        rw [List.drop_append_of_le_length (by omega), List.take_append_of_le_length (by rw [List.length_drop]; omega)]
/-- Where a place is not short, what stands behind changes nothing. -/
theorem place_app {b : List Nat} (x : List Nat) (h : (place b).2.2 ≠ sh b) : place (b ++ x) = place b := by
  by_cases h1 : b.length ≤ 3
  · exact absurd (by unfold place; rw [if_pos h1]) h
  · have e : ∀ i, i < b.length → (b ++ x).getD i 0 = b.getD i 0 := fun i hi => getD_app b x i hi
    have h1' : ¬ (b ++ x).length ≤ 3 := by simp; omega
    by_cases h2 : b.getD 3 0 = 1
    · by_cases h3 : b.length < 8
      · exact absurd (by unfold place; rw [if_neg h1, if_pos h2, if_pos h3]) h
      · unfold place
        rw [if_neg h1, if_pos h2, if_neg h3, if_neg h1', if_pos (by rw [e 3 (by omega)]; exact h2), if_neg (by simp; omega), e 4 (by omega), e 5 (by omega), e 6 (by omega), e 7 (by omega)]
    · by_cases h4 : b.getD 3 0 = 3
      · have ht : (txt b 4 253).2.2 ≠ sh b := fun ht => h (by unfold place; rw [if_neg h1, if_neg h2, if_pos h4, if_neg (by rw [ht]; exact sh_ne b)]; exact ht)
        have ea := txt_app x ht
        unfold place
        rw [if_neg h1, if_neg h2, if_pos h4, if_neg h1', if_neg (by rw [e 3 (by omega)]; exact h2), if_pos (by rw [e 3 (by omega)]; exact h4), ea]
      · unfold place
        rw [if_neg h1, if_neg h2, if_neg h4, if_neg h1', if_neg (by rw [e 3 (by omega)]; exact h2), if_neg (by rw [e 3 (by omega)]; exact h4)]
/-- A place that is whole. -/
theorem place_ok {b : List Nat} (h : (place b).2.2 = .ok) : 3 < b.length ∧ (place b).2.1 ≤ b.length ∧ 5 ≤ (place b).2.1 ∧ (place b).2.1 ≤ 258 ∧
    ((b.getD 3 0 = 1 ∧ (place b).2.1 = 8 ∧ (place b).1 = ((b.getD 4 0, b.getD 5 0, b.getD 6 0, b.getD 7 0), [])) ∨
     (b.getD 3 0 = 3 ∧ (txt b 4 253).2.2 = .ok ∧ (place b).2.1 = (txt b 4 253).2.1 ∧ (name (txt b 4 253).1).2 = .ok ∧ (place b).1 = (noA, (name (txt b 4 253).1).1))) := by
  by_cases h1 : b.length ≤ 3
  · exact absurd h (by unfold place; rw [if_pos h1]; exact sh_ne b)
  · by_cases h2 : b.getD 3 0 = 1
    · by_cases h3 : b.length < 8
      · exact absurd h (by unfold place; rw [if_neg h1, if_pos h2, if_pos h3]; exact sh_ne b)
      · have e : place b = (((b.getD 4 0, b.getD 5 0, b.getD 6 0, b.getD 7 0), []), 8, .ok) := by unfold place; rw [if_neg h1, if_pos h2, if_neg h3]
        rw [e]
        exact ⟨by omega, by show 8 ≤ _; omega, by show 5 ≤ 8; omega, by show 8 ≤ 258; omega, Or.inl ⟨h2, rfl, rfl⟩⟩
    · by_cases h4 : b.getD 3 0 = 3
      · by_cases ht : (txt b 4 253).2.2 = .ok
        · by_cases hn : (name (txt b 4 253).1).2 = .ok
          · have e : place b = ((noA, (name (txt b 4 253).1).1), (txt b 4 253).2.1, .ok) := by unfold place; rw [if_neg h1, if_neg h2, if_pos h4, if_pos ht, if_pos hn]
            obtain ⟨t1, t2, t3, t4, t5⟩ := txt_ok ht
            have e2 : (place b).2.1 = 4 + 1 + b.getD 4 0 := by rw [e]; show (txt b 4 253).2.1 = _; rw [t5]
            refine ⟨by omega, by omega, by omega, by omega, Or.inr ⟨h4, ht, by rw [e], hn, by rw [e]⟩⟩
          · exact absurd h (by unfold place; rw [if_neg h1, if_neg h2, if_pos h4, if_pos ht, if_neg hn]; exact inF_ne _ _ hn)
        · exact absurd h (by unfold place; rw [if_neg h1, if_neg h2, if_pos h4, if_neg ht]; exact ht)
      · exact absurd h (by unfold place; rw [if_neg h1, if_neg h2, if_neg h4]; simp)
theorem req_ok {b : List Nat} (h : (req b).2.2.2 = .ok) : ver b 5 = .ok ∧ 3 ≤ b.length ∧ b.getD 2 0 = 0 ∧ (place b).2.2 = .ok ∧ (place b).2.1 + 2 ≤ b.length ∧
    req b = (b.getD 1 0, ((place b).1.1, (place b).1.2, b.getD (place b).2.1 0 * 256 + b.getD ((place b).2.1 + 1) 0), (place b).2.1 + 2, .ok) := by
  unfold req at h ⊢
  by_cases h1 : ver b 5 ≠ .ok
  · rw [if_pos h1] at h; exact absurd h h1
  · rw [if_neg h1] at h ⊢
    by_cases h2 : b.length < 3
    · rw [if_pos h2] at h; exact absurd h (sh_ne b)
    · rw [if_neg h2] at h ⊢
      by_cases h3 : b.getD 2 0 ≠ 0
      · rw [if_pos h3] at h; cases h
      · rw [if_neg h3] at h ⊢
        by_cases h4 : (place b).2.2 ≠ .ok
        · rw [if_pos h4] at h; exact absurd h h4
        · rw [if_neg h4] at h ⊢
          by_cases h5 : b.length < (place b).2.1 + 2
          · rw [if_pos h5] at h; exact absurd h (sh_ne b)
          · rw [if_neg h5]
            exact ⟨Decidable.not_not.1 h1, by omega, Decidable.not_not.1 h3, Decidable.not_not.1 h4, by omega, rfl⟩
theorem req_bad {b : List Nat} (h : (req b).2.2.2 ≠ .ok) : (req b).1 = 0 ∧ (req b).2.1 = noD ∧ (req b).2.2.1 = 0 := by
  unfold req at h ⊢
  by_cases h1 : ver b 5 ≠ .ok
  · rw [if_pos h1]; exact ⟨rfl, rfl, rfl⟩
  · rw [if_neg h1] at h ⊢
    by_cases h2 : b.length < 3
    · rw [if_pos h2]; exact ⟨rfl, rfl, rfl⟩
    · rw [if_neg h2] at h ⊢
      by_cases h3 : b.getD 2 0 ≠ 0
      · rw [if_pos h3]; exact ⟨rfl, rfl, rfl⟩
      · rw [if_neg h3] at h ⊢
        by_cases h4 : (place b).2.2 ≠ .ok
        · rw [if_pos h4]; exact ⟨rfl, rfl, rfl⟩
        · rw [if_neg h4] at h ⊢
          by_cases h5 : b.length < (place b).2.1 + 2
          · rw [if_pos h5]; exact ⟨rfl, rfl, rfl⟩
          · rw [if_neg h5] at h; exact absurd rfl h
/-- What is read, or wrong, is so whatever stands behind. -/
theorem req_app {b : List Nat} (x : List Nat) (h : (req b).2.2.2 ≠ sh b) : req (b ++ x) = req b := by
  by_cases hb : b = []
  · subst hb
    exact absurd (by unfold req; rw [if_pos (by simp [ver, sh])]; simp [ver]) h
  have ev := ver_app (v := 5) x hb
  by_cases h1 : ver b 5 ≠ .ok
  · unfold req; rw [if_pos (by rw [ev]; exact h1), if_pos h1, ev]
  · by_cases h2 : b.length < 3
    · exact absurd (by unfold req; rw [if_neg h1, if_pos h2]) h
    · have e : ∀ i, i < b.length → (b ++ x).getD i 0 = b.getD i 0 := fun i hi => getD_app b x i hi
      have h2' : ¬ (b ++ x).length < 3 := by simp; omega
      by_cases h3 : b.getD 2 0 ≠ 0
      · unfold req
        rw [if_neg (by rw [ev]; exact h1), if_neg h2', if_pos (by rw [e 2 (by omega)]; exact h3), if_neg h1, if_neg h2, if_pos h3]
      · have hp : (place b).2.2 ≠ sh b := fun hp => h (by unfold req; rw [if_neg h1, if_neg h2, if_neg h3, if_pos (by rw [hp]; exact sh_ne b)]; exact hp)
        have ep := place_app x hp
        by_cases h4 : (place b).2.2 ≠ .ok
        · unfold req
          rw [if_neg (by rw [ev]; exact h1), if_neg h2', if_neg (by rw [e 2 (by omega)]; exact h3), ep, if_pos h4, if_neg h1, if_neg h2, if_neg h3, if_pos h4]
        · by_cases h5 : b.length < (place b).2.1 + 2
          · exact absurd (by unfold req; rw [if_neg h1, if_neg h2, if_neg h3, if_neg h4, if_pos h5]) h
          · unfold req
            rw [if_neg (by rw [ev]; exact h1), if_neg h2', if_neg (by rw [e 2 (by omega)]; exact h3), ep, if_neg h4, if_neg (by simp; omega), if_neg h1, if_neg h2, if_neg h3, if_neg h4, if_neg h5, e 1 (by omega), e _ (by omega), e _ (by omega)]
theorem req_n {b : List Nat} (h : (req b).2.2.2 = .ok) : 1 ≤ (req b).2.2.1 ∧ (req b).2.2.1 ≤ b.length ∧ (req b).2.2.1 ≤ 260 := by
  obtain ⟨_, _, _, h4, h5, e⟩ := req_ok h
  obtain ⟨_, _, p3, p4, _⟩ := place_ok h4
  rw [e]
  exact ⟨by show 1 ≤ _ + 2; omega, h5, by show _ + 2 ≤ 260; omega⟩
/-- With fewer bytes than the message has it is short. -/
theorem req_take {b : List Nat} (h : (req b).2.2.2 = .ok) {k : Nat} (hk : k < (req b).2.2.1) : (req (b.take k)).2.2.2 = sh (b.take k) := by
  apply Decidable.byContradiction
  intro hn
  have e := req_app (b.drop k) hn
  rw [List.take_append_drop] at e
  rw [e] at h hk
  have := (req_n h).2.1
  simp at this
  omega
theorem req_short {b : List Nat} (h : (req b).2.2.2 = sh b) : b.length < 263 := by
  apply Decidable.byContradiction
  intro hl
  have hn : (req b).2.2.2 ≠ .ok := by rw [h]; exact sh_ne b
  have h6 : ∀ a, sh b = Er.one a 70 → False := by intro a; simp [sh]
  unfold req at h
  by_cases h1 : ver b 5 ≠ .ok
  · rw [if_pos h1] at h
    have hb : b ≠ [] := fun e => by rw [e] at hl; simp at hl
    unfold ver at h
    rw [if_neg hb] at h
    split at h
    · exact sh_ne b h.symm
    · simp [sh] at h
  · rw [if_neg h1, if_neg (by omega)] at h
    by_cases h3 : b.getD 2 0 ≠ 0
    · rw [if_pos h3] at h; simp [sh] at h
    · rw [if_neg h3] at h
      by_cases h4 : (place b).2.2 ≠ .ok
      · rw [if_pos h4] at h
        replace h : (place b).2.2 = sh b := h
        unfold place at h
        rw [if_neg (by omega)] at h
        by_cases g2 : b.getD 3 0 = 1
        · rw [if_pos g2, if_neg (by omega)] at h; exact sh_ne b h.symm
        · rw [if_neg g2] at h
          by_cases g3 : b.getD 3 0 = 3
          · rw [if_pos g3] at h
            by_cases g4 : (txt b 4 253).2.2 = .ok
            · rw [if_pos g4] at h
              by_cases g5 : (name (txt b 4 253).1).2 = .ok
              · rw [if_pos g5] at h; exact sh_ne b h.symm
              · rw [if_neg g5] at h
                replace h : inF 5 (name (txt b 4 253).1).2 = sh b := h
                have g6 : ∀ l x y z, (name l).2 ≠ .two x y z := by
                  intro l x y z
                  unfold name
                  split
                  · simp
                  · split
                    · simp
                    · split <;> simp
                cases g7 : (name (txt b 4 253).1).2 with
                | ok => exact g5 g7
                | one x y => rw [g7] at h; simp [inF, sh] at h
                | two x y z => exact g6 _ x y z g7
            · rw [if_neg g4] at h
              replace h : (txt b 4 253).2.2 = sh b := h
              unfold txt at h
              rw [if_neg (by omega)] at h
              by_cases k2 : b.getD 4 0 < 1 ∨ 253 < b.getD 4 0
              · rw [if_pos k2] at h; simp [sh] at h
              · rw [if_neg k2, if_neg (by omega)] at h; exact sh_ne b h.symm
          · rw [if_neg g3] at h; simp [sh] at h
      · have h4' : (place b).2.2 = .ok := Decidable.not_not.1 h4
        obtain ⟨_, _, _, p4, _⟩ := place_ok h4'
        rw [if_neg h4, if_neg (by omega)] at h
        exact sh_ne b h.symm

/-- The bytes of messages. -/
def putG (ns : List Nat) : List Nat := 5 :: ns.length :: ns
def putL (u p : List Nat) : List Nat := 1 :: u.length :: u ++ p.length :: p
def putR (c : Nat) (a : Ad) (n : List Nat) (p : Nat) : List Nat := [5, c, 0] ++ (if n = [] then [1, a.1, a.2.1, a.2.2.1, a.2.2.2] else 3 :: n.length :: n) ++ [p / 256, p % 256]
theorem greet_put (ns more : List Nat) (h1 : 1 ≤ ns.length) (h2 : ns.length ≤ 255) : greet (putG ns ++ more) = (ns, (putG ns).length, .ok) := by
  have ev : ver (putG ns ++ more) 5 = .ok := ver_ok.2 ⟨by simp [putG], rfl⟩
  unfold greet
  rw [if_pos ev]
  have e : (putG ns ++ more).getD 1 0 = ns.length := rfl
  rw [txt_in (by simp [putG]) (by rw [e]; exact h1) (by rw [e]; exact h2) (by rw [e]; simp [putG]; omega), e]
  show ((ns ++ more).take ns.length, _, _) = _
  rw [List.take_left' rfl]
  simp [putG]; omega
theorem login_put (u p more : List Nat) (h1 : 1 ≤ u.length) (h2 : u.length ≤ 255) (h3 : 1 ≤ p.length) (h4 : p.length ≤ 255) : login (putL u p ++ more) = (u, p, (putL u p).length, .ok) := by
  have ev : ver (putL u p ++ more) 1 = .ok := ver_ok.2 ⟨by simp [putL], rfl⟩
  have e1 : (putL u p ++ more).getD 1 0 = u.length := rfl
  have el : (putL u p ++ more).length = 3 + u.length + p.length + more.length := by simp [putL]; omega
  have t1 := txt_in (b := putL u p ++ more) (a := 1) (m := 255) (by omega) (by rw [e1]; exact h1) (by rw [e1]; exact h2) (by rw [e1]; omega)
  rw [e1] at t1
  have d1 : ((putL u p ++ more).drop (1 + 1)).take u.length = u := by
    show ((u ++ p.length :: p) ++ more).take u.length = u
    rw [List.append_assoc, List.take_left' rfl]
  rw [d1] at t1
  have e2 : (putL u p ++ more).getD (1 + 1 + u.length) 0 = p.length := by
    show (1 :: u.length :: ((u ++ p.length :: p) ++ more)).getD _ 0 = _
    rw [show 1 + 1 + u.length = u.length + 1 + 1 by omega, List.getD_cons_succ, List.getD_cons_succ, List.append_assoc, List.getD, List.getElem?_append_right (Nat.le_refl _), Nat.sub_self]
    rfl
  have t2 := txt_in (b := putL u p ++ more) (a := 1 + 1 + u.length) (m := 255) (by omega) (by rw [e2]; exact h3) (by rw [e2]; exact h4) (by rw [e2]; omega)
  rw [e2] at t2
  have d2 : ((putL u p ++ more).drop (1 + 1 + u.length + 1)).take p.length = p := by
    rw [show 1 + 1 + u.length + 1 = (u.length + 1) + 1 + 1 by omega]
    show (((u ++ p.length :: p) ++ more).drop (u.length + 1)).take p.length = p
    rw [List.append_assoc, ← List.drop_drop, List.drop_left' rfl]
    show (p ++ more).take p.length = p
    rw [List.take_left' rfl]
  rw [d2] at t2
  unfold login
  rw [if_pos ev, t1]
  simp only [if_true]
  rw [t2]
  simp [putL]; omega
theorem chk_name {a : Ad} {n : List Nat} (h : chk a n = true) (h0 : n ≠ []) : name n = (n, .ok) ∧ a = noA := by
  simp only [chk, h0, decide_false, Bool.false_or, Bool.and_eq_true, decide_eq_true_eq] at h
  exact h
theorem req_put (c : Nat) (a : Ad) (n : List Nat) (p : Nat) (more : List Nat) (hc : chk a n = true) : req (putR c a n p ++ more) = (c, (a, n, p), (putR c a n p).length, .ok) := by
  by_cases h0 : n = []
  · subst h0
    have ev : ver (putR c a [] p ++ more) 5 = .ok := ver_ok.2 ⟨by simp [putR], rfl⟩
    have el : (putR c a [] p ++ more).length = 10 + more.length := by simp [putR]; omega
    have ep : place (putR c a [] p ++ more) = ((a, []), 8, .ok) := by
      unfold place
      rw [if_neg (by omega), if_pos (by rfl), if_neg (by omega)]
      rfl
    unfold req
    rw [if_neg (by rw [ev]; simp), if_neg (by omega), if_neg (by show ¬ (0 ≠ 0); simp), ep]
    simp only []
    rw [if_neg (by simp), if_neg (by omega)]
    show (c, (a, [], p / 256 * 256 + p % 256), 8 + 2, Er.ok) = _
    have : p / 256 * 256 + p % 256 = p := by omega
    rw [this]
    simp [putR]
  · obtain ⟨hn, rfl⟩ := chk_name hc h0
    have hl := (name_ok hn).1
    have h1 : 1 ≤ n.length := List.length_pos_iff.2 h0
    have ee : putR c noA n p = 5 :: c :: 0 :: 3 :: n.length :: (n ++ [p / 256, p % 256]) := by unfold putR; rw [if_neg h0]; simp
    obtain ⟨B, hB⟩ : ∃ B, B = putR c noA n p ++ more := ⟨_, rfl⟩
    have eB : B = 5 :: c :: 0 :: 3 :: n.length :: (n ++ ([p / 256, p % 256] ++ more)) := by rw [hB, ee]; simp
    rw [← hB]
    have el : B.length = 5 + n.length + 2 + more.length := by rw [eB]; simp; omega
    have ev : ver B 5 = .ok := ver_ok.2 ⟨by omega, by rw [eB]; rfl⟩
    have e4 : B.getD 4 0 = n.length := by rw [eB]; rfl
    have t := txt_in (b := B) (a := 4) (m := 253) (by omega) (by omega) (by omega) (by omega)
    rw [e4] at t
    have d : (B.drop (4 + 1)).take n.length = n := by
      rw [eB]
      show (n ++ ([p / 256, p % 256] ++ more)).take n.length = n
      rw [List.take_left' rfl]
    rw [d] at t
    have g5 : ∀ i, B.getD (5 + n.length + i) 0 = ([p / 256, p % 256] ++ more).getD i 0 := by
      intro i
      rw [eB, show 5 + n.length + i = (n.length + i) + 1 + 1 + 1 + 1 + 1 by omega]
      simp only [List.getD_cons_succ]
      rw [List.getD, List.getElem?_append_right (by omega), show n.length + i - n.length = i by omega]
      rfl
    have ep : place B = ((noA, n), 5 + n.length, .ok) := by
      unfold place
      rw [if_neg (by omega), if_neg (by rw [eB]; simp), if_pos (by rw [eB]; rfl), t]
      simp only [if_true]
      rw [hn]
      simp only [if_true]
    unfold req
    rw [if_neg (by rw [ev]; simp), if_neg (by omega), if_neg (by rw [eB]; simp), ep]
    simp only []
    rw [if_neg (by simp), if_neg (by omega)]
    have q1 := g5 0
    have q2 := g5 1
    simp only [Nat.add_zero] at q1
    rw [q1, q2, show B.getD 1 0 = c by rw [eB]; rfl]
    show (c, (noA, n, p / 256 * 256 + p % 256), _, Er.ok) = _
    have : p / 256 * 256 + p % 256 = p := by omega
    rw [this, ee]
    simp; omega
/-- What is read may be written. -/
theorem req_right {b : List Nat} (hb : ∀ x ∈ b, x < 256) (h : (req b).2.2.2 = .ok) : (req b).1 < 256 ∧ Ad.ok (req b).2.1.1 ∧ chk (req b).2.1.1 (req b).2.1.2.1 = true ∧ (req b).2.1.2.2 < 65536 ∧ (req b).2.1.2.1.length ≤ 253 ∧ ∀ x ∈ (req b).2.1.2.1, x < 256 := by
  have hg : ∀ i, b.getD i 0 < 256 := fun i => by
    rw [List.getD]
    cases e : b[i]? with
    | none => simp
    | some x => exact hb x (List.mem_of_getElem? e)
  obtain ⟨_, _, _, h4, h5, e⟩ := req_ok h
  obtain ⟨_, _, _, _, hk⟩ := place_ok h4
  rw [e]
  have hp : b.getD (place b).2.1 0 * 256 + b.getD ((place b).2.1 + 1) 0 < 65536 := by
    have := hg (place b).2.1
    have := hg ((place b).2.1 + 1)
    omega
  rcases hk with ⟨_, _, ea⟩ | ⟨_, ht, _, hn, ea⟩
  · simp only [ea]
    exact ⟨hg 1, ⟨hg 4, hg 5, hg 6, hg 7⟩, by simp [chk], hp, by simp, by simp⟩
  · simp only [ea]
    have e2 : name (txt b 4 253).1 = ((name (txt b 4 253).1).1, .ok) := by rw [← hn]
    obtain ⟨k1, _, _, k4⟩ := name_ok e2
    refine ⟨hg 1, ⟨by decide, by decide, by decide, by decide⟩, ?_, hp, by rw [k4, low_length]; exact k1, ?_⟩
    · rw [k4]
      simp [chk, name_low e2, noA]
    · rw [k4]
      intro x hx
      simp only [low, List.mem_map] at hx
      obtain ⟨y, hy, rfl⟩ := hx
      obtain ⟨_, _, _, _, t5⟩ := txt_ok ht
      rw [t5] at hy
      exact lo_lt (hb y (List.mem_of_mem_drop (List.mem_of_mem_take hy)))

/-! ### A reader: where it stands, and what is wrong. -/
abbrev Sr := Nat × Er
def stS (b : List Nat) (a c : Nat) (s : Sr) : Sr := if s.2 = .ok then (s.1, .one (if c = 6 then b.length else a) c) else s
def tkS (b : List Nat) (n : Nat) (s : Sr) : Sr := if s.2 = .ok then (if s.1 + n ≤ b.length then (s.1 + n, .ok) else (s.1, sh b)) else s
def nxV (b : List Nat) (s : Sr) : Nat := if (tkS b 1 s).2 = .ok then b.getD s.1 0 else 0
def wantS (b : List Nat) (v c : Nat) (s : Sr) : Sr := if nxV b s = v then tkS b 1 s else stS b s.1 c (tkS b 1 s)
def cnS (b : List Nat) (m : Nat) (s : Sr) : Sr := if 1 ≤ nxV b s ∧ nxV b s ≤ m then tkS b 1 s else stS b s.1 72 (tkS b 1 s)
def cdS (b : List Nat) (m : Nat) (s : Sr) : Sr := tkS b (nxV b s) (cnS b m s)
def pc (b : List Nat) (k n : Nat) : List Nat := (b.drop k).take n
/-- Behind a host's bytes: of which kind, how many. -/
def kdS (b : List Nat) (s : Sr) : Sr := if nxV b s = 3 then cdS b 253 (tkS b 1 s) else if nxV b s = 1 then tkS b 4 (tkS b 1 s) else stS b s.1 71 (tkS b 1 s)
def kdN (b : List Nat) (s : Sr) : Nat := if nxV b s = 3 then nxV b (tkS b 1 s) else 4
/-- A host's bytes at a place are read. -/
noncomputable def hsS (k : Nat) (l : List Nat) (s : Sr) : Sr := if s.2 = .ok ∧ k ≠ 1 ∧ (name l).2 ≠ .ok then (s.1, inF (s.1 - l.length) (name l).2) else s
noncomputable def hsV (k : Nat) (l : List Nat) (s : Sr) : Ad × List Nat := if s.2 = .ok then (if k = 1 then ((l.getD 0 0, l.getD 1 0, l.getD 2 0, l.getD 3 0), []) else (noA, (name l).1)) else (noA, [])
noncomputable def dsH (b : List Nat) (s : Sr) : Sr := hsS (nxV b s) (pc b ((kdS b s).1 - kdN b s) (kdN b s)) (kdS b s)
noncomputable def dsS (b : List Nat) (s : Sr) : Sr := tkS b 1 (tkS b 1 (dsH b s))
def ptV (b : List Nat) (s : Sr) : Nat := nxV b s * 256 + nxV b (tkS b 1 s)
noncomputable def dsV (b : List Nat) (s : Sr) : Ds := ((hsV (nxV b s) (pc b ((kdS b s).1 - kdN b s) (kdN b s)) (kdS b s)).1, (hsV (nxV b s) (pc b ((kdS b s).1 - kdN b s) (kdN b s)) (kdS b s)).2, ptV b (dsH b s))

theorem stS_bad {b : List Nat} {a c : Nat} {s : Sr} (h : s.2 ≠ .ok) : stS b a c s = s := if_neg h
theorem tkS_bad {b : List Nat} {n : Nat} {s : Sr} (h : s.2 ≠ .ok) : tkS b n s = s := if_neg h
theorem nxV_bad {b : List Nat} {s : Sr} (h : s.2 ≠ .ok) : nxV b s = 0 := by unfold nxV; rw [tkS_bad h, if_neg h]
theorem wantS_bad {b : List Nat} {v c : Nat} {s : Sr} (h : s.2 ≠ .ok) : wantS b v c s = s := by unfold wantS; rw [tkS_bad h, stS_bad h]; split <;> rfl
theorem cnS_bad {b : List Nat} {m : Nat} {s : Sr} (h : s.2 ≠ .ok) : cnS b m s = s := by unfold cnS; rw [tkS_bad h, stS_bad h]; split <;> rfl
theorem cdS_bad {b : List Nat} {m : Nat} {s : Sr} (h : s.2 ≠ .ok) : cdS b m s = s := by unfold cdS; rw [cnS_bad h, tkS_bad h]
theorem kdS_bad {b : List Nat} {s : Sr} (h : s.2 ≠ .ok) : kdS b s = s := by unfold kdS; rw [tkS_bad h, cdS_bad h, stS_bad h, tkS_bad h]; split <;> (try split) <;> rfl
theorem hsS_bad {k : Nat} {l : List Nat} {s : Sr} (h : s.2 ≠ .ok) : hsS k l s = s := by unfold hsS; rw [if_neg (fun e => h e.1)]
theorem dsH_bad {b : List Nat} {s : Sr} (h : (kdS b s).2 ≠ .ok) : dsH b s = kdS b s := by unfold dsH; rw [hsS_bad h]
theorem dsS_bad {b : List Nat} {s : Sr} (h : (kdS b s).2 ≠ .ok) : dsS b s = kdS b s := by unfold dsS; rw [dsH_bad h, tkS_bad h, tkS_bad h]
theorem nx_in {b : List Nat} {k : Nat} (h : k < b.length) : nxV b (k, .ok) = b.getD k 0 ∧ tkS b 1 (k, .ok) = (k + 1, .ok) := by
  have e : tkS b 1 (k, .ok) = (k + 1, .ok) := by unfold tkS; rw [if_pos rfl, if_pos (by show k + 1 ≤ _; omega)]
  exact ⟨by unfold nxV; rw [e, if_pos rfl], e⟩
theorem nx_out {b : List Nat} {k : Nat} (h : b.length ≤ k) : nxV b (k, .ok) = 0 ∧ tkS b 1 (k, .ok) = (k, sh b) := by
  have e : tkS b 1 (k, .ok) = (k, sh b) := by unfold tkS; rw [if_pos rfl, if_neg (by show ¬ k + 1 ≤ _; omega)]
  exact ⟨by unfold nxV; rw [e, if_neg (sh_ne b)], e⟩
theorem want_in {b : List Nat} {k v c : Nat} (h : k < b.length) (hc : c ≠ 6) : wantS b v c (k, .ok) = if b.getD k 0 = v then (k + 1, .ok) else (k + 1, .one k c) := by
  obtain ⟨e1, e2⟩ := nx_in h
  unfold wantS
  rw [e1, e2, stS, if_pos rfl, if_neg hc]
theorem want_out {b : List Nat} {k v c : Nat} (h : b.length ≤ k) : wantS b v c (k, .ok) = (k, sh b) := by
  obtain ⟨e1, e2⟩ := nx_out h
  unfold wantS
  rw [e1, e2, stS_bad (sh_ne b)]
  split <;> rfl
/-- A number and so many bytes, by the reader. -/
theorem cd_txt (b : List Nat) (m k : Nat) : (cdS b m (k, .ok)).2 = (txt b k m).2.2 ∧ ((cdS b m (k, .ok)).2 = .ok → (cdS b m (k, .ok)).1 = (txt b k m).2.1 ∧ (cdS b m (k, .ok)).1 = k + 1 + nxV b (k, .ok) ∧ pc b (k + 1) (nxV b (k, .ok)) = (txt b k m).1) := by
  by_cases h1 : b.length ≤ k
  · obtain ⟨e1, e2⟩ := nx_out h1
    have ec : cnS b m (k, .ok) = (k, sh b) := by unfold cnS; rw [e1, if_neg (by omega), e2, stS_bad (sh_ne b)]
    have ed : cdS b m (k, .ok) = (k, sh b) := by unfold cdS; rw [ec, tkS_bad (sh_ne b)]
    have et : txt b k m = ([], 0, sh b) := by unfold txt; rw [if_pos h1]
    rw [ed, et]
    exact ⟨rfl, fun e => absurd e (sh_ne b)⟩
  · obtain ⟨e1, e2⟩ := nx_in (b := b) (k := k) (by omega)
    by_cases h2 : b.getD k 0 < 1 ∨ m < b.getD k 0
    · have ec : cnS b m (k, .ok) = (k + 1, .one k 72) := by unfold cnS; rw [e1, if_neg (by omega), e2, stS, if_pos rfl]; rfl
      have ed : cdS b m (k, .ok) = (k + 1, .one k 72) := by unfold cdS; rw [ec, tkS_bad (by simp)]
      have et : txt b k m = ([], 0, .one k 72) := by unfold txt; rw [if_neg h1, if_pos h2]
      rw [ed, et]
      exact ⟨rfl, fun e => by cases e⟩
    · have ec : cnS b m (k, .ok) = (k + 1, .ok) := by unfold cnS; rw [e1, if_pos (by omega), e2]
      by_cases h3 : b.length < k + 1 + b.getD k 0
      · have ed : cdS b m (k, .ok) = (k + 1, sh b) := by unfold cdS; rw [ec, e1, tkS, if_pos rfl, if_neg (by show ¬ k + 1 + _ ≤ _; omega)]
        have et : txt b k m = ([], 0, sh b) := by unfold txt; rw [if_neg h1, if_neg h2, if_pos h3]
        rw [ed, et]
        exact ⟨rfl, fun e => absurd e (sh_ne b)⟩
      · have ed : cdS b m (k, .ok) = (k + 1 + b.getD k 0, .ok) := by unfold cdS; rw [ec, e1, tkS, if_pos rfl, if_pos (by show k + 1 + _ ≤ _; omega)]
        have et := txt_in (b := b) (a := k) (m := m) (by omega) (by omega) (by omega) (by omega)
        rw [ed, et, e1]
        exact ⟨rfl, fun _ => ⟨rfl, rfl, rfl⟩⟩
/-- The first byte, by the reader. -/
theorem want_ver (b : List Nat) (v : Nat) : (wantS b v 70 (0, .ok)).2 = ver b v ∧ ((wantS b v 70 (0, .ok)).2 = .ok → (wantS b v 70 (0, .ok)) = (1, .ok)) := by
  by_cases h : b = []
  · subst h
    rw [want_out (by simp)]
    exact ⟨by simp [ver], fun e => absurd e (sh_ne _)⟩
  · have hp := List.length_pos_iff.2 h
    rw [want_in hp (by omega), ver, if_neg h]
    by_cases h2 : b.getD 0 0 = v
    · rw [if_pos h2, if_pos h2]; exact ⟨rfl, fun _ => rfl⟩
    · rw [if_neg h2, if_neg h2]; exact ⟨rfl, fun e => by cases e⟩
theorem greet_st (b : List Nat) : (cdS b 255 (wantS b 5 70 (0, .ok))).2 = (greet b).2.2 ∧
    ((cdS b 255 (wantS b 5 70 (0, .ok))).2 = .ok → (cdS b 255 (wantS b 5 70 (0, .ok))).1 = (greet b).2.1 ∧ (cdS b 255 (wantS b 5 70 (0, .ok))).1 = (wantS b 5 70 (0, .ok)).1 + 1 + nxV b (wantS b 5 70 (0, .ok)) ∧ pc b ((wantS b 5 70 (0, .ok)).1 + 1) (nxV b (wantS b 5 70 (0, .ok))) = (greet b).1) := by
  obtain ⟨h1, h2⟩ := want_ver b 5
  by_cases h : (wantS b 5 70 (0, .ok)).2 = .ok
  · rw [h2 h]
    have e : greet b = txt b 1 255 := by unfold greet; rw [if_pos (h1 ▸ h)]
    rw [e]
    exact cd_txt b 255 1
  · rw [cdS_bad h]
    have e : greet b = ([], 0, ver b 5) := by unfold greet; rw [if_neg (h1 ▸ h)]
    rw [e]
    exact ⟨h1, fun k => absurd k h⟩
theorem login_st (b : List Nat) (s1 s2 s3 : Sr) (e1 : s1 = wantS b 1 70 (0, .ok)) (e2 : s2 = cdS b 255 s1) (e3 : s3 = cdS b 255 s2) : s3.2 = (login b).2.2.2 ∧
    (s3.2 = .ok → s3.1 = (login b).2.2.1 ∧ s2.2 = .ok ∧ s2.1 = s1.1 + 1 + nxV b s1 ∧ pc b (s1.1 + 1) (nxV b s1) = (login b).1 ∧ s3.1 = s2.1 + 1 + nxV b s2 ∧ pc b (s2.1 + 1) (nxV b s2) = (login b).2.1) := by
  obtain ⟨h1, h2⟩ := want_ver b 1
  rw [← e1] at h1 h2
  by_cases h : s1.2 = .ok
  · have es := h2 h
    obtain ⟨c1, c2⟩ := cd_txt b 255 1
    rw [← es, ← e2] at c1 c2
    by_cases g : s2.2 = .ok
    · obtain ⟨d1, d2, d3⟩ := c2 g
      have es2 : s2 = ((txt b 1 255).2.1, .ok) := by rw [← d1, ← g]
      obtain ⟨f1, f2⟩ := cd_txt b 255 (txt b 1 255).2.1
      rw [← es2, ← e3] at f1 f2
      have el : login b = if (txt b (txt b 1 255).2.1 255).2.2 = .ok then ((txt b 1 255).1, (txt b (txt b 1 255).2.1 255).1, (txt b (txt b 1 255).2.1 255).2.1, .ok) else ([], [], 0, (txt b (txt b 1 255).2.1 255).2.2) := by
        unfold login; rw [if_pos (h1 ▸ h), if_pos (c1 ▸ g)]
      by_cases k : s3.2 = .ok
      · obtain ⟨k1, k2, k3⟩ := f2 k
        rw [el, if_pos (f1 ▸ k)]
        refine ⟨k, fun _ => ⟨k1, g, by rw [d2, es], by rw [es]; rw [← d3, es], by rw [k2, ← d1], by rw [← k3, ← d1]⟩⟩
      · rw [el, if_neg (f1 ▸ k)]
        exact ⟨f1, fun e => absurd e k⟩
    · rw [cdS_bad g] at e3
      have el : login b = ([], [], 0, (txt b 1 255).2.2) := by unfold login; rw [if_pos (h1 ▸ h), if_neg (c1 ▸ g)]
      rw [el, e3]
      exact ⟨c1, fun e => absurd e g⟩
  · rw [cdS_bad h] at e2
    rw [e2, cdS_bad h] at e3
    have el : login b = ([], [], 0, ver b 1) := by unfold login; rw [if_neg (h1 ▸ h)]
    rw [el, e3]
    exact ⟨h1, fun e => absurd e h⟩
theorem pair_st (b : List Nat) (v : Nat) (s1 : Sr) (e1 : s1 = wantS b v 70 (0, .ok)) : (tkS b 1 s1).2 = (pair b v).2.2 ∧ ((tkS b 1 s1).2 = .ok → (tkS b 1 s1).1 = (pair b v).2.1 ∧ nxV b s1 = (pair b v).1) := by
  obtain ⟨h1, h2⟩ := want_ver b v
  rw [← e1] at h1 h2
  by_cases h : s1.2 = .ok
  · rw [h2 h]
    have hp := (ver_ok.1 (h1 ▸ h)).1
    by_cases g : b.length < 2
    · obtain ⟨n1, n2⟩ := nx_out (b := b) (k := 1) (by omega)
      have ep : pair b v = (0, 0, sh b) := by unfold pair; rw [if_pos (h1 ▸ h), if_pos g]
      rw [n2, ep]
      exact ⟨rfl, fun e => absurd e (sh_ne b)⟩
    · obtain ⟨n1, n2⟩ := nx_in (b := b) (k := 1) (by omega)
      have ep : pair b v = (b.getD 1 0, 2, .ok) := by unfold pair; rw [if_pos (h1 ▸ h), if_neg g]
      rw [n2, ep, n1]
      exact ⟨rfl, fun _ => ⟨rfl, rfl⟩⟩
  · rw [tkS_bad h]
    have ep : pair b v = (0, 0, ver b v) := by unfold pair; rw [if_neg (h1 ▸ h)]
    rw [ep]
    exact ⟨h1, fun e => absurd e h⟩
/-- A host at the fourth byte, by the reader. -/
theorem place_st (b : List Nat) : (dsH b (3, .ok)).2 = (place b).2.2 ∧ ((dsH b (3, .ok)).2 = .ok → (dsH b (3, .ok)).1 = (place b).2.1 ∧ hsV (nxV b (3, .ok)) (pc b ((kdS b (3, .ok)).1 - kdN b (3, .ok)) (kdN b (3, .ok))) (kdS b (3, .ok)) = (place b).1) := by
  by_cases h1 : b.length ≤ 3
  · obtain ⟨n1, n2⟩ := nx_out h1
    have ek : kdS b (3, .ok) = (3, sh b) := by unfold kdS; rw [n1, if_neg (by omega), if_neg (by omega), n2, stS_bad (sh_ne b)]
    have ep : place b = ((noA, []), 0, sh b) := by unfold place; rw [if_pos h1]
    rw [dsH_bad (by rw [ek]; exact sh_ne b), ek, ep]
    exact ⟨rfl, fun e => absurd e (sh_ne b)⟩
  obtain ⟨n1, n2⟩ := nx_in (b := b) (k := 3) (by omega)
  by_cases h2 : b.getD 3 0 = 1
  · have ek : kdS b (3, .ok) = tkS b 4 (4, .ok) := by unfold kdS; rw [n1, h2, if_neg (by omega), if_pos rfl, n2]
    by_cases h3 : b.length < 8
    · have ek2 : kdS b (3, .ok) = (4, sh b) := by rw [ek]; unfold tkS; rw [if_pos rfl, if_neg (by show ¬ 4 + 4 ≤ _; omega)]
      have ep : place b = ((noA, []), 0, sh b) := by unfold place; rw [if_neg h1, if_pos h2, if_pos h3]
      rw [dsH_bad (by rw [ek2]; exact sh_ne b), ek2, ep]
      exact ⟨rfl, fun e => absurd e (sh_ne b)⟩
    · have ek2 : kdS b (3, .ok) = (8, .ok) := by rw [ek]; unfold tkS; rw [if_pos rfl, if_pos (by show 4 + 4 ≤ _; omega)]
      have en : kdN b (3, .ok) = 4 := by unfold kdN; rw [n1, h2]; rfl
      have ep : place b = (((b.getD 4 0, b.getD 5 0, b.getD 6 0, b.getD 7 0), []), 8, .ok) := by unfold place; rw [if_neg h1, if_pos h2, if_neg h3]
      have ed : dsH b (3, .ok) = (8, .ok) := by unfold dsH hsS; rw [n1, h2, if_neg (by simp), ek2]
      rw [ed, ek2, en, n1, h2, ep]
      refine ⟨rfl, fun _ => ⟨rfl, ?_⟩⟩
      unfold hsV
      rw [if_pos rfl, if_pos rfl]
      have g : ∀ i, i < 4 → (pc b (8 - 4) 4).getD i 0 = b.getD (4 + i) 0 := by
        intro i hi
        unfold pc
        rw [List.getD, List.getD, List.getElem?_take, if_pos hi, List.getElem?_drop]
      show (((pc b (8 - 4) 4).getD 0 0, (pc b (8 - 4) 4).getD 1 0, (pc b (8 - 4) 4).getD 2 0, (pc b (8 - 4) 4).getD 3 0), ([] : List Nat)) = _
      rw [g 0 (by omega), g 1 (by omega), g 2 (by omega), g 3 (by omega)]
  · by_cases h4 : b.getD 3 0 = 3
    · have ek : kdS b (3, .ok) = cdS b 253 (4, .ok) := by unfold kdS; rw [n1, h4, if_pos rfl, n2]
      have en : kdN b (3, .ok) = nxV b (4, .ok) := by unfold kdN; rw [n1, h4, if_pos rfl, n2]
      obtain ⟨c1, c2⟩ := cd_txt b 253 4
      rw [← ek] at c1 c2
      by_cases g : (kdS b (3, .ok)).2 = .ok
      · obtain ⟨d1, d2, d3⟩ := c2 g
        have epc : pc b ((kdS b (3, .ok)).1 - kdN b (3, .ok)) (kdN b (3, .ok)) = (txt b 4 253).1 := by
          rw [← d3, en, d2, show 4 + 1 + nxV b (4, .ok) - nxV b (4, .ok) = 4 + 1 by omega]
        have t5 := (txt_ok (c1 ▸ g)).2.2.2.2
        have tl : (txt b 4 253).1.length = kdN b (3, .ok) := by
          have t4 := (txt_ok (c1 ▸ g)).2.2.2.1
          have : nxV b (4, .ok) = b.getD 4 0 := (nx_in (by omega)).1
          rw [t5, en, this]
          show ((b.drop 5).take _).length = _
          rw [List.length_take, List.length_drop]; omega
        have ep : place b = if (name (txt b 4 253).1).2 = .ok then ((noA, (name (txt b 4 253).1).1), (txt b 4 253).2.1, .ok) else ((noA, []), 0, inF 5 (name (txt b 4 253).1).2) := by
          unfold place; rw [if_neg h1, if_neg h2, if_pos h4, if_pos (c1 ▸ g)]
        by_cases k : (name (txt b 4 253).1).2 = .ok
        · have ed : dsH b (3, .ok) = kdS b (3, .ok) := by unfold dsH hsS; rw [epc, if_neg (fun e => e.2.2 k)]
          rw [ed, ep, if_pos k, epc]
          refine ⟨g, fun _ => ⟨d1, ?_⟩⟩
          unfold hsV
          rw [if_pos g, n1, h4, if_neg (by omega)]
        · have ed : dsH b (3, .ok) = ((kdS b (3, .ok)).1, inF 5 (name (txt b 4 253).1).2) := by
            unfold dsH hsS
            rw [epc, if_pos ⟨g, by rw [n1, h4]; omega, k⟩, tl, d2, en, show 4 + 1 + nxV b (4, .ok) - nxV b (4, .ok) = 5 by omega]
          rw [ed, ep, if_neg k]
          exact ⟨rfl, fun e => absurd e (inF_ne _ _ k)⟩
      · rw [dsH_bad g]
        have ep : place b = ((noA, []), 0, (txt b 4 253).2.2) := by unfold place; rw [if_neg h1, if_neg h2, if_pos h4, if_neg (c1 ▸ g)]
        rw [ep]
        exact ⟨c1, fun e => absurd e g⟩
    · have ek : kdS b (3, .ok) = (4, .one 3 71) := by unfold kdS; rw [n1, if_neg h4, if_neg h2, n2, stS, if_pos rfl]; rfl
      have ep : place b = ((noA, []), 0, .one 3 71) := by unfold place; rw [if_neg h1, if_neg h2, if_neg h4]
      rw [dsH_bad (by rw [ek]; simp), ek, ep]
      exact ⟨rfl, fun e => by cases e⟩
theorem req_st (b : List Nat) (s1 s2 s3 s4 : Sr) (e1 : s1 = wantS b 5 70 (0, .ok)) (e2 : s2 = tkS b 1 s1) (e3 : s3 = wantS b 0 72 s2) (e4 : s4 = dsS b s3) :
    s4.2 = (req b).2.2.2 ∧ (s4.2 = .ok → s4.1 = (req b).2.2.1 ∧ nxV b s1 = (req b).1 ∧ dsV b s3 = (req b).2.1) := by
  obtain ⟨h1, h2⟩ := want_ver b 5
  rw [← e1] at h1 h2
  by_cases h : s1.2 = .ok
  · have es := h2 h
    have hv : ¬ ver b 5 ≠ .ok := fun k => k (h1 ▸ h)
    have hp := (ver_ok.1 (h1 ▸ h)).1
    rw [es] at e2
    by_cases g1 : b.length < 2
    · rw [(nx_out (b := b) (k := 1) (by omega)).2] at e2
      have b2 : s2.2 ≠ .ok := by rw [e2]; exact sh_ne b
      rw [wantS_bad b2] at e3
      have b3 : (kdS b s3).2 ≠ .ok := by rw [e3, kdS_bad b2]; exact b2
      rw [dsS_bad b3, e3, kdS_bad b2, e2] at e4
      have er : req b = (0, noD, 0, sh b) := by unfold req; rw [if_neg hv, if_pos (by omega)]
      rw [e4, er]
      exact ⟨rfl, fun e => absurd e (sh_ne b)⟩
    · obtain ⟨n1, n2⟩ := nx_in (b := b) (k := 1) (by omega)
      rw [n2] at e2
      rw [e2] at e3
      by_cases g2 : b.length < 3
      · rw [want_out (by omega)] at e3
        have b3 : s3.2 ≠ .ok := by rw [e3]; exact sh_ne b
        have b3' : (kdS b s3).2 ≠ .ok := by rw [kdS_bad b3]; exact b3
        rw [dsS_bad b3', kdS_bad b3, e3] at e4
        have er : req b = (0, noD, 0, sh b) := by unfold req; rw [if_neg hv, if_pos g2]
        rw [e4, er]
        exact ⟨rfl, fun e => absurd e (sh_ne b)⟩
      · rw [want_in (by omega) (by omega)] at e3
        by_cases g3 : b.getD 2 0 = 0
        · rw [if_pos g3] at e3
          have e3' : s3 = (3, .ok) := e3
          obtain ⟨p1, p2⟩ := place_st b
          rw [← e3'] at p1 p2
          have er : req b = if (place b).2.2 ≠ .ok then (0, noD, 0, (place b).2.2) else if b.length < (place b).2.1 + 2 then (0, noD, 0, sh b) else (b.getD 1 0, ((place b).1.1, (place b).1.2, b.getD (place b).2.1 0 * 256 + b.getD ((place b).2.1 + 1) 0), (place b).2.1 + 2, .ok) := by
            conv => lhs; unfold req
            rw [if_neg hv, if_neg g2, if_neg (fun k => k g3)]
          by_cases g4 : (dsH b s3).2 = .ok
          · obtain ⟨q1, q2⟩ := p2 g4
            rw [if_neg (fun k => k (p1 ▸ g4))] at er
            have es3 : dsH b s3 = ((place b).2.1, .ok) := by rw [← q1, ← g4]
            by_cases g5 : b.length < (place b).2.1 + 2
            · have e4' : s4.2 = sh b := by
                rw [e4, dsS, es3]
                by_cases g6 : b.length ≤ (place b).2.1
                · rw [(nx_out g6).2, tkS_bad (sh_ne b)]
                · rw [(nx_in (by omega)).2, (nx_out (by omega)).2]
              rw [er, if_pos g5, e4']
              exact ⟨rfl, fun e => absurd e (sh_ne b)⟩
            · have n3 := nx_in (b := b) (k := (place b).2.1) (by omega)
              have n4 := nx_in (b := b) (k := (place b).2.1 + 1) (by omega)
              have e4' : s4 = ((place b).2.1 + 1 + 1, .ok) := by rw [e4, dsS, es3, n3.2, n4.2]
              rw [er, if_neg g5, e4']
              refine ⟨rfl, fun _ => ⟨rfl, by rw [es]; exact n1, ?_⟩⟩
              unfold dsV ptV
              rw [q2, es3, n3.1, n3.2, n4.1]
          · rw [if_pos (fun k => g4 (p1.trans k))] at er
            have e4' : s4 = dsH b s3 := by rw [e4, dsS, tkS_bad g4, tkS_bad g4]
            rw [er, e4']
            exact ⟨p1, fun e => absurd e g4⟩
        · rw [if_neg g3] at e3
          have b3 : s3.2 ≠ .ok := by rw [e3]; simp
          have b3' : (kdS b s3).2 ≠ .ok := by rw [kdS_bad b3]; exact b3
          rw [dsS_bad b3', kdS_bad b3, e3] at e4
          have er : req b = (0, noD, 0, .one 2 72) := by unfold req; rw [if_neg hv, if_neg g2, if_pos g3]
          rw [e4, er]
          exact ⟨rfl, fun e => by cases e⟩
  · rw [tkS_bad h] at e2
    rw [e2, wantS_bad h] at e3
    have b3' : (kdS b s3).2 ≠ .ok := by rw [e3, kdS_bad h]; exact h
    rw [dsS_bad b3', e3, kdS_bad h] at e4
    have er : req b = (0, noD, 0, ver b 5) := by unfold req; rw [if_pos (fun k => h (h1.trans k))]
    rw [e4, er]
    exact ⟨h1, fun e => absurd e h⟩
end Go.Proofs.YtefgjmijbedbkaaDoor
