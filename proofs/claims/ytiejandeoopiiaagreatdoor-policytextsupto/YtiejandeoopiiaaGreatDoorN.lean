/-
  Rules in numbers: which are right, which fits first, their texts, and how a text comes back; no program.
-/
import Derived.Test.YtiejandeoopiiaaGreatDoorM
set_option linter.unusedSimpArgs false
set_option linter.unusedVariables false
namespace Go.Proofs.YtiejandeoopiiaaGreatDoor
/-- A rule. -/
structure Ru where
  al : Bool
  net : Ad
  bits : Int
  suf : ByteArray
  lw : Int
  hg : Int
theorem Ru.eq {r q : Ru} (h1 : r.al = q.al) (h2 : r.net = q.net) (h3 : r.bits = q.bits) (h4 : r.suf = q.suf) (h5 : r.lw = q.lw) (h6 : r.hg = q.hg) : r = q := by
  cases r
  cases q
  simp only at h1 h2 h3 h4 h5 h6
  subst h1 h2 h3 h4 h5 h6
  rfl
def noRu : Ru := ⟨false, (0, 0, 0, 0), 0, ⟨#[]⟩, 0, 0⟩
/-- Is it a rule? -/
def Ru.right (r : Ru) : Bool := decide (1 ≤ r.lw) && decide (r.hg ≤ 65535) && decide (r.lw ≤ r.hg) &&
  (if byt r.suf = [] then decide (0 ≤ r.bits) && decide (r.bits ≤ 32) && decide (wd r.net * 2 ^ r.bits.toNat % 4294967296 = 0) else decide (r.bits = 0) && chk r.net (byt r.suf))
/-- Check: 0, or the number of what is wrong. -/
def chkL (l : List Ru) : Nat := if 64 < l.length then 3 else if l.all Ru.right = true then 0 else 120
/-- Does a rule fit? -/
def fit (a : Ad) (n : List Nat) (p : Int) (r : Ru) : Bool := decide (r.lw ≤ p) && decide (p ≤ r.hg) && (if byt r.suf = [] then decide (n = []) && inB a r.net r.bits else under n (byt r.suf))
/-- The first that fits, from the i-th on. -/
def first (f : Ru → Bool) : Nat → List Ru → Int
  | _, [] => -1
  | i, r :: l => if f r = true then (i : Int) else first f (i + 1) l
def okD (a : Ad) (n : List Nat) (p : Int) : Bool := chk a n && decide (1 ≤ p) && decide (p ≤ 65535)
/-- Which. -/
def which (l : List Ru) (a : Ad) (n : List Nat) (p : Int) : Int := if chkL l = 0 ∧ okD a n p = true then first (fit a n p) 0 l else -1
/-- May. -/
def may (l : List Ru) (a : Ad) (n : List Nat) (p : Int) : Bool := if which l a n p < 0 then false else (l.getD (which l a n p).toNat noRu).al

theorem first_bound (f : Ru → Bool) : ∀ (l : List Ru) (i : Nat), first f i l = -1 ∨ ∃ k, k < l.length ∧ first f i l = ((i + k : Nat) : Int) ∧ f (l.getD k noRu) = true ∧ ∀ j, j < k → f (l.getD j noRu) = false
  | [], i => Or.inl rfl
  | r :: l, i => by
    unfold first
    by_cases h : f r = true
    · rw [if_pos h]
      exact Or.inr ⟨0, by simp, by simp, by simpa using h, fun j hj => by omega⟩
    · rw [if_neg h]
      rcases first_bound f l (i + 1) with e | ⟨k, h1, h2, h3, h4⟩
      · exact Or.inl e
      · refine Or.inr ⟨k + 1, by simp; omega, by rw [h2]; congr 1; omega, by simpa using h3, fun j hj => ?_⟩
        cases j with
        | zero => simpa using h
        | succ j => simpa using h4 j (by omega)
theorem first_none {f : Ru → Bool} : ∀ (l : List Ru) (i : Nat), (∀ r ∈ l, f r = false) → first f i l = -1
  | [], i, _ => rfl
  | r :: l, i, h => by
    unfold first
    rw [if_neg (by simp [h r])]
    exact first_none l (i + 1) fun r hr => h r (List.mem_cons_of_mem _ hr)
theorem first_at {f : Ru → Bool} : ∀ (l m : List Ru) (r : Ru) (i : Nat), (∀ q ∈ l, f q = false) → f r = true → first f i (l ++ r :: m) = ((i + l.length : Nat) : Int)
  | [], m, r, i, _, h => by
    show first f i (r :: m) = _
    unfold first
    rw [if_pos h]
    simp
  | q :: l, m, r, i, hl, h => by
    show first f i (q :: (l ++ r :: m)) = _
    unfold first
    rw [if_neg (by simp [hl q])]
    rw [first_at l m r (i + 1) (fun q hq => hl q (List.mem_cons_of_mem _ hq)) h]
    simp only [List.length_cons]
    congr 1
    omega

/-- A rule's text. -/
def allowT : List Nat := [97, 108, 108, 111, 119]
def denyT : List Nat := [100, 101, 110, 121]
def verT (r : Ru) : List Nat := if r.al = true then allowT else denyT
def tarT (r : Ru) : List Nat := if byt r.suf = [] then adt r.net ++ 47 :: dec r.bits.toNat else byt r.suf
def porT (r : Ru) : List Nat := if r.lw = r.hg then dec r.lw.toNat else dec r.lw.toNat ++ 45 :: dec r.hg.toNat
def prt (r : Ru) : List Nat := verT r ++ 32 :: (tarT r ++ 32 :: porT r)

/-- A text cut at a byte's first place. -/
def cutB (c : Nat) : List Nat → List Nat
  | [] => []
  | x :: l => if x = c then [] else x :: cutB c l
def cutA (c : Nat) : List Nat → List Nat
  | [] => []
  | x :: l => if x = c then l else cutA c l
theorem cutB_no {c : Nat} : ∀ (l : List Nat), c ∉ l → cutB c l = l
  | [], _ => rfl
  | x :: l, h => by
    simp at h
    unfold cutB
    rw [if_neg (fun e => h.1 e.symm), cutB_no l h.2]
theorem cutA_no {c : Nat} : ∀ (l : List Nat), c ∉ l → cutA c l = []
  | [], _ => rfl
  | x :: l, h => by
    simp at h
    unfold cutA
    rw [if_neg (fun e => h.1 e.symm), cutA_no l h.2]
theorem cutB_app {c : Nat} : ∀ (l m : List Nat), c ∉ l → cutB c (l ++ c :: m) = l
  | [], m, _ => by show cutB c (c :: m) = []; unfold cutB; rw [if_pos rfl]
  | x :: l, m, h => by
    simp at h
    show cutB c (x :: (l ++ c :: m)) = _
    unfold cutB
    rw [if_neg (fun e => h.1 e.symm), cutB_app l m h.2]
theorem cutA_app {c : Nat} : ∀ (l m : List Nat), c ∉ l → cutA c (l ++ c :: m) = m
  | [], m, _ => by show cutA c (c :: m) = m; unfold cutA; rw [if_pos rfl]
  | x :: l, m, h => by
    simp at h
    show cutA c (x :: (l ++ c :: m)) = _
    unfold cutA
    rw [if_neg (fun e => h.1 e.symm), cutA_app l m h.2]
theorem cutB_mem {c : Nat} : ∀ (l : List Nat), ∀ x ∈ cutB c l, x ∈ l
  | [], x, h => by cases h
  | y :: l, x, h => by
    unfold cutB at h
    split at h
    · cases h
    · rcases List.mem_cons.1 h with rfl | h
      · simp
      · exact List.mem_cons_of_mem _ (cutB_mem l x h)
theorem cutA_mem {c : Nat} : ∀ (l : List Nat), ∀ x ∈ cutA c l, x ∈ l
  | [], x, h => by cases h
  | y :: l, x, h => by
    unfold cutA at h
    split at h
    · exact List.mem_cons_of_mem _ h
    · exact List.mem_cons_of_mem _ (cutA_mem l x h)
theorem cutB_len {c : Nat} : ∀ (l : List Nat), (cutB c l).length ≤ l.length
  | [] => by simp [cutB]
  | y :: l => by
    have := cutB_len (c := c) l
    unfold cutB
    split <;> simp <;> omega
theorem cutA_len {c : Nat} : ∀ (l : List Nat), (cutA c l).length ≤ l.length
  | [] => by simp [cutA]
  | y :: l => by
    have := cutA_len (c := c) l
    unfold cutA
    split <;> simp <;> omega

/-- What Atoi tells of a text. -/
def atoiV (l : List Nat) : Int := match Lib.atoiAll (l.map UInt8.ofNat) with
  | .ok v => v
  | .range => Lib.atoiSat (l.map UInt8.ofNat)
  | _ => 0
theorem dec_two {n : Nat} (h1 : ¬ n < 10) (h2 : n < 100) : dec n = [48 + n / 10, 48 + n % 10] := by
  rw [dec_big h1, dec_small (by omega)]
  rfl
theorem atoi_small : ∀ n : Fin 33, atoiV (if n.val < 10 then [48 + n.val] else [48 + n.val / 10, 48 + n.val % 10]) = (n.val : Int) := by decide +kernel
theorem atoi_dec (n : Nat) (h : n ≤ 32) : atoiV (dec n) = (n : Int) := by
  have := atoi_small ⟨n, by omega⟩
  simp only [] at this
  by_cases h1 : n < 10
  · rw [if_pos h1] at this
    rw [dec_small h1]
    exact this
  · rw [if_neg h1] at this
    rw [dec_two h1 (by omega)]
    exact this
def adOf (l : List Nat) : Ad := (l.getD 0 0, l.getD 1 0, l.getD 2 0, l.getD 3 0)
/-- What a text would mean. -/
def tarM (t : List Nat) : Ad × Int × ByteArray := if 47 ∈ t then (adOf (addr (cutB 47 t)).1, atoiV (cutA 47 t), ⟨#[]⟩) else ((0, 0, 0, 0), 0, strN (name t).1)
def hghT (p : List Nat) : List Nat := if 45 ∈ p then cutA 45 p else cutB 45 p
def meant (s : List Nat) : Ru := ⟨decide (cutB 32 s = allowT), (tarM (cutB 32 (cutA 32 s))).1, (tarM (cutB 32 (cutA 32 s))).2.1, (tarM (cutB 32 (cutA 32 s))).2.2, ((port (cutB 45 (cutA 32 (cutA 32 s)))).1 : Nat), ((port (hghT (cutA 32 (cutA 32 s)))).1 : Nat)⟩
/-- Parse. -/
def prs (s : List Nat) : Option Ru := if s.length ≤ 285 ∧ (meant s).right = true ∧ prt (meant s) = s then some (meant s) else none

theorem name_lb {l q : List Nat} (h : name l = (q, .ok)) : ∀ x ∈ l, x = 46 ∨ lb x = true := by
  obtain ⟨_, h2, _, _⟩ := name_ok h
  have hl := (bLabsNone _ _).1 h2
  intro x hx
  rw [← jn_pcs l] at hx
  have key : ∀ (ps : List (List Nat)), (∀ p ∈ ps, isLab p) → ∀ x ∈ jn ps, x = 46 ∨ lb x = true := by
    intro ps
    induction ps with
    | nil => intro _ x hx; cases hx
    | cons p ps ih =>
      intro hp x hx
      have hpx : x ∈ p → lb x = true := fun hm => by
        obtain ⟨i, hi, e⟩ := List.getElem_of_mem hm
        have := (hp p (by simp)).2.2 i hi
        rw [List.getD, List.getElem?_eq_getElem hi, Option.getD_some, e] at this
        simp only [lbAt, Bool.and_eq_true] at this
        exact this.1
      cases ps with
      | nil => exact Or.inr (hpx hx)
      | cons q r =>
        rw [jn_cons (by simp)] at hx
        rcases List.mem_append.1 hx with hx | hx
        · exact Or.inr (hpx hx)
        · rcases List.mem_cons.1 hx with rfl | hx
          · exact Or.inl rfl
          · exact ih (fun p hp' => hp p (List.mem_cons_of_mem _ hp')) x hx
  exact key _ hl x hx
theorem lb_no {x : Nat} (h : lb x = true) : x ≠ 32 ∧ x ≠ 47 := by
  simp only [lb, Bool.or_eq_true, Bool.and_eq_true, decide_eq_true_eq, dig_iff] at h
  omega
theorem right_parts {r : Ru} (h : r.right = true) : 1 ≤ r.lw ∧ r.lw ≤ r.hg ∧ r.hg ≤ 65535 ∧ ((byt r.suf = [] ∧ 0 ≤ r.bits ∧ r.bits ≤ 32) ∨ (byt r.suf ≠ [] ∧ r.bits = 0 ∧ r.net = (0, 0, 0, 0) ∧ name (byt r.suf) = (byt r.suf, .ok))) := by
  unfold Ru.right at h
  simp only [Bool.and_eq_true, decide_eq_true_eq] at h
  obtain ⟨⟨⟨h1, h2⟩, h3⟩, h4⟩ := h
  refine ⟨h1, h3, h2, ?_⟩
  by_cases hs : byt r.suf = []
  · rw [if_pos hs] at h4
    simp only [Bool.and_eq_true, decide_eq_true_eq] at h4
    exact Or.inl ⟨hs, h4.1⟩
  · rw [if_neg hs] at h4
    simp only [Bool.and_eq_true, decide_eq_true_eq, chk, hs, decide_false, Bool.false_or] at h4
    exact Or.inr ⟨hs, h4.1, h4.2.2, h4.2.1⟩
theorem tarT_no {r : Ru} (h : r.right = true) : 32 ∉ tarT r := by
  obtain ⟨_, _, _, h | h⟩ := right_parts h
  · unfold tarT
    rw [if_pos h.1]
    intro hx
    rcases List.mem_append.1 hx with hx | hx
    · have := adt_mem _ _ hx; omega
    · rcases List.mem_cons.1 hx with hx | hx
      · omega
      · have := dec_all _ _ hx; omega
  · unfold tarT
    rw [if_neg h.1]
    intro hx
    rcases name_lb h.2.2.2 32 hx with e | e
    · omega
    · exact (lb_no e).1 rfl
theorem ver_no (r : Ru) : 32 ∉ verT r := by unfold verT; split <;> simp [allowT, denyT]
theorem por_no (r : Ru) : 32 ∉ porT r := by
  unfold porT
  split
  · exact dec_no _ (by omega)
  · intro hx
    rcases List.mem_append.1 hx with hx | hx
    · exact dec_no _ (by omega) hx
    · rcases List.mem_cons.1 hx with hx | hx
      · omega
      · exact dec_no _ (by omega) hx
theorem port_dec {n : Int} (h1 : 1 ≤ n) (h2 : n ≤ 65535) : port (dec n.toNat) = (n.toNat, .ok) := by
  unfold port
  rw [rd_dec (by omega)]
  show (if n.toNat = 0 then _ else _) = _
  rw [if_neg (by omega)]
theorem strN_nil : strN [] = ⟨#[]⟩ := rfl
/-- What is printed is meant. -/
theorem meant_prt {r : Ru} (h : r.right = true) (ha : r.net.ok) : meant (prt r) = r := by
  obtain ⟨h1, h2, h3, h4⟩ := right_parts h
  have e1 : cutB 32 (prt r) = verT r := cutB_app _ _ (ver_no r)
  have e2 : cutA 32 (prt r) = tarT r ++ 32 :: porT r := cutA_app _ _ (ver_no r)
  have e3 : cutB 32 (tarT r ++ 32 :: porT r) = tarT r := cutB_app _ _ (tarT_no h)
  have e4 : cutA 32 (tarT r ++ 32 :: porT r) = porT r := cutA_app _ _ (tarT_no h)
  have e5 : port (cutB 45 (porT r)) = (r.lw.toNat, .ok) := by
    unfold porT
    split
    · rw [cutB_no _ (dec_no _ (by omega)), port_dec h1 (by omega)]
    · rw [cutB_app _ _ (dec_no _ (by omega)), port_dec h1 (by omega)]
  have e6 : port (hghT (porT r)) = (r.hg.toNat, .ok) := by
    unfold hghT porT
    split
    · rw [if_neg (dec_no _ (by omega)), cutB_no _ (dec_no _ (by omega)), port_dec h1 (by omega)]
      rename_i e
      rw [e]
    · rw [if_pos (by simp), cutA_app _ _ (dec_no _ (by omega)), port_dec (by omega) h3]
  have e7 : tarM (tarT r) = (r.net, r.bits, r.suf) := by
    rcases h4 with ⟨hs, b1, b2⟩ | ⟨hs, b1, b2, b3⟩
    · have hno : 47 ∉ adt r.net := fun hx => by have := adt_mem _ _ hx; omega
      unfold tarM tarT
      rw [if_pos hs, if_pos (by simp), cutB_app _ _ hno, cutA_app _ _ hno, addr_adt _ ha, atoi_dec _ (by omega)]
      have : r.suf = ⟨#[]⟩ := by rw [← strN_byt r.suf, hs]; rfl
      rw [this, show ((r.bits.toNat : Nat) : Int) = r.bits by omega]
      rfl
    · have hno : 47 ∉ byt r.suf := fun hx => by
        rcases name_lb b3 47 hx with e | e
        · omega
        · exact (lb_no e).2 rfl
      unfold tarM tarT
      rw [if_neg hs, if_neg hno, b3, b1, b2, strN_byt]
  have e8 : decide (verT r = allowT) = r.al := by
    unfold verT
    cases r.al <;> decide
  unfold meant
  rw [e1, e2, e3, e4, e5, e6, e7, e8]
  exact Ru.eq rfl rfl rfl rfl (by show ((r.lw.toNat : Nat) : Int) = r.lw; omega) (by show ((r.hg.toNat : Nat) : Int) = r.hg; omega)
theorem prt_len {r : Ru} (h : r.right = true) (ha : r.net.ok) : (prt r).length ≤ 271 := by
  obtain ⟨h1, h2, h3, h4⟩ := right_parts h
  have hv : (verT r).length ≤ 5 := by unfold verT; split <;> simp [allowT, denyT]
  have hd1 := dec_len (n := r.lw.toNat) (by omega)
  have hd2 := dec_len (n := r.hg.toNat) (by omega)
  have hp : (porT r).length ≤ 11 := by
    unfold porT
    split
    · omega
    · simp only [List.length_append, List.length_cons]; omega
  have ht : (tarT r).length ≤ 253 := by
    unfold tarT
    rcases h4 with ⟨hs, b1, b2⟩ | ⟨hs, b1, b2, b3⟩
    · have hd3 := dec_len (n := r.bits.toNat) (by omega)
      have := adk_len r.net.1 r.net.2.1 r.net.2.2.1 r.net.2.2.2 ha.1 ha.2.1 ha.2.2.1 ha.2.2.2 3
      rw [if_pos hs]
      simp only [List.length_append, List.length_cons, adt]
      omega
    · rw [if_neg hs]
      exact (name_ok b3).1
  unfold prt
  simp only [List.length_append, List.length_cons]
  omega
/-- What is printed is read as it was. -/
theorem prs_prt {r : Ru} (h : r.right = true) (ha : r.net.ok) : prs (prt r) = some r := by
  have hm := meant_prt h ha
  have hl := prt_len h ha
  unfold prs
  rw [hm, if_pos ⟨by omega, h, rfl⟩]
theorem prs_some {s : List Nat} {r : Ru} (h : prs s = some r) : s.length ≤ 285 ∧ r.right = true ∧ prt r = s ∧ r = meant s := by
  unfold prs at h
  split at h
  · rename_i hh
    obtain rfl := Option.some.inj h
    exact ⟨hh.1, hh.2.1, hh.2.2, rfl⟩
  · cases h
end Go.Proofs.YtiejandeoopiiaaGreatDoor
