/-
  A port in numbers: how its endpoints stand, what an event and each call make of them; no conditions but those in each theorem.; A port's other calls in numbers: what each answers, and what it makes of a port; no conditions but those in each theorem.; conditions as each theorem has them.
-/
import Derived.Test.YtjojhnkibgkleaaJoinedRE
set_option linter.unusedSimpArgs false
set_option linter.unusedVariables false
namespace Go.Proofs.Ytjojhnkibgkleaa
open Go.RowKit Go.Lib

/-- An endpoint: what is in its ring, its state, its room, whether it is new, whether the other side and this one have ended. -/
structure En where
  q : List Int
  st : Int
  room : Int
  nw : Bool
  oth : Bool
  ths : Bool
/-- An endpoint in a state, with nothing else. -/
def z (s : Int) : En := ⟨[], s, 0, false, false, false⟩
/-- An output. -/
structure Ot where
  k : Int
  e : Int
  d : ByteArray
  a1 : Int
  a2 : Int
  a3 : Int
  a4 : Int
  nm : ByteArray
  po : Int
def emp : ByteArray := ⟨#[]⟩
def ot (k e : Int) (d : ByteArray) : Ot := ⟨k, e, d, 0, 0, 0, 0, emp, 0⟩
structure Pt where
  c : Nat
  sz : Nat
  L : List En
  gr : List ByteArray
  ou : List Ot
def at0 (L : List En) (i : Nat) : En := L.getD i (z 0)
theorem at0_set {L : List En} {i : Nat} (x : En) (hi : i < L.length) (j : Nat) : at0 (L.set i x) j = if j = i then x else at0 L j := by
  unfold at0
  rw [List.getD_eq_getElem?_getD, List.getD_eq_getElem?_getD, List.getElem?_set]
  by_cases h : i = j
  · subst h; simp [hi]
  · rw [if_neg h, if_neg (fun e => h e.symm)]
def inr_ (a b e : Int) : Bool := decide (a ≤ e) && decide (e < b)
def cli (P : Pt) (e : Int) : Bool := inr_ 0 P.c e
def srv (P : Pt) (e : Int) : Bool := inr_ P.c P.L.length e
def str_ (P : Pt) (e : Int) : Bool := inr_ 0 P.L.length e
def bi (t : ByteArray) : List Int := t.data.toList.map fun c => ((c.toNat : Nat) : Int)
theorem bi_length (t : ByteArray) : (bi t).length = t.size := by show (t.data.toList.map _).length = t.data.size; simp
theorem bi_byte (t : ByteArray) : ∀ x ∈ bi t, 0 ≤ x ∧ x < 256 := by
  intro x hx
  simp only [bi, List.mem_map] at hx
  obtain ⟨c, _, rfl⟩ := hx
  have := c.toNat_lt
  omega
theorem str_bi (t : ByteArray) : strOfNums (bi t) = t := by
  simp only [strOfNums, bi, List.map_map]
  apply ByteArray.ext
  apply Array.toList_inj.1
  simp only [List.toList_toArray]
  conv => rhs; rw [← List.map_id t.data.toList]
  apply List.map_congr_left
  intro c _
  simp
theorem bi_str (l : List Int) (h : ∀ x ∈ l, 0 ≤ x ∧ x < 256) : bi (strOfNums l) = l := by
  simp only [strOfNums, bi, List.map_map]
  conv => rhs; rw [← List.map_id l]
  apply List.map_congr_left
  intro x hx
  have := h x hx
  simp
  omega
theorem str_size (l : List Int) : (strOfNums l).size = l.length := by show ((l.map _).toArray).size = _; simp
/-- Is there such a kind of event, and is it for that endpoint? -/
def isF (P : Pt) (k e N : Int) (d : ByteArray) : Bool :=
  if k = 1 then cli P e
  else if k = 2 ∨ k = 3 ∨ k = 4 then str_ P e
  else if k = 5 then decide (0 ≤ N) && str_ P e
  else if k = 6 ∨ k = 7 then srv P e
  else if k = 8 then decide (e = P.L.length) && decide (d.size ≤ 512)
  else false
/-- Why an endpoint refuses a kind. -/
def refu (x : En) (k : Int) : Int :=
  if k = 1 then (if x.st = 0 then 0 else 151)
  else if k = 2 ∨ k = 3 then (if x.oth then 150 else if x.st = 1 then 0 else 150)
  else if k = 5 then (if x.st = 1 then 0 else 150)
  else if k = 4 then (if x.st = 1 ∨ x.st = 2 then 0 else 150)
  else if k = 6 ∨ k = 7 then (if x.st = 2 then 0 else 150)
  else 0
/-- How many bytes go in. -/
def fits (sz : Nat) (x : En) (d : ByteArray) : Nat := min d.size (sz - x.q.length)
/-- What an event makes of an endpoint. -/
def hap (sz : Nat) (x : En) (k N : Int) (d : ByteArray) : En :=
  if k = 2 then { x with q := x.q ++ (bi d).take (fits sz x d) }
  else if k = 3 then { x with oth := true }
  else if k = 5 then { x with room := x.room + min N (1099511627776 - x.room) }
  else if k = 4 then (if x.nw then z 0 else z 3)
  else if k = 7 then z 3
  else if k = 1 then { z 1 with nw := true }
  else if k = 6 then z 1
  else x
def hapN (sz : Nat) (x : En) (k : Int) (d : ByteArray) : Nat := if k = 2 then fits sz x d else 0
def evC (P : Pt) (k e N : Int) (d : ByteArray) : Int :=
  if isF P k e N d = false then 2
  else if k = 8 then (if P.gr.length = 8 then 4 else 0)
  else refu (at0 P.L e.toNat) k
def evN (P : Pt) (k e N : Int) (d : ByteArray) : Nat :=
  if isF P k e N d = false ∨ k = 8 ∨ refu (at0 P.L e.toNat) k ≠ 0 then 0 else hapN P.sz (at0 P.L e.toNat) k d
def evP (P : Pt) (k e N : Int) (d : ByteArray) : Pt :=
  if isF P k e N d = false then P
  else if k = 8 then (if P.gr.length = 8 then P else { P with gr := P.gr ++ [d] })
  else if refu (at0 P.L e.toNat) k ≠ 0 then P
  else { P with L := P.L.set e.toNat (hap P.sz (at0 P.L e.toNat) k N d) }
/-- An endpoint as it may be. -/
structure En.Ok (sz : Nat) (x : En) : Prop where
  q : x.q.length ≤ sz
  s0 : 0 ≤ x.st
  s3 : x.st ≤ 3
  r0 : 0 ≤ x.room
  r1 : x.room ≤ 1099511627776
/-- A port as it may be. -/
structure Pt.Ok (P : Pt) : Prop where
  c : P.c ≤ P.L.length
  n : P.L.length ≤ 128
  z0 : 1 ≤ P.sz
  z1 : P.sz ≤ 65536
  e : ∀ i, En.Ok P.sz (at0 P.L i)
  g : P.gr.length ≤ 8
theorem z_ok (sz : Nat) (s : Int) (h0 : 0 ≤ s) (h1 : s ≤ 3) : En.Ok sz (z s) := ⟨by simp [z], h0, h1, by simp [z], by simp [z]⟩
theorem hap_ok {sz : Nat} {x : En} (h : En.Ok sz x) (k N : Int) (d : ByteArray) (hN : k = 5 → 0 ≤ N) : En.Ok sz (hap sz x k N d) := by
  have hq := h.q
  have h0 := h.r0
  have h1 := h.r1
  unfold hap
  split
  · refine ⟨?_, h.s0, h.s3, h.r0, h.r1⟩
    simp only [List.length_append, List.length_take, bi_length, fits]
    omega
  · split
    · exact ⟨h.q, h.s0, h.s3, h.r0, h.r1⟩
    · split
      · rename_i h5
        have := hN h5
        refine ⟨h.q, h.s0, h.s3, ?_, ?_⟩
        · show 0 ≤ x.room + _
          omega
        · show x.room + _ ≤ _
          omega
      · split
        · split
          · exact z_ok _ _ (by omega) (by omega)
          · exact z_ok _ _ (by omega) (by omega)
        · split
          · exact z_ok _ _ (by omega) (by omega)
          · split
            · exact ⟨by simp [z], by simp [z], by simp [z], by simp [z], by simp [z]⟩
            · split
              · exact z_ok _ _ (by omega) (by omega)
              · exact h
theorem Pt.Ok.set {P : Pt} (h : P.Ok) {i : Nat} (hi : i < P.L.length) {x : En} (hx : En.Ok P.sz x) (ou : List Ot) : Pt.Ok { P with L := P.L.set i x, ou := ou } :=
  ⟨by simpa using h.c, by simpa using h.n, h.z0, h.z1, fun j => by
    show En.Ok P.sz (at0 (P.L.set i x) j)
    rw [at0_set x hi]
    split
    · exact hx
    · exact h.e j, h.g⟩
theorem inr_nat {a b : Nat} {e : Int} (h : inr_ a b e = true) : a ≤ e.toNat ∧ e.toNat < b ∧ (e.toNat : Int) = e := by
  simp only [inr_, Bool.and_eq_true, decide_eq_true_eq] at h
  omega
theorem isF_lt {P : Pt} (h : P.Ok) {k e N : Int} {d : ByteArray} (hf : isF P k e N d = true) (hk : k ≠ 8) : e.toNat < P.L.length ∧ (e.toNat : Int) = e := by
  have hc := h.c
  unfold isF cli str_ srv at hf
  split at hf
  · have := inr_nat (a := 0) hf; omega
  · split at hf
    · have := inr_nat (a := 0) hf; omega
    · split at hf
      · simp only [Bool.and_eq_true] at hf
        have := inr_nat (a := 0) hf.2; omega
      · split at hf
        · have := inr_nat hf; omega
        · cases hf
theorem evP_ok {P : Pt} (h : P.Ok) (k e N : Int) (d : ByteArray) : (evP P k e N d).Ok := by
  unfold evP
  split
  · exact h
  · rename_i hf
    split
    · split
      · exact h
      · rename_i h8
        have := h.g
        exact ⟨h.c, h.n, h.z0, h.z1, h.e, by simp; omega⟩
    · rename_i hk
      split
      · exact h
      · have hf : isF P k e N d = true := by simpa using hf
        exact h.set (isF_lt h hf hk).1 (hap_ok (h.e _) k N d (fun h5 => by
          subst h5
          simp [isF] at hf
          exact hf.1)) P.ou
theorem evP_sz (P : Pt) (k e N : Int) (d : ByteArray) : (evP P k e N d).sz = P.sz ∧ (evP P k e N d).c = P.c ∧ (evP P k e N d).L.length = P.L.length ∧ (evP P k e N d).ou = P.ou := by
  unfold evP
  split
  · exact ⟨rfl, rfl, rfl, rfl⟩
  · split
    · split <;> exact ⟨rfl, rfl, rfl, rfl⟩
    · split
      · exact ⟨rfl, rfl, rfl, rfl⟩
      · exact ⟨rfl, rfl, by simp, rfl⟩

end Go.Proofs.Ytjojhnkibgkleaa

set_option linter.unusedSimpArgs false
set_option linter.unusedVariables false
namespace Go.Proofs.Ytjojhnkibgkleaa
open Go.RowKit Go.Lib

/-- The first number from k on, of m numbers, that p says yes to; behind them all: k + m. -/
def fnd (p : Nat → Bool) : Nat → Nat → Nat
  | k, 0 => k
  | k, m + 1 => if p k then k else fnd p (k + 1) m
theorem fnd_eq {p : Nat → Bool} : ∀ {m k i : Nat}, k ≤ i → i ≤ k + m → (∀ j, k ≤ j → j < i → p j = false) → (i < k + m → p i = true) → fnd p k m = i
  | 0, k, i, h1, h2, h3, h4 => by simp [fnd]; omega
  | m + 1, k, i, h1, h2, h3, h4 => by
    unfold fnd
    by_cases e : k = i
    · subst e; rw [if_pos (h4 (by omega))]
    · have := h3 k (Nat.le_refl _) (by omega)
      rw [this, if_neg (by simp)]
      exact fnd_eq (by omega) (by omega) (fun j hj => h3 j (by omega)) (fun hh => h4 (by omega))
theorem fnd_le (p : Nat → Bool) : ∀ (m k : Nat), k ≤ fnd p k m ∧ fnd p k m ≤ k + m
  | 0, k => by simp [fnd]
  | m + 1, k => by
    unfold fnd
    split
    · omega
    · have := fnd_le p m (k + 1); omega
theorem fnd_hit (p : Nat → Bool) : ∀ (m k : Nat), fnd p k m < k + m → p (fnd p k m) = true
  | 0, k => by simp [fnd]
  | m + 1, k => by
    unfold fnd
    split
    · intro _; assumption
    · intro h; exact fnd_hit p m (k + 1) (by omega)

def stN (P : Pt) (e : Int) : Int := if str_ P e then (at0 P.L e.toNat).st else 0
def codeN (P : Pt) (e : Int) : Int := if str_ P e then 0 else 2
def qN (P : Pt) (e : Int) : List Int := if str_ P e then (at0 P.L e.toNat).q else []
def lastE (x : En) : Bool := decide (x.st = 1) && x.oth
def sendE (x : En) : Bool := decide (x.st = 1) && !x.ths
def mayE (x : En) : Int := if sendE x then x.room else 0
def overE (x : En) : Bool := decide (x.st = 3) || (x.oth && x.ths)
def lastN (P : Pt) (e : Int) : Bool := str_ P e && lastE (at0 P.L e.toNat)
def endN (P : Pt) (e : Int) : Bool := lastN P e && decide ((qN P e).length = 0)
def roomN (P : Pt) (e : Int) : Int := if str_ P e then mayE (at0 P.L e.toNat) else 0
def nextA (P : Pt) : Nat := fnd (fun j => (at0 P.L j).nw) 0 P.L.length
def accN (P : Pt) : Int := if nextA P < P.L.length then nextA P else 0
def accC (P : Pt) : Int := if nextA P < P.L.length then 0 else 5
def accP (P : Pt) : Pt := if nextA P < P.L.length then { P with L := P.L.set (nextA P) { at0 P.L (nextA P) with nw := false } } else P
def takeP (P : Pt) (e k : Int) : Pt := if str_ P e then { P with L := P.L.set e.toNat { at0 P.L e.toNat with q := (qN P e).drop (min k.toNat (qN P e).length) } } else P
def takeL (P : Pt) (e k : Int) : List Int := (qN P e).take (min k.toNat (qN P e).length)
def sendT (P : Pt) (e : Int) (n : Nat) : Nat := min n (roomN P e).toNat
def sendP (P : Pt) (e : Int) (l : List Int) : Pt :=
  if sendT P e l.length = 0 then P
  else { P with L := P.L.set e.toNat { at0 P.L e.toNat with room := (at0 P.L e.toNat).room - sendT P e l.length }, ou := P.ou ++ [ot 2 e (strOfNums (l.take (sendT P e l.length)))] }
def finC (P : Pt) (e : Int) : Int := if str_ P e then (if sendE (at0 P.L e.toNat) then 0 else 150) else 2
def finP (P : Pt) (e : Int) : Pt := if finC P e = 0 then { P with L := P.L.set e.toNat { at0 P.L e.toNat with ths := true }, ou := P.ou ++ [ot 3 e emp] } else P
def closeC (P : Pt) (e : Int) : Int := if str_ P e then (if (at0 P.L e.toNat).st = 0 then 150 else 0) else 2
def closeO (P : Pt) (e : Int) : List Ot := if overE (at0 P.L e.toNat) then P.ou else P.ou ++ [ot 4 e emp]
def closeP (P : Pt) (e : Int) : Pt := if closeC P e = 0 then { P with L := P.L.set e.toNat (z 0), ou := closeO P e } else P
/-- A destination. -/
structure De where
  a1 : Int
  a2 : Int
  a3 : Int
  a4 : Int
  nm : ByteArray
  po : Int
def badD (d : De) : Bool := decide (d.po < 1) || decide (65535 < d.po) || decide (d.nm.size ≠ 0)
def otD (e : Int) (d : De) : Ot := ⟨1, e, emp, d.a1, d.a2, d.a3, d.a4, d.nm, d.po⟩
def nextD (P : Pt) : Nat := fnd (fun j => decide ((at0 P.L j).st = 0)) P.c (P.L.length - P.c)
def dialC (P : Pt) (d : De) : Int := if badD d then 2 else if nextD P < P.L.length then 0 else 4
def dialN (P : Pt) (d : De) : Int := if dialC P d = 0 then nextD P else 0
def dialP (P : Pt) (d : De) : Pt := if dialC P d = 0 then { P with L := P.L.set (nextD P) (z 2), ou := P.ou ++ [otD (nextD P) d] } else P
def gramC (P : Pt) : Int := if P.gr.length = 0 then 5 else 0
def gramP (P : Pt) : Pt := { P with gr := P.gr.drop 1 }
def gramL (P : Pt) : ByteArray := P.gr.headD emp
def postC (n : Nat) : Int := if 512 < n then 2 else 0
def postP (P : Pt) (l : List Int) : Pt := if 512 < l.length then P else { P with ou := P.ou ++ [ot 5 P.L.length (strOfNums l)] }
def outsP (P : Pt) : Pt := { P with ou := [] }
def usedN (P : Pt) : Nat := (P.L.map fun x => x.q.length).sum
def newP (c s sz : Nat) : Pt := ⟨c, sz, List.replicate (c + s) (z 0), [], []⟩
theorem at0_rep (n i : Nat) : at0 (List.replicate n (z 0)) i = z 0 := by
  unfold at0
  rw [List.getD_eq_getElem?_getD, List.getElem?_replicate]
  split <;> rfl
theorem newP_ok {c s sz : Nat} (hc : c ≤ 64) (hs : s ≤ 64) (h0 : 1 ≤ sz) (h1 : sz ≤ 65536) : (newP c s sz).Ok :=
  ⟨by simp [newP], by simp [newP]; omega, h0, h1, fun i => by show En.Ok sz (at0 (List.replicate _ _) i); rw [at0_rep]; exact z_ok _ _ (by omega) (by omega), by simp [newP]⟩
theorem str_lt {P : Pt} {e : Int} (h : str_ P e = true) : e.toNat < P.L.length ∧ (e.toNat : Int) = e := by
  have := inr_nat (a := 0) h
  omega
theorem Pt.Ok.ou {P : Pt} (h : P.Ok) (ou : List Ot) : Pt.Ok { P with ou := ou } := ⟨h.c, h.n, h.z0, h.z1, h.e, h.g⟩
theorem Pt.Ok.gr {P : Pt} (h : P.Ok) (gr : List ByteArray) (hg : gr.length ≤ 8) : Pt.Ok { P with gr := gr } := ⟨h.c, h.n, h.z0, h.z1, h.e, hg⟩
theorem accP_ok {P : Pt} (h : P.Ok) : (accP P).Ok := by
  unfold accP
  split
  · rename_i hi
    have := h.e (nextA P)
    exact h.set hi (x := { at0 P.L (nextA P) with nw := false }) ⟨this.q, this.s0, this.s3, this.r0, this.r1⟩ P.ou
  · exact h
theorem takeP_ok {P : Pt} (h : P.Ok) (e k : Int) : (takeP P e k).Ok := by
  unfold takeP
  split
  · rename_i hs
    have ho := h.e e.toNat
    refine h.set (str_lt hs).1 (x := { at0 P.L e.toNat with q := (qN P e).drop (min k.toNat (qN P e).length) }) ⟨?_, ho.s0, ho.s3, ho.r0, ho.r1⟩ P.ou
    have := ho.q
    simp only [qN, hs, if_true, List.length_drop]
    omega
  · exact h
theorem mayE_of {x : En} (h : 0 < mayE x) : mayE x = x.room := by
  unfold mayE at h ⊢
  split
  · rfl
  · rename_i hs; rw [if_neg hs] at h; omega
theorem roomN_of {P : Pt} {e : Int} (h : 0 < roomN P e) : str_ P e = true ∧ roomN P e = (at0 P.L e.toNat).room := by
  unfold roomN at h ⊢
  split
  · rename_i hs
    rw [if_pos hs] at h
    exact ⟨hs, mayE_of h⟩
  · rename_i hs; rw [if_neg hs] at h; omega
theorem sendP_ok {P : Pt} (h : P.Ok) (e : Int) (l : List Int) : (sendP P e l).Ok := by
  unfold sendP
  split
  · exact h
  · rename_i ht
    have ht' := ht
    unfold sendT at ht'
    obtain ⟨hs, hr⟩ := roomN_of (P := P) (e := e) (by omega)
    have ho := h.e e.toNat
    refine h.set (str_lt hs).1 (x := { at0 P.L e.toNat with room := (at0 P.L e.toNat).room - sendT P e l.length }) ⟨ho.q, ho.s0, ho.s3, ?_, ?_⟩ _
    · show 0 ≤ _ - _
      unfold sendT
      omega
    · show _ - _ ≤ _
      have := ho.r1
      omega
theorem fin_str {P : Pt} {e : Int} (h : finC P e = 0) : str_ P e = true ∧ sendE (at0 P.L e.toNat) = true := by
  unfold finC at h
  split at h
  · rename_i hs
    refine ⟨hs, ?_⟩
    split at h
    · assumption
    · omega
  · omega
theorem finP_ok {P : Pt} (h : P.Ok) (e : Int) : (finP P e).Ok := by
  unfold finP
  split
  · rename_i hf
    have hs := (fin_str hf).1
    have ho := h.e e.toNat
    exact h.set (str_lt hs).1 (x := { at0 P.L e.toNat with ths := true }) ⟨ho.q, ho.s0, ho.s3, ho.r0, ho.r1⟩ _
  · exact h
theorem close_str {P : Pt} {e : Int} (h : closeC P e = 0) : str_ P e = true ∧ (at0 P.L e.toNat).st ≠ 0 := by
  unfold closeC at h
  split at h
  · rename_i hs
    refine ⟨hs, ?_⟩
    split at h
    · omega
    · assumption
  · omega
theorem closeP_ok {P : Pt} (h : P.Ok) (e : Int) : (closeP P e).Ok := by
  unfold closeP
  split
  · rename_i hf
    exact h.set (str_lt (close_str hf).1).1 (z_ok _ _ (by omega) (by omega)) _
  · exact h
theorem dial_lt {P : Pt} {d : De} (h : dialC P d = 0) : nextD P < P.L.length := by
  unfold dialC at h
  split at h
  · omega
  · split at h
    · assumption
    · omega
theorem dialP_ok {P : Pt} (h : P.Ok) (d : De) : (dialP P d).Ok := by
  unfold dialP
  split
  · rename_i hf
    exact h.set (dial_lt hf) (z_ok _ _ (by omega) (by omega)) _
  · exact h
theorem gramP_ok {P : Pt} (h : P.Ok) : (gramP P).Ok := h.gr _ (by have := h.g; simp; omega)
theorem postP_ok {P : Pt} (h : P.Ok) (l : List Int) : (postP P l).Ok := by
  unfold postP
  split
  · exact h
  · exact h.ou _
theorem outsP_ok {P : Pt} (h : P.Ok) : (outsP P).Ok := h.ou _

end Go.Proofs.Ytjojhnkibgkleaa
