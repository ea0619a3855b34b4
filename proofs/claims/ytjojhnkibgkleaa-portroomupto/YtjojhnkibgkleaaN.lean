/-
  A port's other calls in numbers: what each answers, and what it makes of a port; no conditions but those in each theorem.
-/
import Derived.Test.YtjojhnkibgkleaaM
set_option linter.unusedSimpArgs false
set_option linter.unusedVariables false
namespace Go.Proofs.Ytjojhnkibgkleaa
open Go.RowKit Go.Lib

/-- The first number from k on, of m numbers, that p says yes to; behind them all: k + m. -/
def fnd (p : Nat → Bool) : Nat → Nat → Nat
  | k, 0 => k
  | k, m + 1 => if p k then k else fnd p (k + 1) m
theorem fnd_eq {p : Nat → Bool} : ∀ {m k i : Nat}, k ≤ i → i ≤ k + m → (∀ j, k ≤ j → j < i → p j = false) → (i < k + m → p i = true) → fnd p k m = i
  | 0, k, i, h1, h2, h3, h4 => by simp [fnd]; omega
  | m + 1, k, i, h1, h2, h3, h4 => by
    unfold fnd
    by_cases e : k = i
    · subst e; rw [if_pos (h4 (by omega))]
    · have := h3 k (Nat.le_refl _) (by omega)
      rw [this, if_neg (by simp)]
      exact fnd_eq (by omega) (by omega) (fun j hj => h3 j (by omega)) (fun hh => h4 (by omega))
theorem fnd_le (p : Nat → Bool) : ∀ (m k : Nat), k ≤ fnd p k m ∧ fnd p k m ≤ k + m
  | 0, k => by simp [fnd]
  | m + 1, k => by
    unfold fnd
    split
    · omega
    · have := fnd_le p m (k + 1); omega
theorem fnd_hit (p : Nat → Bool) : ∀ (m k : Nat), fnd p k m < k + m → p (fnd p k m) = true
  | 0, k => by simp [fnd]
  | m + 1, k => by
    unfold fnd
    split
    · intro _; assumption
    · intro h; exact fnd_hit p m (k + 1) (by omega)

def stN (P : Pt) (e : Int) : Int := if str_ P e then (at0 P.L e.toNat).st else 0
def codeN (P : Pt) (e : Int) : Int := if str_ P e then 0 else 2
def qN (P : Pt) (e : Int) : List Int := if str_ P e then (at0 P.L e.toNat).q else []
def lastE (x : En) : Bool := decide (x.st = 1) && x.oth
def sendE (x : En) : Bool := decide (x.st = 1) && !x.ths
def mayE (x : En) : Int := if sendE x then x.room else 0
def overE (x : En) : Bool := decide (x.st = 3) || (x.oth && x.ths)
def lastN (P : Pt) (e : Int) : Bool := str_ P e && lastE (at0 P.L e.toNat)
def endN (P : Pt) (e : Int) : Bool := lastN P e && decide ((qN P e).length = 0)
def roomN (P : Pt) (e : Int) : Int := if str_ P e then mayE (at0 P.L e.toNat) else 0
def nextA (P : Pt) : Nat := fnd (fun j => (at0 P.L j).nw) 0 P.L.length
def accN (P : Pt) : Int := if nextA P < P.L.length then nextA P else 0
def accC (P : Pt) : Int := if nextA P < P.L.length then 0 else 5
def accP (P : Pt) : Pt := if nextA P < P.L.length then { P with L := P.L.set (nextA P) { at0 P.L (nextA P) with nw := false } } else P
def takeP (P : Pt) (e k : Int) : Pt := if str_ P e then { P with L := P.L.set e.toNat { at0 P.L e.toNat with q := (qN P e).drop (min k.toNat (qN P e).length) } } else P
def takeL (P : Pt) (e k : Int) : List Int := (qN P e).take (min k.toNat (qN P e).length)
def sendT (P : Pt) (e : Int) (n : Nat) : Nat := min n (roomN P e).toNat
def sendP (P : Pt) (e : Int) (l : List Int) : Pt :=
  if sendT P e l.length = 0 then P
  else { P with L := P.L.set e.toNat { at0 P.L e.toNat with room := (at0 P.L e.toNat).room - sendT P e l.length }, ou := P.ou ++ [ot 2 e (strOfNums (l.take (sendT P e l.length)))] }
def finC (P : Pt) (e : Int) : Int := if str_ P e then (if sendE (at0 P.L e.toNat) then 0 else 150) else 2
def finP (P : Pt) (e : Int) : Pt := if finC P e = 0 then { P with L := P.L.set e.toNat { at0 P.L e.toNat with ths := true }, ou := P.ou ++ [ot 3 e emp] } else P
def closeC (P : Pt) (e : Int) : Int := if str_ P e then (if (at0 P.L e.toNat).st = 0 then 150 else 0) else 2
def closeO (P : Pt) (e : Int) : List Ot := if overE (at0 P.L e.toNat) then P.ou else P.ou ++ [ot 4 e emp]
def closeP (P : Pt) (e : Int) : Pt := if closeC P e = 0 then { P with L := P.L.set e.toNat (z 0), ou := closeO P e } else P
/-- A destination. -/
structure De where
  a1 : Int
  a2 : Int
  a3 : Int
  a4 : Int
  nm : ByteArray
  po : Int
def badD (d : De) : Bool := decide (d.po < 1) || decide (65535 < d.po) || decide (d.nm.size ≠ 0)
def otD (e : Int) (d : De) : Ot := ⟨1, e, emp, d.a1, d.a2, d.a3, d.a4, d.nm, d.po⟩
def nextD (P : Pt) : Nat := fnd (fun j => decide ((at0 P.L j).st = 0)) P.c (P.L.length - P.c)
def dialC (P : Pt) (d : De) : Int := if badD d then 2 else if nextD P < P.L.length then 0 else 4
def dialN (P : Pt) (d : De) : Int := if dialC P d = 0 then nextD P else 0
def dialP (P : Pt) (d : De) : Pt := if dialC P d = 0 then { P with L := P.L.set (nextD P) (z 2), ou := P.ou ++ [otD (nextD P) d] } else P
def gramC (P : Pt) : Int := if P.gr.length = 0 then 5 else 0
def gramP (P : Pt) : Pt := { P with gr := P.gr.drop 1 }
def gramL (P : Pt) : ByteArray := P.gr.headD emp
def postC (n : Nat) : Int := if 512 < n then 2 else 0
def postP (P : Pt) (l : List Int) : Pt := if 512 < l.length then P else { P with ou := P.ou ++ [ot 5 P.L.length (strOfNums l)] }
def outsP (P : Pt) : Pt := { P with ou := [] }
def usedN (P : Pt) : Nat := (P.L.map fun x => x.q.length).sum
def newP (c s sz : Nat) : Pt := ⟨c, sz, List.replicate (c + s) (z 0), [], []⟩
theorem at0_rep (n i : Nat) : at0 (List.replicate n (z 0)) i = z 0 := by
  unfold at0
  rw [List.getD_eq_getElem?_getD, List.getElem?_replicate]
  split <;> rfl
theorem newP_ok {c s sz : Nat} (hc : c ≤ 64) (hs : s ≤ 64) (h0 : 1 ≤ sz) (h1 : sz ≤ 65536) : (newP c s sz).Ok :=
  ⟨by simp [newP], by simp [newP]; omega, h0, h1, fun i => by show En.Ok sz (at0 (List.replicate _ _) i); rw [at0_rep]; exact z_ok _ _ (by omega) (by omega), by simp [newP]⟩
theorem str_lt {P : Pt} {e : Int} (h : str_ P e = true) : e.toNat < P.L.length ∧ (e.toNat : Int) = e := by
  have := inr_nat (a := 0) h
  omega
theorem Pt.Ok.ou {P : Pt} (h : P.Ok) (ou : List Ot) : Pt.Ok { P with ou := ou } := ⟨h.c, h.n, h.z0, h.z1, h.e, h.g⟩
theorem Pt.Ok.gr {P : Pt} (h : P.Ok) (gr : List ByteArray) (hg : gr.length ≤ 8) : Pt.Ok { P with gr := gr } := ⟨h.c, h.n, h.z0, h.z1, h.e, hg⟩
theorem accP_ok {P : Pt} (h : P.Ok) : (accP P).Ok := by
  unfold accP
  split
  · rename_i hi
    have := h.e (nextA P)
    exact h.set hi (x := { at0 P.L (nextA P) with nw := false }) ⟨this.q, this.s0, this.s3, this.r0, this.r1⟩ P.ou
  · exact h
theorem takeP_ok {P : Pt} (h : P.Ok) (e k : Int) : (takeP P e k).Ok := by
  unfold takeP
  split
  · rename_i hs
    have ho := h.e e.toNat
    refine h.set (str_lt hs).1 (x := { at0 P.L e.toNat with q := (qN P e).drop (min k.toNat (qN P e).length) }) ⟨?_, ho.s0, ho.s3, ho.r0, ho.r1⟩ P.ou
    have := ho.q
    simp only [qN, hs, if_true, List.length_drop]
    omega
  · exact h
theorem mayE_of {x : En} (h : 0 < mayE x) : mayE x = x.room := by
  unfold mayE at h ⊢
  split
  · rfl
  · rename_i hs; rw [if_neg hs] at h; omega
theorem roomN_of {P : Pt} {e : Int} (h : 0 < roomN P e) : str_ P e = true ∧ roomN P e = (at0 P.L e.toNat).room := by
  unfold roomN at h ⊢
  split
  · rename_i hs
    rw [if_pos hs] at h
    exact ⟨hs, mayE_of h⟩
  · rename_i hs; rw [if_neg hs] at h; omega
theorem sendP_ok {P : Pt} (h : P.Ok) (e : Int) (l : List Int) : (sendP P e l).Ok := by
  unfold sendP
  split
  · exact h
  · rename_i ht
    have ht' := ht
    unfold sendT at ht'
    obtain ⟨hs, hr⟩ := roomN_of (P := P) (e := e) (by omega)
    have ho := h.e e.toNat
    refine h.set (str_lt hs).1 (x := { at0 P.L e.toNat with room := (at0 P.L e.toNat).room - sendT P e l.length }) ⟨ho.q, ho.s0, ho.s3, ?_, ?_⟩ _
    · show 0 ≤ _ - _
      unfold sendT
      omega
    · show _ - _ ≤ _
      have := ho.r1
      omega
theorem fin_str {P : Pt} {e : Int} (h : finC P e = 0) : str_ P e = true ∧ sendE (at0 P.L e.toNat) = true := by
  unfold finC at h
  split at h
  · rename_i hs
    refine ⟨hs, ?_⟩
    split at h
    · assumption
    · omega
  · omega
theorem finP_ok {P : Pt} (h : P.Ok) (e : Int) : (finP P e).Ok := by
  unfold finP
  split
  · rename_i hf
    have hs := (fin_str hf).1
    have ho := h.e e.toNat
    exact h.set (str_lt hs).1 (x := { at0 P.L e.toNat with ths := true }) ⟨ho.q, ho.s0, ho.s3, ho.r0, ho.r1⟩ _
  · exact h
theorem close_str {P : Pt} {e : Int} (h : closeC P e = 0) : str_ P e = true ∧ (at0 P.L e.toNat).st ≠ 0 := by
  unfold closeC at h
  split at h
  · rename_i hs
    refine ⟨hs, ?_⟩
    split at h
    · omega
    · assumption
  · omega
theorem closeP_ok {P : Pt} (h : P.Ok) (e : Int) : (closeP P e).Ok := by
  unfold closeP
  split
  · rename_i hf
    exact h.set (str_lt (close_str hf).1).1 (z_ok _ _ (by omega) (by omega)) _
  · exact h
theorem dial_lt {P : Pt} {d : De} (h : dialC P d = 0) : nextD P < P.L.length := by
  unfold dialC at h
  split at h
  · omega
  · split at h
    · assumption
    · omega
theorem dialP_ok {P : Pt} (h : P.Ok) (d : De) : (dialP P d).Ok := by
  unfold dialP
  split
  · rename_i hf
    exact h.set (dial_lt hf) (z_ok _ _ (by omega) (by omega)) _
  · exact h
theorem gramP_ok {P : Pt} (h : P.Ok) : (gramP P).Ok := h.gr _ (by have := h.g; simp; omega)
theorem postP_ok {P : Pt} (h : P.Ok) (l : List Int) : (postP P l).Ok := by
  unfold postP
  split
  · exact h
  · exact h.ou _
theorem outsP_ok {P : Pt} (h : P.Ok) : (outsP P).Ok := h.ou _

end Go.Proofs.Ytjojhnkibgkleaa
