/-
  A resolver in numbers: its questions, what is known, what it posts, and what each call makes of it; no conditions but those in each theorem.
-/
import Derived.Test.YtabkelhipmijfaaGreatDoorMT
import Derived.Test.YtabkelhipmijfaaGreatDoorPD
import Derived.Test.YtabkelhipmijfaaGreatDoorVM
set_option linter.unusedSimpArgs false
set_option linter.unusedVariables false
namespace Go.Proofs.YtabkelhipmijfaaGreatDoor
open Go.RowKit

/-- A question that is outstanding. -/
structure Qn where
  id : Int
  nm : ByteArray
  sent : Int
  again : Int
def noQ : Qn := ⟨0, ⟨#[]⟩, 0, 0⟩
/-- A resolver. -/
structure Rs where
  most : Nat
  tab : List Nm.Sl
  qs : List Qn
  ps : List (List Nat)
abbrev nowOk (now : Int) : Prop := 0 ≤ now ∧ now ≤ 1099510579200
def nameOk (t : ByteArray) : Bool := qry 0 (byt t)
theorem nameOk_size {t : ByteArray} (h : nameOk t = true) : t.size ≤ 253 := by
  have := (qry_ok h).2.2.2
  rwa [byt_length] at this
def qAt (L : List Qn) (i : Nat) : Qn := L.getD i noQ
theorem qAt_get {L : List Qn} {i : Nat} (h : i < L.length) : L[i]? = some (qAt L i) := by simp [qAt, h]
theorem qAt_mem {L : List Qn} {i : Nat} (h : i < L.length) : qAt L i ∈ L := List.mem_of_getElem? (qAt_get h)
/-- The first question of a sort; their number, where there is none. -/
def fnd (p : Qn → Bool) : List Qn → Nat
  | [] => 0
  | q :: L => if p q then 0 else fnd p L + 1
theorem fnd_le (p : Qn → Bool) : ∀ L, fnd p L ≤ L.length
  | [] => Nat.le_refl _
  | q :: L => by unfold fnd; split <;> simp; exact fnd_le p L
theorem fnd_at {p : Qn → Bool} : ∀ {L : List Qn} (_ : fnd p L < L.length), p (qAt L (fnd p L)) = true
  | [], h => by simp [fnd] at h
  | q :: L, h => by
    unfold fnd at h ⊢
    split
    · rename_i hq; simpa [qAt] using hq
    · rename_i hq
      rw [if_neg hq] at h
      have := fnd_at (p := p) (L := L) (by simp at h; omega)
      simpa [qAt] using this
theorem fnd_before {p : Qn → Bool} : ∀ {L : List Qn} {j : Nat}, j < fnd p L → p (qAt L j) = false
  | [], j, h => by simp [fnd] at h
  | q :: L, j, h => by
    unfold fnd at h
    split at h
    · omega
    · rename_i hq
      cases j with
      | zero => simpa [qAt] using hq
      | succ j => simpa [qAt] using fnd_before (p := p) (L := L) (j := j) (by omega)
theorem fnd_eq {p : Qn → Bool} {L : List Qn} {j : Nat} (hj : j < L.length) (h : p (qAt L j) = true) (hb : ∀ k, k < j → p (qAt L k) = false) : fnd p L = j := by
  have hle := fnd_le p L
  rcases Nat.lt_trichotomy (fnd p L) j with h1 | h1 | h1
  · have := fnd_at (p := p) (L := L) (by omega)
    rw [hb _ h1] at this
    cases this
  · exact h1
  · have := fnd_before h1
    rw [h] at this
    cases this
theorem fnd_none {p : Qn → Bool} {L : List Qn} (hb : ∀ k, k < L.length → p (qAt L k) = false) : fnd p L = L.length := by
  have hle := fnd_le p L
  rcases Nat.lt_or_ge (fnd p L) L.length with h1 | h1
  · have := fnd_at h1
    rw [hb _ h1] at this
    cases this
  · omega
def fndI (p : Qn → Bool) (L : List Qn) : Int := if fnd p L < L.length then (fnd p L : Nat) else -1
def hasN (t : ByteArray) (q : Qn) : Bool := decide (q.nm = t)
def isT (now : Int) (q : Qn) : Bool := decide (q.again ≤ now)
/-- Is it the fault that says: no answer to this question? -/
def is102 : Er → Bool
  | .ok => false
  | .one _ c => decide (c = 102)
  | .two _ _ c => decide (c = 102)
def noOth (b : List Nat) (q : Qn) : Bool := !is102 (mat q.id (byt q.nm) b).2
/-- A question goes out once more. -/
def snd (R : Rs) (i : Nat) (now draw : Int) : Rs :=
  { R with qs := R.qs.set i ⟨draw % 65536, (qAt R.qs i).nm, (qAt R.qs i).sent + 1, now + 4⟩, ps := R.ps ++ [(putQr (draw % 65536) (byt (qAt R.qs i).nm)).1] }
/-- A question is outstanding no more, and something is known of its name. -/
def stl (R : Rs) (i : Nat) (now : Int) (ads : List Ad) (life : Int) : Rs :=
  { R with tab := Nm.put R.tab now (qAt R.qs i).nm ads life, qs := R.qs.eraseIdx i }
abbrev askBad (now : Int) (t : ByteArray) : Prop := ¬ (nowOk now ∧ nameOk t = true)
def askK (R : Rs) (now : Int) (t : ByteArray) : Int :=
  if askBad now t then 0 else match Nm.got R.tab now t with
  | some _ => 1
  | none => if fnd (hasN t) R.qs < R.qs.length then 2 else if R.qs.length = R.most then 3 else 2
def askA (R : Rs) (now : Int) (t : ByteArray) : List Ad := if askBad now t then [] else Nm.getA R.tab now t
def askE (now : Int) (t : ByteArray) : Int := if askBad now t then 2 else 0
def addQ (R : Rs) (t : ByteArray) : Rs := { R with qs := R.qs ++ [⟨0, t, 0, 0⟩] }
def askR (R : Rs) (now draw : Int) (t : ByteArray) : Rs :=
  if askBad now t then R else match Nm.got R.tab now t with
  | some _ => R
  | none => if fnd (hasN t) R.qs < R.qs.length then R else if R.qs.length = R.most then R else snd (addQ R t) R.qs.length now draw
def stepT (R : Rs) (now : Int) : Bool := decide (nowOk now ∧ fnd (isT now) R.qs < R.qs.length)
def nowE (now : Int) : Int := if nowOk now then 0 else 2
def stepR (R : Rs) (now draw : Int) : Rs :=
  if stepT R now = false then R
  else if (qAt R.qs (fnd (isT now) R.qs)).sent < 3 then snd R (fnd (isT now) R.qs) now draw
  else stl R (fnd (isT now) R.qs) now [] 4
def takM (R : Rs) (b : List Nat) : An × Er := mat (qAt R.qs (fnd (noOth b) R.qs)).id (byt (qAt R.qs (fnd (noOth b) R.qs)).nm) b
def isOk : Er → Bool
  | .ok => true
  | _ => false
theorem isOk_iff (e : Er) : isOk e = true ↔ e = .ok := by cases e <;> simp [isOk]
def takT (R : Rs) (now : Int) (b : List Nat) : Bool := decide (nowOk now ∧ fnd (noOth b) R.qs < R.qs.length) && isOk (takM R b).2
def takR (R : Rs) (now : Int) (b : List Nat) : Rs :=
  if takT R now b = false then R
  else if (takM R b).1.ad.length = 0 then stl R (fnd (noOth b) R.qs) now [] 8
  else stl R (fnd (noOth b) R.qs) now (takM R b).1.ad (max ((takM R b).1.tl : Nat) 1 : Int)
/-- A question as it may be. -/
structure Qn.Ok (q : Qn) : Prop where
  nm : q.nm.size ≤ 253
  s0 : 0 ≤ q.sent
  s3 : q.sent ≤ 3
/-- A resolver as it may be. -/
structure Rs.Ok (R : Rs) : Prop where
  most : R.most ≤ 64
  few : R.qs.length ≤ R.most
  tl : 1 ≤ R.tab.length
  q : ∀ q ∈ R.qs, Qn.Ok q
theorem Rs.Ok.at_ {R : Rs} (h : R.Ok) {i : Nat} (hi : i < R.qs.length) : Qn.Ok (qAt R.qs i) := h.q _ (qAt_mem hi)
theorem mem_eraseIdx {L : List Qn} {i : Nat} {q : Qn} (h : q ∈ L.eraseIdx i) : q ∈ L := List.mem_of_mem_eraseIdx h
theorem mem_set {L : List Qn} {i : Nat} {x q : Qn} (h : q ∈ L.set i x) : q ∈ L ∨ q = x := List.mem_or_eq_of_mem_set h
theorem Rs.Ok.snd {R : Rs} (h : R.Ok) {i : Nat} (hi : i < R.qs.length) (now draw : Int) (h3 : (qAt R.qs i).sent < 3) : (Go.Proofs.YtabkelhipmijfaaGreatDoor.snd R i now draw).Ok := by
  have hq := h.at_ hi
  refine ⟨h.most, by simpa [Go.Proofs.YtabkelhipmijfaaGreatDoor.snd] using h.few, h.tl, fun q hm => ?_⟩
  rcases mem_set hm with h1 | h1
  · exact h.q q h1
  · subst h1
    have := hq.s0
    exact ⟨hq.nm, by show 0 ≤ _ + 1; omega, by show _ + 1 ≤ 3; omega⟩
theorem Rs.Ok.stl {R : Rs} (h : R.Ok) {i : Nat} (hi : i < R.qs.length) (now : Int) (ads : List Ad) (life : Int) : (Go.Proofs.YtabkelhipmijfaaGreatDoor.stl R i now ads life).Ok := by
  refine ⟨h.most, ?_, ?_, fun q hm => h.q q (mem_eraseIdx hm)⟩
  · have h1 := h.few
    show (R.qs.eraseIdx i).length ≤ R.most
    rw [List.length_eraseIdx]
    split <;> omega
  · show 1 ≤ (Nm.put _ _ _ _ _).length
    rw [Nm.put_length]
    exact h.tl
theorem addQ_ok {R : Rs} (h : R.Ok) {t : ByteArray} (ht : t.size ≤ 253) (hl : R.qs.length ≠ R.most) : (addQ R t).Ok := by
  have := h.few
  refine ⟨h.most, by show (R.qs ++ _).length ≤ R.most; simp; omega, h.tl, fun q hm => ?_⟩
  rcases List.mem_append.1 hm with h1 | h1
  · exact h.q q h1
  · simp at h1
    subst h1
    exact ⟨ht, by show (0 : Int) ≤ 0; omega, by show (0 : Int) ≤ 3; omega⟩
theorem qAt_new (L : List Qn) (x : Qn) : qAt (L ++ [x]) L.length = x := by simp [qAt]
theorem askR_ok {R : Rs} (h : R.Ok) (now draw : Int) (t : ByteArray) : (askR R now draw t).Ok := by
  unfold askR
  split
  · exact h
  · rename_i hb
    split
    · exact h
    · split
      · exact h
      · split
        · exact h
        · rename_i hl
          have hn : nameOk t = true := by
            unfold askBad at hb
            simp only [Classical.not_not] at hb
            exact hb.2
          refine (addQ_ok h (nameOk_size hn) hl).snd (by simp [addQ]) now draw ?_
          show (qAt (R.qs ++ _) R.qs.length).sent < 3
          rw [qAt_new]
          show (0 : Int) < 3
          omega
theorem stepR_ok {R : Rs} (h : R.Ok) (now draw : Int) : (stepR R now draw).Ok := by
  unfold stepR
  split
  · exact h
  · rename_i hs
    simp only [stepT, decide_eq_false_iff_not, Classical.not_not] at hs
    split
    · rename_i h3
      exact h.snd hs.2 now draw h3
    · exact h.stl hs.2 _ _ _
theorem takR_ok {R : Rs} (h : R.Ok) (now : Int) (b : List Nat) : (takR R now b).Ok := by
  unfold takR
  split
  · exact h
  · rename_i hs
    simp only [takT, Bool.not_eq_false, Bool.and_eq_true, decide_eq_true_eq] at hs
    split
    · exact h.stl hs.1.2 _ _ _
    · exact h.stl hs.1.2 _ _ _

end Go.Proofs.YtabkelhipmijfaaGreatDoor
