/-
  What is told of a name, in numbers: it stays among what was taken; conditions as each theorem has them.
-/
import Derived.Test.YtabkelhipmijfaaGreatDoorGM
set_option linter.unusedSimpArgs false
set_option linter.unusedVariables false
namespace Go.Proofs.YtabkelhipmijfaaGreatDoor
open Go.RowKit

/-- What the table has of a name is among what was told of it. -/
def Heard (name : ByteArray) (T : List (List Ad)) (L : List Nm.Sl) : Prop := ∀ s ∈ L, s.name = name → s.ads ≠ [] → s.ads ∈ T
theorem Heard.mono {name : ByteArray} {T U : List (List Ad)} {L : List Nm.Sl} (h : Heard name T L) (hU : ∀ l ∈ T, l ∈ U) : Heard name U L := fun s hs h1 h2 => hU _ (h s hs h1 h2)
theorem heard_new (name : ByteArray) (T : List (List Ad)) (n : Nat) : Heard name T (List.replicate n Nm.zeroS) := fun s hs _ h2 => by
  have := List.eq_of_mem_replicate hs
  subst this
  exact absurd rfl h2
theorem Heard.put {name : ByteArray} {T : List (List Ad)} {L : List Nm.Sl} (h : Heard name T L) (now : Int) (nm : ByteArray) (ads : List Ad) (ttl : Int) (hn : nm = name → ads ≠ [] → ads ∈ T) : Heard name T (Nm.put L now nm ads ttl) := by
  unfold Nm.put
  split
  · exact h
  · split
    · intro s hs h1 h2
      rcases List.mem_or_eq_of_mem_set hs with q | q
      · exact h s q h1 h2
      · subst q; exact absurd rfl h2
    · intro s hs h1 h2
      rcases List.mem_or_eq_of_mem_set hs with q | q
      · exact h s q h1 h2
      · subst q; exact hn h1 h2
theorem askR_tab (R : Rs) (now draw : Int) (t : ByteArray) : (askR R now draw t).tab = R.tab := by
  unfold askR
  split
  · rfl
  · split
    · rfl
    · split
      · rfl
      · split <;> rfl
theorem Heard.step {name : ByteArray} {T : List (List Ad)} {R : Rs} (h : Heard name T R.tab) (now draw : Int) : Heard name T (stepR R now draw).tab := by
  unfold stepR
  split
  · exact h
  · split
    · exact h
    · exact h.put _ _ _ _ (fun _ q => absurd rfl q)
/-- What a known name's Ask tells. -/
theorem Heard.ask {name : ByteArray} {T : List (List Ad)} {R : Rs} (h : Heard name T R.tab) (now : Int) (h0 : askA R now name ≠ []) : askA R now name ∈ T := by
  unfold askA at h0 ⊢
  split at h0
  · exact absurd rfl h0
  · rename_i hb
    rw [if_neg hb]
    unfold Nm.getA at h0 ⊢
    cases hg : Nm.got R.tab now name with
    | none => rw [hg] at h0; exact absurd rfl h0
    | some s =>
      rw [hg] at h0
      obtain ⟨_, h1, h2, _⟩ := Nm.got_spec hg
      exact h s (List.mem_of_getElem? h1) h2 h0
/-- Does an answer match a question? -/
def okQ (b : List Nat) (q : Qn) : Bool := isOk (mat q.id (byt q.nm) b).2
/-- What an answer tells of a name, question by question. -/
def tells (name : ByteArray) (b : List Nat) : List Qn → List (List Ad)
  | [] => []
  | q :: L => if okQ b q = true ∧ q.nm = name then (mat q.id (byt q.nm) b).1.ad :: tells name b L else tells name b L
theorem tells_mem {name : ByteArray} {b : List Nat} {q : Qn} : ∀ {L : List Qn}, q ∈ L → okQ b q = true → q.nm = name → (mat q.id (byt q.nm) b).1.ad ∈ tells name b L
  | [], h, _, _ => by cases h
  | x :: L, h, h1, h2 => by
    unfold tells
    rcases List.mem_cons.1 h with rfl | h
    · rw [if_pos ⟨h1, h2⟩]; exact List.mem_cons_self
    · have := tells_mem (L := L) h h1 h2
      split
      · exact List.mem_cons_of_mem _ this
      · exact this
theorem tells_append (name : ByteArray) (b : List Nat) (L M : List Qn) : tells name b (L ++ M) = tells name b L ++ tells name b M := by
  induction L with
  | nil => rfl
  | cons q L ih =>
    simp only [List.cons_append, tells]
    rw [ih]
    split <;> rfl
/-- An answer was taken exactly where it matches one of the questions. -/
theorem took_any {R : Rs} {now : Int} (hn : nowOk now) (b : List Nat) : takT R now b = R.qs.any (okQ b) := by
  by_cases hok : (ans b).2 = .ok
  · have key : ∀ q, noOth b q = okQ b q := fun q => by
      unfold noOth okQ mat
      rw [if_pos hok]
      split
      · split
        · rw [hok]; rfl
        · rfl
      · rfl
    unfold takT
    by_cases hl : fnd (noOth b) R.qs < R.qs.length
    · have h1 := fnd_at hl
      rw [key] at h1
      rw [decide_eq_true ⟨hn, hl⟩, Bool.true_and]
      have h2 : isOk (takM R b).2 = true := h1
      rw [h2]
      exact (List.any_eq_true.2 ⟨_, qAt_mem hl, h1⟩).symm
    · rw [decide_eq_false (fun q => hl q.2), Bool.false_and]
      refine (Bool.eq_false_iff.2 fun h => ?_).symm
      obtain ⟨q, hq, h1⟩ := List.any_eq_true.1 h
      obtain ⟨j, hj, rfl⟩ := List.getElem_of_mem hq
      have hlt : j < fnd (noOth b) R.qs := by omega
      have := fnd_before hlt
      rw [key] at this
      have e : qAt R.qs j = R.qs[j] := by simp [qAt, hj]
      rw [e, h1] at this
      cases this
  · have key : ∀ q, okQ b q = false := fun q => by
      unfold okQ mat
      rw [if_neg hok]
      cases h : (ans b).2 with
      | ok => exact absurd h hok
      | one _ _ => rfl
      | two _ _ _ => rfl
    have h1 : isOk (takM R b).2 = false := key _
    unfold takT
    rw [h1, Bool.and_false]
    refine (Bool.eq_false_iff.2 fun h => ?_).symm
    obtain ⟨q, hq, h2⟩ := List.any_eq_true.1 h
    rw [key] at h2
    cases h2
theorem Heard.take {name : ByteArray} {T : List (List Ad)} {R : Rs} (h : Heard name T R.tab) (now : Int) (b : List Nat) : Heard name (T ++ tells name b R.qs) (takR R now b).tab := by
  have h' := h.mono (U := T ++ tells name b R.qs) (fun l hl => List.mem_append_left _ hl)
  unfold takR
  split
  · exact h'
  · rename_i ht
    simp only [takT, Bool.not_eq_false, Bool.and_eq_true, decide_eq_true_eq] at ht
    split
    · exact h'.put _ _ _ _ (fun _ q => absurd rfl q)
    · refine h'.put _ _ _ _ (fun e _ => List.mem_append_right _ ?_)
      exact tells_mem (qAt_mem ht.1.2) ht.2 e
end Go.Proofs.YtabkelhipmijfaaGreatDoor
