/-
  Numbers: a head that is written is read as it was; conditions as each theorem has them.
-/
import Derived.Test.YthbnbnfhbkekpaaGreatDoorPT
set_option linter.unusedSimpArgs false
set_option linter.unusedVariables false
namespace Go.Proofs.YthbnbnfhbkekpaaGreatDoor

theorem jn_mem : ∀ (ps : List (List Nat)), ∀ x ∈ jn ps, x = 46 ∨ ∃ p ∈ ps, x ∈ p
  | [], x, h => by simp [jn] at h
  | [p], x, h => by simp [jn] at h; exact Or.inr ⟨p, by simp, h⟩
  | p :: q :: r, x, h => by
    simp only [jn, List.mem_append, List.mem_cons] at h
    rcases h with h | rfl | h
    · exact Or.inr ⟨p, by simp, h⟩
    · exact Or.inl rfl
    · rcases jn_mem (q :: r) x h with h | ⟨p', hp', hx⟩
      · exact Or.inl h
      · exact Or.inr ⟨p', by simp at hp' ⊢; right; exact hp', hx⟩
theorem lab_mem {p : List Nat} (h : isLab p) : ∀ x ∈ p, lb x = true := by
  intro x hx
  obtain ⟨i, hi, rfl⟩ := List.mem_iff_getElem.1 hx
  have := h.2.2 i hi
  unfold lbAt at this
  rw [Bool.and_eq_true] at this
  have h1 := this.1
  rwa [List.getD, List.getElem?_eq_getElem hi] at h1
theorem name_mem {l q : List Nat} (h : name l = (q, .ok)) : ∀ x ∈ l, x = 46 ∨ lb x = true := by
  intro x hx
  obtain ⟨_, h2, _⟩ := name_ok h
  rw [← jn_pcs l] at hx
  rcases jn_mem _ x hx with h | ⟨p, hp, hxp⟩
  · exact Or.inl h
  · exact Or.inr (lab_mem ((bLabsNone _ 0).1 h2 p hp) x hxp)
theorem lb_range {c : Nat} (h : lb c = true) : 33 ≤ c ∧ c ≤ 126 ∧ c ≠ 47 := by
  simp [lb, dig] at h; omega
theorem hot_mem (a : Ad) (n : List Nat) : ∀ x ∈ hot a n, 33 ≤ x ∧ x ≤ 126 ∧ x ≠ 47 := by
  unfold hot
  split
  · rename_i hc
    split
    · intro x hx
      rcases adt_mem a x hx with h | h <;> omega
    · rename_i hn
      intro x hx
      simp only [chk, Bool.or_eq_true, Bool.and_eq_true, decide_eq_true_eq] at hc
      rcases hc with hc | hc
      · exact absurd hc hn
      · rcases name_mem hc.1 x hx with h | h
        · omega
        · exact lb_range h
  · intro x hx; simp at hx
theorem det_isD {a : Ad} {n : List Nat} {p : Int} (ha : a.ok) (h : det a n p ≠ []) : IsD (det a n p) (([a.1, a.2.1, a.2.2.1, a.2.2.2], n), p.toNat) ∧ 1 ≤ p := by
  obtain ⟨h1, h2, h3⟩ := det_ne h
  refine ⟨⟨?_, ?_, dest_det a n p ha h1 h2 h3⟩, h2⟩
  · intro c hc
    unfold det at hc
    rw [if_pos ⟨h1, h2, h3⟩] at hc
    simp only [List.mem_append, List.mem_cons] at hc
    rcases hc with hc | rfl | hc
    · exact hot_mem a n c hc
    · omega
    · have := dec_all _ c hc; omega
  · unfold det
    rw [if_pos ⟨h1, h2, h3⟩]
    simp
theorem putQ_back {m p b : List Nat} {a : Ad} {n : List Nat} {q : Int} {fs : List Fd} (ha : a.ok) (h : putQ m (det a n q) p fs = (b, 0)) (more : List Nat) : request (b ++ more) = (((m, (([a.1, a.2.1, a.2.2.1, a.2.2.2], n), q.toNat), p), fs), b.length, .ok) ∧ b.length ≤ 8192 ∧ 1 ≤ q := by
  unfold putQ at h
  split at h
  · simp at h
  · rename_i t ht
    split at h
    · rename_i htok
      have h8 : b.length ≤ 8192 := by
        obtain ⟨_, _, h3, h4⟩ := put_ok h
        rw [h4]; exact h3
      unfold tgt at ht
      split at ht
      · cases ht
      · rename_i hD
        obtain ⟨hisD, hq⟩ := det_isD ha hD
        refine ⟨?_, h8, hq⟩
        split at ht
        · rename_i hm
          split at ht
          · rename_i hp
            cases ht
            subst hm hp
            have hmem : ∀ c ∈ det a n q, 33 ≤ c ∧ c ≤ 126 := fun c hc => ⟨(hisD.mem c hc).1, (hisD.mem c hc).2.1⟩
            exact request_back h (line_Ln htok hmem) ((rline_parts htok hmem).trans (targ_conn hisD.back)) more
          · cases ht
        · rename_i hm
          split at ht
          · rename_i hp
            cases ht
            have hmem : ∀ c ∈ sch ++ (det a n q ++ p), 33 ≤ c ∧ c ≤ 126 := by
              intro c hc
              simp only [List.mem_append] at hc
              rcases hc with hc | hc | hc
              · have : ∀ c ∈ sch, 33 ≤ c ∧ c ≤ 126 := by decide
                exact this c hc
              · exact ⟨(hisD.mem c hc).1, (hisD.mem c hc).2.1⟩
              · exact (path_parts hp).2.2 c hc
            exact request_back h (line_Ln htok hmem) ((rline_parts htok hmem).trans (targ_other hm hisD hp)) more
          · cases ht
    · simp at h
theorem stat_dec {n : Nat} (h1 : 100 ≤ n) (h2 : n ≤ 599) : stat (dec n) = some n := by
  have hl : (dec n).length = 3 := by
    rw [dec_big (by omega), dec_big (n := n / 10) (by omega), dec_small (n := n / 10 / 10) (by omega)]
    rfl
  have ha : (dec n).all dig = true := by
    rw [List.all_eq_true]
    intro x hx
    have := dec_all n x hx
    simp [dig]; omega
  unfold stat
  rw [val_dec, if_pos ⟨hl, ha, h1, h2⟩]
theorem putY_back {s : Int} {r b : List Nat} {fs : List Fd} (h : putY s r fs = (b, 0)) (more : List Nat) : reply (b ++ more) = (((s.toNat, r), fs), b.length, .ok) ∧ b.length ≤ 8192 ∧ 0 ≤ s := by
  unfold putY at h
  split at h
  · rename_i hc
    obtain ⟨⟨h1, h2⟩, hr⟩ := hc
    have h8 : b.length ≤ 8192 := by
      obtain ⟨_, _, h3, h4⟩ := put_ok h
      rw [h4]; exact h3
    have hst : stat (dec s.toNat) = some s.toNat := stat_dec (by omega) (by omega)
    exact ⟨reply_back h (yline_Ln hst hr) (yline_parts hst hr) more, h8, by omega⟩
  · simp at h
theorem putY_bad {s : Int} {r : List Nat} {fs : List Fd} (h : (putY s r fs).2 ≠ 0) : (putY s r fs).1 = [] := by
  unfold putY at h ⊢
  split
  · rename_i hc
    rw [if_pos hc] at h
    exact put_bad h
  · rfl
end Go.Proofs.YthbnbnfhbkekpaaGreatDoor
