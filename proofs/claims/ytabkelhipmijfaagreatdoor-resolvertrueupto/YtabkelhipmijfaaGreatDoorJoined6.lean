/-
  Messages of DNS in numbers: what an answer that is read is bound by, and that bytes behind it change nothing; no program.; Messages of DNS in numbers: bytes of names, and one record more; no program.; conditions as each theorem has them.
-/
import Derived.Test.YtabkelhipmijfaaGreatDoorN
set_option linter.unusedSimpArgs false
set_option linter.unusedVariables false
namespace Go.Proofs.YtabkelhipmijfaaGreatDoor

/-! ### Heads -/
theorem s5_ok {b : List Nat} {k : Nat} (h : (s5 b k).2 = .ok) : b.length ≤ 512 ∧ 12 ≤ b.length ∧ opn b = (0, .ok) ∧ s1 b = (2, .ok) ∧ s2 b k = (4, .ok) ∧ s3 b k = (6, .ok) ∧ s4 b k = (8, .ok) ∧ s5 b k = (12, .ok) ∧ hFl b &&& 64000 = k ∧ nu b (4, .ok) = 1 := by
  have h4 : (s4 b k).2 = .ok := (tk_ok h).1
  have h3 : (s3 b k).2 = .ok := (tk_ok h4).1
  obtain ⟨c3, g3, e3⟩ := chk1_ok h3
  have h2 : (s2 b k).2 = .ok := (tk_ok g3).1
  obtain ⟨c2, g2, e2⟩ := chk1_ok h2
  have h1 : (s1 b).2 = .ok := (tk_ok g2).1
  have h0 : (opn b).2 = .ok := (tk_ok h1).1
  obtain ⟨l0, e0⟩ := opn_ok h0
  have e1 : s1 b = (2, .ok) := by have := (tk_ok h1).2.2; rw [e0] at this; unfold s1; rw [e0]; exact this
  have f2 : s2 b k = (4, .ok) := by
    have := (tk_ok g2).2.2
    rw [e1] at this
    unfold s2
    rw [e2, e1]
    exact this
  have f3 : s3 b k = (6, .ok) := by
    have := (tk_ok g3).2.2
    rw [f2] at this
    unfold s3
    rw [e3, f2]
    exact this
  have f4 : s4 b k = (8, .ok) := by
    have := (tk_ok h4).2.2
    rw [f3] at this
    unfold s4
    rw [f3]
    exact this
  have f5 : s5 b k = (12, .ok) ∧ 12 ≤ b.length := by
    have := tk_ok h
    rw [f4] at this
    refine ⟨?_, this.2.1⟩
    unfold s5
    rw [f4]
    exact this.2.2
  refine ⟨l0, f5.2, e0, e1, f2, f3, f4, f5.1, ?_, ?_⟩
  · simpa [hFl] using c2
  · simpa [f2] using c3
theorem nu_app' {b : List Nat} {p : Nat} (e : List Nat) (h : p + 2 ≤ b.length) : nu (b ++ e) (p, .ok) = nu b (p, .ok) := nu_app e (by rw [tk_in h])
theorem tk_app' {b : List Nat} {p m : Nat} (e : List Nat) (h : p + m ≤ b.length) : tk (b ++ e) m (p, .ok) = (p + m, .ok) := tk_in (by simp; omega)
theorem head_app {b : List Nat} {k : Nat} (e : List Nat) (h : (s5 b k).2 = .ok) (hl : (b ++ e).length ≤ 512) : s5 (b ++ e) k = s5 b k ∧ hId (b ++ e) = hId b ∧ hFl (b ++ e) = hFl b ∧ hAn (b ++ e) k = hAn b k := by
  obtain ⟨l0, l12, e0, e1, e2, e3, e4, e5, c2, c3⟩ := s5_ok h
  have d0 : opn (b ++ e) = (0, .ok) := by unfold opn; rw [if_neg (by omega)]
  have d1 : s1 (b ++ e) = (2, .ok) := by unfold s1; rw [d0]; exact tk_app' e (by omega)
  have f1 : hFl (b ++ e) = hFl b := by unfold hFl; rw [d1, e1]; exact nu_app' e (by omega)
  have d2 : s2 (b ++ e) k = (4, .ok) := by
    have : decide (nu (b ++ e) (s1 (b ++ e)) &&& 64000 = k) = true := by
      have := f1; unfold hFl at this; rw [this]; simpa [hFl] using c2
    unfold s2 chk1
    rw [if_pos this, d1]
    exact tk_app' e (by omega)
  have d3 : s3 (b ++ e) k = (6, .ok) := by
    have : decide (nu (b ++ e) (s2 (b ++ e) k) = 1) = true := by rw [d2, nu_app' e (by omega)]; simpa using c3
    unfold s3 chk1
    rw [if_pos this, d2]
    exact tk_app' e (by omega)
  have d4 : s4 (b ++ e) k = (8, .ok) := by unfold s4; rw [d3]; exact tk_app' e (by omega)
  have d5 : s5 (b ++ e) k = (12, .ok) := by unfold s5; rw [d4]; exact tk_app' e (by show 8 + (12 - 8) ≤ _; omega)
  refine ⟨by rw [d5, e5], ?_, f1, ?_⟩
  · unfold hId; rw [d0, e0]; exact nu_app' e (by omega)
  · unfold hAn; rw [d3, e3]; exact nu_app' e (by omega)
/-! ### Questions -/
theorem q2_ok {b : List Nat} {s : Sr} (h : (q2 b s).2 = .ok) : (mn b s).2.2 = .ok ∧ (mn b s).2.1 + 4 ≤ b.length ∧ nu b (mn b s).2 = 1 ∧ q1 b s = ((mn b s).2.1 + 2, .ok) ∧ nu b (q1 b s) = 1 ∧ q2 b s = ((mn b s).2.1 + 4, .ok) := by
  obtain ⟨c2, g2, e2⟩ := chk1_ok h
  have h1 : (q1 b s).2 = .ok := (tk_ok g2).1
  obtain ⟨c1, g1, e1⟩ := chk1_ok h1
  have h0 : (mn b s).2.2 = .ok := (tk_ok g1).1
  have f1 : q1 b s = ((mn b s).2.1 + 2, .ok) := by unfold q1; rw [e1]; exact (tk_ok g1).2.2
  have t2 := tk_ok g2
  rw [f1] at t2
  refine ⟨h0, t2.2.1, by simpa using c1, f1, by simpa using c2, ?_⟩
  unfold q2
  rw [e2, f1]
  exact t2.2.2
theorem q2_app {b : List Nat} {s : Sr} (e : List Nat) (h : (q2 b s).2 = .ok) : q2 (b ++ e) s = q2 b s := by
  obtain ⟨h0, hl, c1, f1, c2, f2⟩ := q2_ok h
  have em := mn_app e h0
  have ep : (mn b s).2 = ((mn b s).2.1, .ok) := by rw [← h0]
  have d1 : q1 (b ++ e) s = ((mn b s).2.1 + 2, .ok) := by
    have : decide (nu (b ++ e) (mn (b ++ e) s).2 = 1) = true := by rw [em, ep, nu_app' e (by omega), ← ep]; simpa using c1
    unfold q1 chk1
    rw [if_pos this, em, ep]
    exact tk_app' e (by omega)
  have : decide (nu (b ++ e) (q1 (b ++ e) s) = 1) = true := by rw [d1, nu_app' e (by omega), ← f1]; simpa using c2
  unfold q2 chk1
  rw [if_pos this, d1, tk_app' e (by omega)]
  exact f2.symm
/-! ### Records -/
theorem rs_ok {b : List Nat} {s : Sr} : ∀ k, (rs b s k).2 = .ok → (mn b s).2.2 = .ok ∧ rs b s k = ((mn b s).2.1 + 2 * k, .ok) ∧ (mn b s).2.1 + 2 * k ≤ b.length
  | 0, h => by
    have h' : (mn b s).2.2 = .ok := h
    obtain ⟨h1, h2, h3⟩ := mn_ok h'
    have := (nam_good h2).2.1
    refine ⟨h', by show (mn b s).2 = _; rw [← h']; simp, ?_⟩
    rw [h3]
    simpa using this
  | k + 1, h => by
    obtain ⟨h1, h2, h3⟩ := tk_ok (show (tk b 2 (rs b s k)).2 = .ok from h)
    obtain ⟨g1, g2, g3⟩ := rs_ok k h1
    rw [g2] at h2 h3
    exact ⟨g1, by show tk b 2 (rs b s k) = _; rw [g2, h3]; simp; omega, by simp at h2; omega⟩
theorem rcS_ok {b : List Nat} {s : Sr} (h : (rcS b s).2 = .ok) : (rs b s 5).2 = .ok ∧ (rc b s).da = (mn b s).2.1 + 10 ∧ (rc b s).da + (rc b s).sz ≤ b.length ∧ rcS b s = ((rc b s).da + (rc b s).sz, .ok) := by
  obtain ⟨h1, h2, h3⟩ := tk_ok (show (tk b (nu b (rs b s 4)) (rs b s 5)).2 = .ok from h)
  obtain ⟨g1, g2, g3⟩ := rs_ok 5 h1
  exact ⟨h1, by show (rs b s 5).1 = _; rw [g2], h2, h3⟩
theorem rs_app {b : List Nat} {s : Sr} (e : List Nat) : ∀ k, (rs b s k).2 = .ok → rs (b ++ e) s k = rs b s k
  | 0, h => by show (mn (b ++ e) s).2 = (mn b s).2; rw [mn_app e h]
  | k + 1, h => by
    have h' : (tk b 2 (rs b s k)).2 = .ok := h
    show tk (b ++ e) 2 (rs (b ++ e) s k) = tk b 2 (rs b s k)
    rw [rs_app e k (tk_ok h').1, tk_app e h']
theorem rs_nu_app {b : List Nat} {s : Sr} (e : List Nat) (k : Nat) (h : (rs b s (k + 1)).2 = .ok) : nu (b ++ e) (rs (b ++ e) s k) = nu b (rs b s k) := by
  have h' : (tk b 2 (rs b s k)).2 = .ok := h
  rw [rs_app e k (tk_ok h').1, nu_app e h']
theorem rs_down {b : List Nat} {s : Sr} : ∀ k, (rs b s (k + 1)).2 = .ok → (rs b s k).2 = .ok := fun k h => (tk_ok (show (tk b 2 (rs b s k)).2 = .ok from h)).1
theorem rc_app {b : List Nat} {s : Sr} (e : List Nat) (h : (rcS b s).2 = .ok) : rc (b ++ e) s = rc b s ∧ rcS (b ++ e) s = rcS b s := by
  obtain ⟨h5, hd, hl, hs⟩ := rcS_ok h
  have h4 := rs_down 4 h5
  have h3 := rs_down 3 h4
  have h2 := rs_down 2 h3
  have h1 := rs_down 1 h2
  have h0 := rs_down 0 h1
  have n0 := rs_nu_app e 0 h1
  have n1 := rs_nu_app e 1 h2
  have n2 := rs_nu_app e 2 h3
  have n3 := rs_nu_app e 3 h4
  have n4 := rs_nu_app e 4 h5
  have a5 := rs_app e 5 h5
  have em := mn_app e (show (mn b s).2.2 = .ok from h0)
  constructor
  · unfold rc; rw [n0, n1, n2, n3, n4, a5, em]
  · unfold rcS; rw [n4, a5]; exact tk_app e h
theorem alS_ok {b : List Nat} {r : Rc} {s : Sr} (h : (alS b r s).2 = .ok) : (nam b r.da).2.2 = .ok ∧ (nam b r.da).2.1 = r.da + r.sz ∧ alS b r s = (s.1, .ok) := by
  unfold alS at h ⊢
  split at h
  · rename_i he; exact ⟨h, he, by rw [if_pos he, h]⟩
  · exact absurd h (stp_ne _ _ _)
theorem rstep_rc {b : List Nat} {x : Sr × Ls} (h : (rstep b x).1.2 = .ok) : (rcS b x.1).2 = .ok := by
  unfold rstep at h
  split at h
  · exact h
  · rename_i hn
    exact Decidable.byContradiction fun hc => hn (Or.inl hc)
theorem adAt_app {b : List Nat} {p : Nat} (e : List Nat) (h : p + 4 ≤ b.length) : adAt (b ++ e) p = adAt b p := by
  unfold adAt
  rw [getD_app _ _ _ (by omega), getD_app _ _ _ (by omega), getD_app _ _ _ (by omega), getD_app _ _ _ (by omega)]
theorem rstep_app {b : List Nat} {x : Sr × Ls} (e : List Nat) (h : (rstep b x).1.2 = .ok) : rstep (b ++ e) x = rstep b x := by
  have hc := rstep_rc h
  obtain ⟨e1, e2⟩ := rc_app e hc
  obtain ⟨h5, hd, hl, hs⟩ := rcS_ok hc
  unfold rstep at h ⊢
  rw [e1, e2]
  split
  · rfl
  · rename_i hn
    rw [if_neg hn] at h
    split
    · rename_i h5
      rw [if_pos h5] at h
      obtain ⟨a1, a2, a3⟩ := alS_ok h
      have en := nam_app e a1
      unfold alS
      rw [en]
    · rename_i h5
      rw [if_neg h5] at h
      split
      · rename_i h1
        rw [adAt_app e (by omega)]
      · rfl
theorem rloop_start {b : List Nat} : ∀ (n : Nat) (x : Sr × Ls), (rloop b n x).1.2 = .ok → x.1.2 = .ok
  | 0, x, h => h
  | n + 1, x, h => by
    unfold rloop at h
    split at h
    · assumption
    · exact h
theorem rloop_app {b : List Nat} (e : List Nat) : ∀ (n : Nat) (x : Sr × Ls), (rloop b n x).1.2 = .ok → rloop (b ++ e) n x = rloop b n x
  | 0, x, h => rfl
  | n + 1, x, h => by
    have hx := rloop_start _ _ h
    rw [rloop_ok hx] at h ⊢
    rw [rloop_ok hx, rstep_app e (rloop_start _ _ h)]
    exact rloop_app e n _ h
/-! ### Answers -/
theorem aL_start {b : List Nat} (h : (aL b).1.2 = .ok) : (aS b).2 = .ok := by
  unfold aL at h
  split at h
  · exact rloop_start _ _ h
  · exact h
theorem ans_app {b : List Nat} (e : List Nat) (h : (ans b).2 = .ok) (hl : (b ++ e).length ≤ 512) : ans (b ++ e) = ans b := by
  have hk : (aL b).1.2 = .ok := by
    unfold ans at h
    split at h
    · assumption
    · exact h
  have hs := aL_start hk
  obtain ⟨q0, _, _, _, _, _⟩ := q2_ok hs
  have h5 : (s5 b 32768).2 = .ok := (mn_ok q0).1
  obtain ⟨d5, dI, dF, dA⟩ := head_app e h5 hl
  have eS : aS (b ++ e) = aS b := by unfold aS; rw [d5]; exact q2_app e hs
  have eN : aN (b ++ e) = aN b := by unfold aN; rw [d5, mn_app e q0]
  have eL : aL (b ++ e) = aL b := by
    unfold aL at hk ⊢
    rw [dF, eS, eN, dA]
    split
    · rename_i hc
      rw [if_pos hc] at hk
      exact rloop_app e _ _ hk
    · rfl
  unfold ans
  rw [eL, dI, eN, dF]
theorem more_len {l : List Ad} (a : Ad) (h : l.length ≤ 16) : (more l a).length ≤ 16 := by unfold more; split; exact h; simp; omega
theorem rstep_bound {b : List Nat} {x : Sr × Ls} (h : x.2.2.1.length ≤ 16) : (rstep b x).2.2.1.length ≤ 16 ∧ (rstep b x).2.2.2 ≤ x.2.2.2 := by
  unfold rstep
  split
  · exact ⟨h, Nat.le_refl _⟩
  · split
    · exact ⟨h, Nat.min_le_left _ _⟩
    · split
      · exact ⟨more_len _ h, Nat.min_le_left _ _⟩
      · exact ⟨h, Nat.le_refl _⟩
theorem rloop_bound {b : List Nat} : ∀ (n : Nat) (x : Sr × Ls), x.2.2.1.length ≤ 16 → (rloop b n x).2.2.1.length ≤ 16 ∧ (rloop b n x).2.2.2 ≤ x.2.2.2
  | 0, x, h => ⟨h, Nat.le_refl _⟩
  | n + 1, x, h => by
    unfold rloop
    split
    · have := rstep_bound (b := b) h
      have g := rloop_bound (b := b) n (rstep b x) this.1
      exact ⟨g.1, Nat.le_trans g.2 this.2⟩
    · exact ⟨h, Nat.le_refl _⟩
theorem rstep_byte {b : List Nat} (hb : ∀ x ∈ b, x < 256) {x : Sr × Ls} (h : ∀ a ∈ x.2.2.1, a.ok) : ∀ a ∈ (rstep b x).2.2.1, a.ok := by
  unfold rstep
  split
  · exact h
  · split
    · exact h
    · split
      · intro a ha
        unfold more at ha
        split at ha
        · exact h a ha
        · rcases List.mem_append.1 ha with ha | ha
          · exact h a ha
          · simp at ha
            subst ha
            exact ⟨getD_lt hb _, getD_lt hb _, getD_lt hb _, getD_lt hb _⟩
      · exact h
theorem rloop_byte {b : List Nat} (hb : ∀ x ∈ b, x < 256) : ∀ (n : Nat) (x : Sr × Ls), (∀ a ∈ x.2.2.1, a.ok) → ∀ a ∈ (rloop b n x).2.2.1, a.ok
  | 0, x, h => h
  | n + 1, x, h => by
    unfold rloop
    split
    · exact rloop_byte hb n _ (rstep_byte hb h)
    · exact h
/-- What an answer is bound by. -/
theorem ans_bound {b : List Nat} (hb : ∀ x ∈ b, x < 256) : ((ans b).2 ≠ .ok → (ans b).1 = An.none) ∧ ((ans b).2 = .ok → b.length ≤ 512 ∧ (ans b).1.ad.length ≤ 16 ∧ (ans b).1.tl ≤ 1048576 ∧ ((ans b).1.ad = [] → (ans b).1.tl = 0) ∧ ((ans b).1.cd ≠ 0 → (ans b).1.ad = []) ∧ (ans b).1.id < 65536) := by
  unfold ans
  split
  · rename_i hk
    refine ⟨fun e => absurd rfl e, fun _ => ?_⟩
    have hs := aL_start hk
    obtain ⟨q0, _⟩ := q2_ok hs
    have h5 : (s5 b 32768).2 = .ok := (mn_ok q0).1
    refine ⟨(s5_ok h5).1, ?_, ?_, ?_, ?_, nu_lt hb _⟩
    · show (aL b).2.2.1.length ≤ 16
      unfold aL
      split
      · exact (rloop_bound _ _ (by simp)).1
      · simp
    · show (if (aL b).2.2.1 = [] then 0 else (aL b).2.2.2) ≤ 1048576
      split
      · omega
      · unfold aL
        split
        · exact (rloop_bound _ _ (by simp)).2
        · simp
    · intro e
      show (if (aL b).2.2.1 = [] then 0 else (aL b).2.2.2) = 0
      rw [if_pos e]
    · intro e
      show (aL b).2.2.1 = []
      unfold aL
      rw [if_neg e]
  · rename_i hk
    exact ⟨fun _ => rfl, fun e => absurd e hk⟩
end Go.Proofs.YtabkelhipmijfaaGreatDoor

set_option linter.unusedSimpArgs false
set_option linter.unusedVariables false
namespace Go.Proofs.YtabkelhipmijfaaGreatDoor
theorem low_byte {l : List Nat} (h : ∀ x ∈ l, x < 256) : ∀ x ∈ low l, x < 256 := by
  intro x hx
  simp only [low, List.mem_map] at hx
  obtain ⟨c, hc, rfl⟩ := hx
  exact lo_lt (h c hc)
theorem name_byte {l : List Nat} (h : ∀ x ∈ l, x < 256) : ∀ x ∈ (name l).1, x < 256 := by
  by_cases ho : (name l).2 = .ok
  · rw [(name_some ho).1]; exact low_byte h
  · rw [name_bad ho]; simp
theorem tx_byte {t l : List Nat} (ht : ∀ x ∈ t, x < 256) (hl : ∀ x ∈ l, x < 256) : ∀ x ∈ tx t l, x < 256 := by
  unfold tx
  split
  · exact hl
  · intro x hx
    rcases List.mem_append.1 hx with h | h
    · exact ht x h
    · rcases List.mem_cons.1 h with rfl | h
      · omega
      · exact hl x h
theorem nm_byte (b : List Nat) (hb : ∀ x ∈ b, x < 256) (a q p : Nat) (t : List Nat) (bh : Nat) : (∀ x ∈ t, x < 256) → ∀ x ∈ (nm b a q p t bh).1, x < 256 := by
  refine nm_ways (M := fun b' a q p t bh => b' = b → (∀ x ∈ t, x < 256) → ∀ x ∈ (nm b' a q p t bh).1, x < 256) b a ?_ ?_ ?_ ?_ ?_ ?_ ?_ ?_ ?_ ?_ q p t bh rfl
  · intro q p t bh h _ _; rw [nm_out h]; simp
  · intro q p t bh h h1 h2 _ _; rw [nm_led1 h h1 h2]; simp
  · intro q p t bh h1 h2 h3 _ _; rw [nm_led2 h1 h2 h3]; simp
  · intro q p t bh h1 h2 h3 ih e ht; rw [nm_led h1 h2 h3]; exact ih e ht
  · intro q p t bh h h1 h2 _ _; rw [nm_mid h h1 h2]; simp
  · intro q p t bh h h1 _ ht; rw [nm_end h h1]; split
    · exact name_byte ht
    · simp
  · intro q p t bh h h1 h2 h3 _ _; rw [nm_lab1 h h1 h2 h3]; simp
  · intro q p t bh h1 h2 h3 h4 _ _; rw [nm_lab2 h1 h2 h3 h4]; simp
  · intro q p t bh h1 h2 h3 h4 h5 _ _; rw [nm_lab3 h1 h2 h3 h4 h5]; simp
  · intro q p t bh h1 h2 h3 h4 h5 ih e ht
    rw [nm_lab h1 h2 h3 h4 h5]
    exact ih e (tx_byte ht (fun x hx => hb x (List.mem_of_mem_drop (List.mem_of_mem_take hx))))
theorem nam_byte {b : List Nat} (hb : ∀ x ∈ b, x < 256) (a : Nat) : ∀ x ∈ (nam b a).1, x < 256 := nm_byte b hb a a a [] 0 (by simp)
theorem mn_byte {b : List Nat} (hb : ∀ x ∈ b, x < 256) (s : Sr) : ∀ x ∈ (mn b s).1, x < 256 := by
  unfold mn
  split
  · exact nam_byte hb _
  · simp
/-- A state that is no farther than the bytes. -/
theorem rstep_def_bad {b : List Nat} {x : Sr × Ls} (h : (rcS b x.1).2 ≠ .ok ∨ (rc b x.1).nm ≠ x.2.1 ∨ (rc b x.1).cl ≠ 1) : rstep b x = (rcS b x.1, x.2) := by unfold rstep; rw [if_pos h]
theorem rstep_def_alias {b : List Nat} {x : Sr × Ls} (h1 : (rcS b x.1).2 = .ok) (h2 : (rc b x.1).nm = x.2.1) (h3 : (rc b x.1).cl = 1) (h4 : (rc b x.1).kd = 5) : rstep b x = (alS b (rc b x.1) (rcS b x.1), (nam b (rc b x.1).da).1, x.2.2.1, min x.2.2.2 (rc b x.1).sc) := by
  unfold rstep; rw [if_neg (by simp [h1, h2, h3]), if_pos h4]
theorem rstep_def_addr {b : List Nat} {x : Sr × Ls} (h1 : (rcS b x.1).2 = .ok) (h2 : (rc b x.1).nm = x.2.1) (h3 : (rc b x.1).cl = 1) (h4 : (rc b x.1).kd = 1) (h5 : (rc b x.1).sz = 4) : rstep b x = (rcS b x.1, x.2.1, more x.2.2.1 (adAt b (rc b x.1).da), min x.2.2.2 (rc b x.1).sc) := by
  unfold rstep; rw [if_neg (by simp [h1, h2, h3]), if_neg (by omega), if_pos ⟨h4, h5⟩]
theorem rstep_def_other {b : List Nat} {x : Sr × Ls} (h1 : (rcS b x.1).2 = .ok) (h2 : (rc b x.1).nm = x.2.1) (h3 : (rc b x.1).cl = 1) (h4 : (rc b x.1).kd ≠ 5) (h5 : ¬ ((rc b x.1).kd = 1 ∧ (rc b x.1).sz = 4)) : rstep b x = (rcS b x.1, x.2) := by
  unfold rstep; rw [if_neg (by simp [h1, h2, h3]), if_neg h4, if_neg h5]
end Go.Proofs.YtabkelhipmijfaaGreatDoor
