/-
  Messages of DNS in numbers: bytes of names, and one record more; no program.
-/
import Derived.Test.YtelfikbahcckaaaDoorN2
set_option linter.unusedSimpArgs false
set_option linter.unusedVariables false
namespace Go.Proofs.YtelfikbahcckaaaDoor
theorem low_byte {l : List Nat} (h : ∀ x ∈ l, x < 256) : ∀ x ∈ low l, x < 256 := by
  intro x hx
  simp only [low, List.mem_map] at hx
  obtain ⟨c, hc, rfl⟩ := hx
  exact lo_lt (h c hc)
theorem name_byte {l : List Nat} (h : ∀ x ∈ l, x < 256) : ∀ x ∈ (name l).1, x < 256 := by
  by_cases ho : (name l).2 = .ok
  · rw [(name_some ho).1]; exact low_byte h
  · rw [name_bad ho]; simp
theorem tx_byte {t l : List Nat} (ht : ∀ x ∈ t, x < 256) (hl : ∀ x ∈ l, x < 256) : ∀ x ∈ tx t l, x < 256 := by
  unfold tx
  split
  · exact hl
  · intro x hx
    rcases List.mem_append.1 hx with h | h
    · exact ht x h
    · rcases List.mem_cons.1 h with rfl | h
      · omega
      · exact hl x h
theorem nm_byte (b : List Nat) (hb : ∀ x ∈ b, x < 256) (a q p : Nat) (t : List Nat) (bh : Nat) : (∀ x ∈ t, x < 256) → ∀ x ∈ (nm b a q p t bh).1, x < 256 := by
  refine nm_ways (M := fun b' a q p t bh => b' = b → (∀ x ∈ t, x < 256) → ∀ x ∈ (nm b' a q p t bh).1, x < 256) b a ?_ ?_ ?_ ?_ ?_ ?_ ?_ ?_ ?_ ?_ q p t bh rfl
  · intro q p t bh h _ _; rw [nm_out h]; simp
  · intro q p t bh h h1 h2 _ _; rw [nm_led1 h h1 h2]; simp
  · intro q p t bh h1 h2 h3 _ _; rw [nm_led2 h1 h2 h3]; simp
  · intro q p t bh h1 h2 h3 ih e ht; rw [nm_led h1 h2 h3]; exact ih e ht
  · intro q p t bh h h1 h2 _ _; rw [nm_mid h h1 h2]; simp
  · intro q p t bh h h1 _ ht; rw [nm_end h h1]; split
    · exact name_byte ht
    · simp
  · intro q p t bh h h1 h2 h3 _ _; rw [nm_lab1 h h1 h2 h3]; simp
  · intro q p t bh h1 h2 h3 h4 _ _; rw [nm_lab2 h1 h2 h3 h4]; simp
  · intro q p t bh h1 h2 h3 h4 h5 _ _; rw [nm_lab3 h1 h2 h3 h4 h5]; simp
  · intro q p t bh h1 h2 h3 h4 h5 ih e ht
    rw [nm_lab h1 h2 h3 h4 h5]
    exact ih e (tx_byte ht (fun x hx => hb x (List.mem_of_mem_drop (List.mem_of_mem_take hx))))
theorem nam_byte {b : List Nat} (hb : ∀ x ∈ b, x < 256) (a : Nat) : ∀ x ∈ (nam b a).1, x < 256 := nm_byte b hb a a a [] 0 (by simp)
theorem mn_byte {b : List Nat} (hb : ∀ x ∈ b, x < 256) (s : Sr) : ∀ x ∈ (mn b s).1, x < 256 := by
  unfold mn
  split
  · exact nam_byte hb _
  · simp
/-- A state that is no farther than the bytes. -/
theorem rstep_def_bad {b : List Nat} {x : Sr × Ls} (h : (rcS b x.1).2 ≠ .ok ∨ (rc b x.1).nm ≠ x.2.1 ∨ (rc b x.1).cl ≠ 1) : rstep b x = (rcS b x.1, x.2) := by unfold rstep; rw [if_pos h]
theorem rstep_def_alias {b : List Nat} {x : Sr × Ls} (h1 : (rcS b x.1).2 = .ok) (h2 : (rc b x.1).nm = x.2.1) (h3 : (rc b x.1).cl = 1) (h4 : (rc b x.1).kd = 5) : rstep b x = (alS b (rc b x.1) (rcS b x.1), (nam b (rc b x.1).da).1, x.2.2.1, min x.2.2.2 (rc b x.1).sc) := by
  unfold rstep; rw [if_neg (by simp [h1, h2, h3]), if_pos h4]
theorem rstep_def_addr {b : List Nat} {x : Sr × Ls} (h1 : (rcS b x.1).2 = .ok) (h2 : (rc b x.1).nm = x.2.1) (h3 : (rc b x.1).cl = 1) (h4 : (rc b x.1).kd = 1) (h5 : (rc b x.1).sz = 4) : rstep b x = (rcS b x.1, x.2.1, more x.2.2.1 (adAt b (rc b x.1).da), min x.2.2.2 (rc b x.1).sc) := by
  unfold rstep; rw [if_neg (by simp [h1, h2, h3]), if_neg (by omega), if_pos ⟨h4, h5⟩]
theorem rstep_def_other {b : List Nat} {x : Sr × Ls} (h1 : (rcS b x.1).2 = .ok) (h2 : (rc b x.1).nm = x.2.1) (h3 : (rc b x.1).cl = 1) (h4 : (rc b x.1).kd ≠ 5) (h5 : ¬ ((rc b x.1).kd = 1 ∧ (rc b x.1).sz = 4)) : rstep b x = (rcS b x.1, x.2) := by
  unfold rstep; rw [if_neg (by simp [h1, h2, h3]), if_neg h4, if_neg h5]
end Go.Proofs.YtelfikbahcckaaaDoor
