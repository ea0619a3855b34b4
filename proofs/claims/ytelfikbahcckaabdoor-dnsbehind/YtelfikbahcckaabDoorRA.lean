/-
  The reference's faults, numbers and labels; conditions as each theorem has them.
-/
import Derived.Test.YtelfikbahcckaabDoorPA
import Derived.Test.YtelfikbahcckaabDoorE
set_option linter.unusedSimpArgs false
set_option linter.unusedVariables false
namespace Go.Proofs.YtelfikbahcckaabDoor
open Go.RowKit

set_option maxHeartbeats 1000000 in
theorem dfail_at (a c : Nat) (w : World) : Calls Tryd.prog 12 #[.string ⟨#[100, 110, 115]⟩, .int .i64 a, .int .i64 c] w fun e w' => e = .returned (badF (.one a c)) ∧ Below w.heap.size w w' := by
  go_enter Tryd.func12, Tryd.ntmps12
  go_wp2
  go_returns
  exact ⟨rfl, ((Below.refl _ _).alloc (Nat.le_refl _) _).alloc (by simp) _⟩
theorem infoG (e : Er) : (Tryd.prog.info? 45).map (·.size) = some (badG e).size := by rw [badG_size]; exact info32
theorem lab_ref {p : List Nat} (h1 : 1 ≤ p.length) (h2 : p.length ≤ 63) : labB p = (p.all lb && (!decide (p.getD 0 0 = 45) && !decide (p.getD (p.length - 1) 0 = 45))) := by
  rw [Bool.eq_iff_iff, labB_iff]
  simp only [Bool.and_eq_true, List.all_eq_true, Bool.not_eq_true', decide_eq_false_iff_not]
  constructor
  · rintro ⟨_, _, h⟩
    refine ⟨fun x hx => ?_, ?_, ?_⟩
    · obtain ⟨i, hi, rfl⟩ := List.getElem_of_mem hx
      have := h i hi
      simp only [lbAt, Bool.and_eq_true, List.getD, List.getElem?_eq_getElem hi, Option.getD_some] at this
      exact this.1
    · intro e
      have := h 0 (by omega)
      rw [e] at this
      simp [lbAt] at this
    · intro e
      have := h (p.length - 1) (by omega)
      rw [e] at this
      simp [lbAt] at this
      omega
  · rintro ⟨ha, hb, hc⟩
    refine ⟨h1, h2, fun i hi => ?_⟩
    have hl : lb (p.getD i 0) = true := ha _ (by simp [List.getD, List.getElem?_eq_getElem hi])
    simp only [lbAt, Bool.and_eq_true, Bool.or_eq_true, Bool.not_eq_true', decide_eq_false_iff_not, decide_eq_true_eq]
    refine ⟨hl, ?_⟩
    by_cases e : p.getD i 0 = 45
    · right
      refine ⟨?_, ?_⟩
      · apply Decidable.byContradiction; intro hn
        obtain rfl : i = 0 := by omega
        exact hb e
      · apply Decidable.byContradiction; intro hn; exact hc (by rw [show p.length - 1 = i by omega]; exact e)
    · exact Or.inl e
end Go.Proofs.YtelfikbahcckaabDoor
