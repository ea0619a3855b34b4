/-
  Reply of package head; conditions as each theorem has them.
-/
import Derived.Test.YtffjhhacegnhmaaDoorHI
import Derived.Test.YtffjhhacegnhmaaDoorHK
import Derived.Test.YtffjhhacegnhmaaDoorHJ
set_option linter.unusedSimpArgs false
set_option linter.unusedVariables false
namespace Go.Proofs.YtffjhhacegnhmaaDoor
open Go.RowKit
theorem reply_short {l : List Nat} (h : hd l = none) : reply l = (((0, []), []), 0, (enE l).2) := by
  unfold reply; rw [h]
theorem yline_nil : yline [] = ((0, []), .one 0 80) := yline_not (by decide)
theorem nil_fly {l : List Nat} {ls : List (List Nat)} (h : hd l = some ls) : ∃ x rest, fl ls = x ++ 13 :: 10 :: rest ∧ pair x = none ∧ (∀ y ∈ x, y ∈ l) ∧ ((yline x).2 ≠ .ok → rep ls = (((0, []), []), (yline x).2)) ∧ ((yline x).2 = .ok → ∃ ls', rest = fl ls' ∧ (∀ y ∈ ls', Ln y) ∧ rep ls = match flds (x.length + 2) ls' [] with
      | (f, .ok) => (((yline x).1, f), .ok)
      | (_, e) => (((0, []), []), e)) := by
  obtain ⟨⟨r, e⟩, hL, _, _⟩ := hd_some h
  cases ls with
  | nil =>
    refine ⟨[], [], rfl, rfl, by simp, fun _ => ?_, fun hk => ?_⟩
    · rw [yline_nil]; rfl
    · rw [yline_nil] at hk; cases hk
  | cons x r' =>
    refine ⟨x, fl r', fl_cons x r', (hL x (by simp)).2, fun y hy => by rw [e, fl_cons]; simp [hy], fun hk => ?_, fun hk => ⟨r', rfl, fun y hy => hL y (by simp [hy]), ?_⟩⟩
    · cases hr : yline x with
      | mk q er =>
        rw [hr] at hk
        cases er with
        | ok => exact absurd rfl hk
        | one a c => simp only [rep, hr]
        | wr a e => simp only [rep, hr]
    · cases hr : yline x with
      | mk q er =>
        rw [hr] at hk
        simp only at hk
        subst hk
        simp only [rep, hr]
        rfl
end Go.Proofs.YtffjhhacegnhmaaDoor
