/-
  Request of package head; conditions as each theorem has them.
-/
import Derived.Test.YtffjhhacegnhmaaDoorHI
import Derived.Test.YtffjhhacegnhmaaDoorHH
set_option linter.unusedSimpArgs false
set_option linter.unusedVariables false
namespace Go.Proofs.YtffjhhacegnhmaaDoor
open Go.RowKit
theorem res_ctt {P : Program} {fn : Func} {p u v : Tmp} {ty : TypeId} (h : fn.results = #[.cell p ty, .tmp u, .tmp v]) (tmps : Array Value) (w : World)
    (g : Nat) (t : TypeId) (cs : Array Value) (fr : Nat × Nat) (d : TypeDesc) (hp : tmps.getD p undef = .pointer (some ⟨g, 0, none⟩)) (hg : w.heap[g]? = some (.cells cs t fr))
    (hu : P.underlying ty = some d) (hd : (match d with | .struct _ | .array _ _ => true | _ => false) = true) (hi : (P.info? ty).map (·.size) = some cs.size) :
    (results fn tmps).run P w = .ok (.tuple #[.agg cs, tmps.getD u undef, tmps.getD v undef]) w := by
  have hp' : tmps[p]?.getD undef = .pointer (some ⟨g, 0, none⟩) := by simpa using hp
  simp only [results, h]
  simp [Sem.run_bind, Result.andThen, hp', asAddr, run_loadVar_row w g t ty cs fr d hg hu hd hi]
theorem rline_nil : rline [] = (noR, .one 0 80) := rline_not (by decide)
theorem nil_fl {l : List Nat} {ls : List (List Nat)} (h : hd l = some ls) : ∃ x rest, fl ls = x ++ 13 :: 10 :: rest ∧ pair x = none ∧ (∀ y ∈ x, y ∈ l) ∧ ((rline x).2 ≠ .ok → req ls = ((noR, []), (rline x).2)) ∧ ((rline x).2 = .ok → ∃ ls', rest = fl ls' ∧ (∀ y ∈ ls', Ln y) ∧ req ls = match flds (x.length + 2) ls' [] with
      | (f, .ok) => (((rline x).1, f), .ok)
      | (_, e) => ((noR, []), e)) := by
  obtain ⟨⟨r, e⟩, hL, _, _⟩ := hd_some h
  cases ls with
  | nil =>
    refine ⟨[], [], rfl, rfl, by simp, fun _ => ?_, fun hk => ?_⟩
    · rw [rline_nil]; rfl
    · rw [rline_nil] at hk; cases hk
  | cons x r' =>
    refine ⟨x, fl r', fl_cons x r', (hL x (by simp)).2, fun y hy => by rw [e, fl_cons]; simp [hy], fun hk => ?_, fun hk => ⟨r', rfl, fun y hy => hL y (by simp [hy]), ?_⟩⟩
    · cases hr : rline x with
      | mk q er =>
        rw [hr] at hk
        cases er with
        | ok => exact absurd rfl hk
        | one a c => simp only [req, hr]
        | wr a e => simp only [req, hr]
    · cases hr : rline x with
      | mk q er =>
        rw [hr] at hk
        simp only at hk
        subst hk
        simp only [req, hr]
        rfl
theorem flds_byte : ∀ (ls : List (List Nat)) (a : Nat) (acc : List Fd), (∀ x ∈ ls, ∀ c ∈ x, c < 256) → okB acc → okB (flds a ls acc).1
  | [], a, acc, _, h => h
  | x :: r, a, acc, hx, h => by
    unfold flds
    split
    · intro f hf; simp at hf
    · split
      · intro f hf; simp at hf
      · refine flds_byte r _ _ (fun y hy => hx y (by simp [hy])) fun f hf => ?_
        simp at hf
        rcases hf with hf | rfl
        · exact h f hf
        · exact fld_byte (hx x (by simp))
end Go.Proofs.YtffjhhacegnhmaaDoor
