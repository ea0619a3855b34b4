/-
  Addresses appended as a whole; conditions as each theorem has them.
-/
import Derived.Test.YtelfikbahcckaaaDoorSA
import Derived.Test.YtelfikbahcckaaaDoorPG
import Derived.Test.YtelfikbahcckaaaDoorWK
set_option linter.unusedSimpArgs false
set_option linter.unusedVariables false
namespace Go.Proofs.YtelfikbahcckaaaDoor
open Go.RowKit
theorem own_new75 (w : World) : OwnA (w.alloc (.cells #[] 75)) w.heap.size (.slice (some ⟨w.heap.size, 0, none⟩) 0 0) [] :=
  ⟨rfl, Or.inr ⟨w.heap.size, 0, #[], rfl, Nat.le_refl _, alloc_new _ _, by simp, Nat.zero_le _, by simp, by simp [adCs]⟩⟩
/-- 'append(v, x...)', v the call's own addresses. -/
theorem run_appS {w : World} {B : Nat} {v : Value} {l : List Ad} (hown : OwnA w B v l) {a : Option Addr} {m c : Nat} {gs : List Ad} (hs : SrcA w a m c gs) (hlen : (l.length + m) * 4 ≤ 140737488355328) (hB : B ≤ w.heap.size) :
    ∃ v' w', (Builtin.append_ #[41, 41] 41 #[v, .slice a m c]).run Tryd.prog w = .ok v' w' ∧ OwnA w' B v' (l ++ gs) ∧ Below B w w' := by
  obtain ⟨i, hi, hz, hsz, hby⟩ := info75p
  cases a with
  | none =>
    have hc := hs.nil rfl
    have := hs.hcap
    obtain rfl : m = 0 := by omega
    obtain rfl : c = 0 := hc
    obtain rfl : gs = [] := List.eq_nil_of_length_eq_zero hs.hlen
    exact ⟨v, w, run_append_owned_none (P := Tryd.prog) w B 41 41 75 i 4 und41 hi v _ (adCs l) hown, by simpa using hown, Below.refl _ _⟩
  | some x =>
    obtain ⟨v', w', hr, ho, hg, _⟩ := run_append_own (P := Tryd.prog) w B 41 41 75 i _ 4 4 und41 hi hz hsz hby rfl (by omega) v l.length (adCs l) hown x m c (adCs gs) (by rw [adCs_len, hs.hlen])
      (fun j u hu => by
        have hj := (List.getElem?_eq_some_iff.1 hu).1
        rw [adCs_len, hs.hlen] at hj
        obtain ⟨b, o, e, _, hcell⟩ := hs.lies (by omega)
        simp at e
        subst e
        rw [add_none]
        exact hcell j u hu) (adCs_one _) (by unfold maxLen; omega) hlen hB
    refine ⟨v', w', hr, ?_, (Below.refl B w).grown hg hB (fun k hk => (hown.block hk).1)⟩
    unfold OwnA
    rw [adCs_append, List.length_append, hs.hlen]
    exact ho
end Go.Proofs.YtelfikbahcckaaaDoor
