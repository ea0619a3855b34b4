/-
  The reader of messages: questions; conditions as each theorem has them.
-/
import Derived.Test.YtabkelhipmijfaaDoorMC
set_option linter.unusedSimpArgs false
set_option linter.unusedVariables false
namespace Go.Proofs.YtabkelhipmijfaaDoor
open Go.RowKit
theorem info40 : (Tryd.prog.info? 40).map (·.size) = some 2 := by kernel_rfl
theorem Rdr.row2 {w : World} {g : Nat} {ty : TypeId} {R : List Value} {a : Option Addr} {n c : Nat} {b : List Nat} {s : Sr} (h : Rdr w g ty R a n c b s) {hb : Nat} {tz : TypeId} {C : List Value} (hr : Row w hb tz C) (hne : tz ≠ 109) (hg : hb ≠ g) (hx : ∀ x o, a = some ⟨x, o, none⟩ → 0 < n → x ≠ hb) (x0 x1 : Value) :
    Rdr ((w.setCell ⟨hb, 0, none⟩ x0).setCell ⟨hb, 1, none⟩ x1) g ty R a n c b s :=
  (h.other hr hne hg hx 0 x0).other (hr.set 0 x0) hne hg hx 1 x1
theorem Vars.setc2 {w : World} (h : Vars w) {x : Nat} (hx : 0 < x) (u v : Value) : Vars ((w.setCell ⟨x, 0, none⟩ u).setCell ⟨x, 1, none⟩ v) := by
  have k : Kept x x w ((w.setCell ⟨x, 0, none⟩ u).setCell ⟨x, 1, none⟩ v) := ((Kept.refl _ _ _).set 0 _).set 1 _
  exact h.kept k hx
end Go.Proofs.YtabkelhipmijfaaDoor
