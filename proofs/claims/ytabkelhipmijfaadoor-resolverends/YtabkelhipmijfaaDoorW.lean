/-
  A walk along a name of a message: where it stands in memory, and endPiece, lead; conditions as each theorem has them.
-/
import Derived.Test.YtabkelhipmijfaaDoorS
import Derived.Test.YtabkelhipmijfaaDoorJoinedL
set_option linter.unusedSimpArgs false
set_option linter.unusedVariables false
namespace Go.Proofs.YtabkelhipmijfaaDoor
open Go.RowKit

section
variable {w w' : World} {B g A : Nat} {a : Option Addr} {n c : Nat} {b : List Nat} {q p bh : Nat} {t : List Nat} {o : Bool} {e : Er}
theorem Vars.below' {B : Nat} (h : Vars w) (k : Below B w w') (h0 : 0 < B) : Vars w' := by
  obtain ⟨m, hm⟩ := h
  exact ⟨m, (World.cell?_of_block (k.block 0 h0)).trans hm⟩
theorem Vars.kept (h : Vars w) (k : Kept g g w w') (h0 : 0 < g) : Vars w' := by
  obtain ⟨m, hm⟩ := h
  exact ⟨m, (World.cell?_of_block (k.block 0 (lt_of_cell (a := ⟨0, 0, none⟩) hm) (by omega) (by omega))).trans hm⟩
theorem Own.kept {B : Nat} {v : Value} {xs : List Value} {C : List Value} {ty : TypeId} (h : Own w B 5 v xs) (hr : Row w g ty C) (ht : ty ≠ 5) (k : Kept g g w w') : Own w' B 5 v xs :=
  h.keep fun x hx => by
    obtain ⟨_, cur, hh⟩ := h.block hx
    have : x ≠ g := fun e => by subst e; unfold Row at hr; rw [hh] at hr; simp at hr; exact ht hr.2.symm
    exact k.block x (lt_of_some hh) this this
theorem below_of_drew {B : Nat} {w w' : World} (h : Below B w.drew w') : Below B w w' := ⟨h.os, h.tape, h.output, h.size, h.block⟩
end

/-- What is told of a walk that leads to a place. -/
def ldE (q p zz : Nat) (e : Er) : Er := if q ≤ zz then (stp (p - 2) 100 (p, e)).2 else e
end Go.Proofs.YtabkelhipmijfaaDoor
