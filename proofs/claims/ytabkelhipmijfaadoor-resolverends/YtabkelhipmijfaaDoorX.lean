/-
  A walk along a name: a label; conditions as each theorem has them.
-/
import Derived.Test.YtabkelhipmijfaaDoorW
import Derived.Test.YtabkelhipmijfaaDoorJoinedL
set_option linter.unusedSimpArgs false
set_option linter.unusedVariables false
namespace Go.Proofs.YtabkelhipmijfaaDoor
open Go.RowKit

/-- What a label makes of a walk. -/
def lbB (b : List Nat) (p size : Nat) : List Nat := if (tk b size (p, .ok)).2 = .ok then pc b p size else []
def lbE2 (b : List Nat) (at_ p size : Nat) : Er := if labB (lbB b p size) = true then (tk b size (p, .ok)).2 else (stp at_ 61 (tk b size (p, .ok))).2
def lbE (b : List Nat) (A at_ p size : Nat) (t : List Nat) : Er := if 253 < (tx t (lbB b p size)).length then (stp A 63 ((tk b size (p, .ok)).1, lbE2 b at_ p size)).2 else lbE2 b at_ p size
theorem lbB_len (b : List Nat) (p size : Nat) : (lbB b p size).length ≤ size := by unfold lbB; split; unfold pc; rw [List.length_take]; omega; simp
theorem lbB_lt {b : List Nat} (h : ∀ x ∈ b, x < 256) (p size : Nat) : ∀ x ∈ lbB b p size, x < 256 := by
  unfold lbB
  split
  · intro x hx; exact h x (List.mem_of_mem_drop (List.mem_of_mem_take hx))
  · simp
section
variable {w w' : World} {B g A : Nat} {a : Option Addr} {n c : Nat} {b : List Nat} {q p bh : Nat} {t : List Nat} {o : Bool} {e : Er}
theorem Src.belowB {B : Nat} {x : Option Addr} {l y : Nat} {bs : List Nat} (h : Src w x l y bs) (k : Below B w w') (ho : ∀ g', B ≤ g' → Off x l g') : Src w' x l y bs :=
  h.keep (fun h0 bl of e => k.block bl (by
    apply Decidable.byContradiction
    intro hn
    exact ho bl (by omega) h0 bl of e rfl)) k.size
end
theorem tx_ne {t l : List Nat} (h : t ≠ []) : tx t l = t ++ [46] ++ l := by unfold tx; rw [if_neg h]; simp
end Go.Proofs.YtabkelhipmijfaaDoor
