/-
  Print and PrintDest of the reference; conditions as each theorem has them.
-/
import Derived.Test.YtffjhhacegnhmaaDoorPA
set_option linter.unusedSimpArgs false
set_option linter.unusedVariables false
namespace Go.Proofs.YtffjhhacegnhmaaDoor
open Go.RowKit

structure Bx4 (w : World) (B : Nat) (a : Ad) : Prop where
  x0 : w.cell? ⟨B, 0, none⟩ = some (.int .u8 (a.1 : Nat))
  x1 : w.cell? ⟨B, 1, none⟩ = some (.int .u8 (a.2.1 : Nat))
  x2 : w.cell? ⟨B, 2, none⟩ = some (.int .u8 (a.2.2.1 : Nat))
  x3 : w.cell? ⟨B, 3, none⟩ = some (.int .u8 (a.2.2.2 : Nat))
theorem Bx4.below {w w' : World} {B : Nat} {a : Ad} (h : Bx4 w B a) (k : Below w.heap.size w w') : Bx4 w' B a :=
  ⟨(k.cell (lt_of_cell h.x0)).trans h.x0, (k.cell (lt_of_cell h.x1)).trans h.x1, (k.cell (lt_of_cell h.x2)).trans h.x2, (k.cell (lt_of_cell h.x3)).trans h.x3⟩
end Go.Proofs.YtffjhhacegnhmaaDoor
