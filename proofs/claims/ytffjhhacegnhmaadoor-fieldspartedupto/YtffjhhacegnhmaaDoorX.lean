/-
  Rows that are loaded where a guard is met; conditions as each theorem has them.
-/
import Derived.Test.YtffjhhacegnhmaaDoorU2
set_option linter.unusedSimpArgs false
set_option linter.unusedVariables false
namespace Go.Proofs.YtffjhhacegnhmaaDoor
open Go.RowKit

theorem wpList_load_rowG {P : Program} {ops : Array Oper} {rest : List Oper} {o : Oper} {a : Act} {w : World} {Q : Exit → Act → World → Prop} (hgd : Region.wanted o (yielded ops a.tmps) = true) (ty : TypeId) (x : Operand) (ho : o.op = .load ty x)
    (g : Nat) (hx : a.eval x = .pointer (some ⟨g, 0, none⟩)) (t : TypeId) (cs : Array Value) (fr : Nat × Nat) (d : TypeDesc) (hg : w.heap[g]? = some (.cells cs t fr))
    (hu : P.underlying ty = some d) (hd : (match d with | .struct _ | .array _ _ => true | _ => false) = true) (hi : (P.info? ty).map (·.size) = some cs.size)
    (h : wpList P ops Q rest (a.put o.dst (.agg cs)) w) : wpList P ops Q (o :: rest) a w :=
  BigFrame.wpList_want hgd fun _ hK => wp_load_row ty x ho g hx t cs fr d hg hu hd hi (hK _ _ h)
theorem keepB {w w' : World} {b : Nat} {o : Obj} (k : Below w.heap.size w w') (h : w.heap[b]? = some o) : w'.heap[b]? = some o := (k.block b (lt_of_some h)).trans h
theorem lab_of (p : List Nat) (h : 1 ≤ p.length ∧ p.length ≤ 63 ∧ ∀ i, i < p.length → lbAt (p.getD i 0) i p.length = true) : labB p = true := (labB_iff p).2 h
end Go.Proofs.YtffjhhacegnhmaaDoor
