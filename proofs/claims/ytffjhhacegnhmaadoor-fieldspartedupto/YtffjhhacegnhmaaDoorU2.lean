/-
  Parse of the reference; conditions as each theorem has them.
-/
import Derived.Test.YtffjhhacegnhmaaDoorU
import Derived.Deep.DrawnRows
set_option linter.unusedSimpArgs false
set_option linter.unusedVariables false
namespace Go.Proofs.YtffjhhacegnhmaaDoor
open Go.RowKit

/-- The cells of a block. -/
def rowOf (w : World) (g : Nat) : Array Value := match w.heap[g]? with | some (.cells cs _ _) => cs | _ => #[]
def isRow (w : World) (g n : Nat) : Bool := match w.heap[g]? with | some (.cells cs _ _) => cs.size == n | _ => false
def arrAt (w : World) : Value → Array Value
  | .pointer (some ⟨g, 0, none⟩) => rowOf w g
  | _ => #[]
def isAt (n : Nat) (w : World) : Value → Bool
  | .pointer (some ⟨g, 0, none⟩) => isRow w g n
  | _ => false
theorem arrAt_ptr (w : World) (g : Nat) : arrAt w (.pointer (some ⟨g, 0, none⟩)) = rowOf w g := rfl
theorem isAt_ptr (n : Nat) (w : World) (g : Nat) : isAt n w (.pointer (some ⟨g, 0, none⟩)) = isRow w g n := rfl
theorem rowOf_drew (w : World) (g : Nat) : rowOf w.drew g = rowOf w g := rfl
theorem isRow_drew (w : World) (g n : Nat) : isRow w.drew g n = isRow w g n := rfl
theorem rowOf_of {w : World} {g : Nat} {cs : Array Value} {t : TypeId} (h : w.heap[g]? = some (.cells cs t)) : rowOf w g = cs := by simp [rowOf, h]
theorem isRow_of {w : World} {g n : Nat} {cs : Array Value} {t : TypeId} (h : w.heap[g]? = some (.cells cs t)) (hn : cs.size = n) : isRow w g n = true := by simp [isRow, h, hn]
def canPut (n t : Nat) (w : World) : Value → Value → Bool
  | .pointer (some ⟨g, 0, none⟩), .agg cs => (match w.heap[g]? with | some (.cells old t' (0, 0)) => old.size == n && t' == t | _ => false) && cs.size == n && cs.all (·.oneCell')
  | _, _ => false
def putAt (w : World) : Value → Value → World
  | .pointer (some ⟨g, 0, none⟩), .agg cs => w.setRow g cs
  | _, _ => w
theorem putAt_ptr (w : World) (g : Nat) (cs : Array Value) : putAt w (.pointer (some ⟨g, 0, none⟩)) (.agg cs) = w.setRow g cs := rfl
theorem setRow_drew (w : World) (g : Nat) (cs : Array Value) : w.drew.setRow g cs = (w.setRow g cs).drew := rfl
theorem canPut_drew (n t : Nat) (w : World) (v u : Value) : canPut n t w.drew v u = canPut n t w v u := rfl
theorem canPut_row {w : World} {g n : Nat} {t : TypeId} {old cs : Array Value} (h : w.heap[g]? = some (.cells old t)) (ho : old.size = n) (hc : cs.size = n) (h1 : cs.all (·.oneCell') = true) : canPut n t w (.pointer (some ⟨g, 0, none⟩)) (.agg cs) = true := by
  simp only [canPut, h]
  rw [h1, Bool.and_true, Bool.and_eq_true, beq_iff_eq]
  exact ⟨by simp [ho], hc⟩
theorem run_opst40 (ρ : Operand → Value) (dst : Option Tmp) (x y : Operand) (ty : TypeId) (pos : String) (after : Array Edge) (guard : Option (Nat × Bool)) (w : World) (h : canPut 5 44 w (ρ x) (ρ y) = true) :
    (execOp ρ { dst, op := .store 44 x y, type := ty, pos, after, guard }).run Tryd.prog w = .ok .skip (putAt w (ρ x) (ρ y)) := by
  unfold canPut at h
  split at h
  · rename_i g cs e1 e2
    simp only [Bool.and_eq_true, beq_iff_eq] at h
    obtain ⟨⟨h0, h1⟩, h3⟩ := h
    split at h0
    · rename_i old t' hg
      simp only [Bool.and_eq_true, beq_iff_eq] at h0
      have := run_storeVar_row (P := Tryd.prog) w g t' 44 old cs hg (by rw [h1]; exact info39) (by omega) h3
      unfold execOp
      simp only [e1, e2, Instr.storeAt, Instr.sureAddr, Sem.run_bind, Sem.run_pure, Result.andThen_ok, this, putAt]
    · cases h0
  · cases h
attribute [local go_sem] rowOf_drew isRow_drew arrAt_ptr isAt_ptr putAt_ptr canPut_drew setRow_drew

end Go.Proofs.YtffjhhacegnhmaaDoor
