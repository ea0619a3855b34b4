/-
  ParseDest of the reference; conditions as each theorem has them.
-/
import Derived.Test.YtffjhhacegnhmaaDoorX
import Derived.Test.YtffjhhacegnhmaaDoorC
set_option linter.unusedSimpArgs false
set_option linter.unusedVariables false
namespace Go.Proofs.YtffjhhacegnhmaaDoor
open Go.RowKit

theorem colon_snoc (c : Nat) : ∀ (l : List Nat) (i : Nat), colon i (l ++ [c]) = if c = 58 then some (i + l.length) else colon i l
  | [], i => by
    simp only [List.nil_append, colon, List.length_nil, Nat.add_zero]
  | b :: r, i => by
    have ih := colon_snoc c r (i + 1)
    simp only [List.cons_append, colon, ih, List.length_cons]
    by_cases h : c = 58
    · simp [h]; omega
    · simp [h]
theorem run_opst53 (ρ : Operand → Value) (dst : Option Tmp) (x y : Operand) (ty : TypeId) (pos : String) (after : Array Edge) (guard : Option (Nat × Bool)) (w : World) (h : canPut 6 46 w (ρ x) (ρ y) = true) :
    (execOp ρ { dst, op := .store 46 x y, type := ty, pos, after, guard }).run Tryd.prog w = .ok .skip (putAt w (ρ x) (ρ y)) := by
  unfold canPut at h
  split at h
  · rename_i g cs e1 e2
    simp only [Bool.and_eq_true, beq_iff_eq] at h
    obtain ⟨⟨h0, h1⟩, h3⟩ := h
    split at h0
    · rename_i old t' hg
      simp only [Bool.and_eq_true, beq_iff_eq] at h0
      have := run_storeVar_row (P := Tryd.prog) w g t' 46 old cs hg (by rw [h1]; exact info41) (by omega) h3
      unfold execOp
      simp only [e1, e2, Instr.storeAt, Instr.sureAddr, Sem.run_bind, Sem.run_pure, Result.andThen_ok, this, putAt]
    · cases h0
  · cases h
attribute [local go_sem] rowOf_drew isRow_drew arrAt_ptr isAt_ptr putAt_ptr canPut_drew setRow_drew

def erN : Er → Nat
  | .ok => 0
  | .one _ _ => 1
  | .two _ _ _ => 2
theorem badC_N (e : Er) : (badC e)[0]? = some (.int .i64 (erN e : Nat)) := by cases e <;> rfl

end Go.Proofs.YtffjhhacegnhmaaDoor
