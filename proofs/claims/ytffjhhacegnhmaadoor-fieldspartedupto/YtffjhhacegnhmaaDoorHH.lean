/-
  readRequestLine of package head; conditions as each theorem has them.
-/
import Derived.Test.YtffjhhacegnhmaaDoorHG
set_option linter.unusedSimpArgs false
set_option linter.unusedVariables false
namespace Go.Proofs.YtffjhhacegnhmaaDoor
open Go.RowKit

/-- A request as cells. -/
def rqC (q : Rq) (sl : Value) : Array Value := (Value.string (strN q.1) :: (nums .u8 q.2.1.1.1 ++ [Value.string (strN q.2.1.1.2), Value.int .i64 (q.2.1.2 : Nat), Value.string (strN q.2.2), sl])).toArray
def z9 : Array Value := #[.string ⟨#[]⟩, .int .u8 0, .int .u8 0, .int .u8 0, .int .u8 0, .string ⟨#[]⟩, .int .i64 0, .string ⟨#[]⟩, .slice none 0 0]
theorem z9_eq : rqC noR (.slice none 0 0) = z9 := rfl
theorem z9_one : z9.all (·.oneCell') = true := by simp [z9, Value.oneCell']
theorem info44 : (Tryd.prog.info? 48).map (·.size) = some 9 := by kernel_rfl
theorem run_opst44 (ρ : Operand → Value) (dst : Option Tmp) (x y : Operand) (ty : TypeId) (pos : String) (after : Array Edge) (guard : Option (Nat × Bool)) (w : World) (h : canPut 9 48 w (ρ x) (ρ y) = true) :
    (execOp ρ { dst, op := .store 48 x y, type := ty, pos, after, guard }).run Tryd.prog w = .ok .skip (putAt w (ρ x) (ρ y)) := by
  unfold canPut at h
  split at h
  · rename_i g cs e1 e2
    simp only [Bool.and_eq_true, beq_iff_eq] at h
    obtain ⟨⟨h0, h1⟩, h3⟩ := h
    split at h0
    · rename_i old t' hg
      simp only [Bool.and_eq_true, beq_iff_eq] at h0
      have := run_storeVar_row (P := Tryd.prog) w g t' 48 old cs hg (by rw [h1]; exact info44) (by omega) h3
      unfold execOp
      simp only [e1, e2, Instr.storeAt, Instr.sureAddr, Sem.run_bind, Sem.run_pure, Result.andThen_ok, this, putAt]
    · cases h0
  · cases h
attribute [local go_sem ↓] run_opst44 Go.wp_at_zero Go.wp_at_succ
attribute [local go_sem] putAt_ptr canPut_drew setRow_drew
theorem bl_mem : ∀ (l : List Nat) (p : List Nat), p ∈ bl l → (∀ x ∈ p, x ∈ l) ∧ p.length ≤ l.length
  | [], p, h => by simp [bl] at h; subst h; simp
  | c :: r, p, h => by
    have ih := bl_mem r
    have hne := bl_ne r
    unfold bl at h
    split at h
    · simp at h
      rcases h with rfl | h
      · simp
      · have := ih p h
        exact ⟨fun x hx => by simp [this.1 x hx], by simp; omega⟩
    · cases hb : bl r with
      | nil => exact absurd hb hne
      | cons q qs =>
        rw [hb] at h ih
        simp at h
        rcases h with rfl | h
        · have := ih q (by simp)
          refine ⟨fun x hx => ?_, by simp; omega⟩
          simp at hx
          rcases hx with rfl | hx
          · simp
          · simp [this.1 x hx]
        · have := ih p (by simp [h])
          exact ⟨fun x hx => by simp [this.1 x hx], by simp; omega⟩
theorem rline_not {x : List Nat} (h : (bl x).length ≠ 3) : rline x = (noR, .one 0 80) := by
  unfold rline
  split
  · rename_i hb; rw [hb] at h; simp at h
  · rfl
theorem rline_three {x m t v : List Nat} (h : bl x = [m, t, v]) : rline x = if ver v = false ∨ lone x = true then (noR, .one 0 80) else if tok m = false then (noR, .one 0 81) else targ m t := by
  unfold rline; rw [h]

end Go.Proofs.YtffjhhacegnhmaaDoor
