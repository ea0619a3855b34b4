/-
  Operations as single steps: an append, a load and a store of whole rows, wherever a region draws its order; conditions as each theorem has them.
-/
import Derived.Test.YtjojhnkibgkleaaD
import Derived.Deep.DrawnRows
set_option linter.unusedSimpArgs false
set_option linter.unusedVariables false
set_option maxRecDepth 8000
namespace Go.Proofs.Ytjojhnkibgkleaa
open Go.RowKit Go.Lib

/-- 'append' as one step. -/
def apOk (P : Program) (t : TypeId) (v u : Value) (w : World) : Bool := match (Builtin.append_ #[t, t] t #[v, u]).run P w with
  | .ok _ _ => true
  | _ => false
def apV (P : Program) (t : TypeId) (v u : Value) (w : World) : Value := match (Builtin.append_ #[t, t] t #[v, u]).run P w with
  | .ok x _ => x
  | _ => undef
def apW (P : Program) (t : TypeId) (v u : Value) (w : World) : World := match (Builtin.append_ #[t, t] t #[v, u]).run P w with
  | .ok _ y => y
  | _ => w
theorem ap_run {t : TypeId} {v u : Value} {w : World} (h : apOk Try.prog t v u w = true) : (Builtin.append_ #[t, t] t #[v, u]).run Try.prog w = .ok (apV Try.prog t v u w) (apW Try.prog t v u w) := by
  unfold apOk at h
  unfold apV apW
  cases e : (Builtin.append_ #[t, t] t #[v, u]).run Try.prog w with
  | ok x y => rfl
  | _ => simp [e] at h
theorem ap_of {t : TypeId} {v u v' : Value} {w w' : World} (h : (Builtin.append_ #[t, t] t #[v, u]).run Try.prog w = .ok v' w') : apOk Try.prog t v u w = true ∧ apV Try.prog t v u w = v' ∧ apW Try.prog t v u w = w' := by
  unfold apOk apV apW
  rw [h]
  exact ⟨rfl, rfl, rfl⟩
theorem ap_step (t : TypeId) (ρ : Operand → Value) (dst : Option Tmp) (x y : Operand) (pos : String) (after : Array Edge) (guard : Option (Nat × Bool)) (w : World) (h : apOk Try.prog t (ρ x) (ρ y) w = true) :
    (execOp ρ { dst, op := .call { callee := .builtin .append, args := #[x, y], argTypes := #[t, t] }, type := t, pos, after, guard }).run Try.prog w = .ok (.value (apV Try.prog t (ρ x) (ρ y) w)) (apW Try.prog t (ρ x) (ρ y) w) := by
  unfold execOp
  simp only [resolve, invoke, builtin, Sem.run_bind, Sem.run_pure, Result.andThen_ok, List.map_toArray, List.map_cons, List.map_nil, ap_run h]
theorem run_apO (ρ : Operand → Value) (dst : Option Tmp) (x y : Operand) (pos : String) (after : Array Edge) (guard : Option (Nat × Bool)) (w : World) (h : apOk Try.prog 52 (ρ x) (ρ y) w = true) :
    (execOp ρ { dst, op := .call { callee := .builtin .append, args := #[x, y], argTypes := #[52, 52] }, type := 52, pos, after, guard }).run Try.prog w = .ok (.value (apV Try.prog 52 (ρ x) (ρ y) w)) (apW Try.prog 52 (ρ x) (ρ y) w) := ap_step 52 ρ dst x y pos after guard w h
theorem run_apG (ρ : Operand → Value) (dst : Option Tmp) (x y : Operand) (pos : String) (after : Array Edge) (guard : Option (Nat × Bool)) (w : World) (h : apOk Try.prog 61 (ρ x) (ρ y) w = true) :
    (execOp ρ { dst, op := .call { callee := .builtin .append, args := #[x, y], argTypes := #[61, 61] }, type := 61, pos, after, guard }).run Try.prog w = .ok (.value (apV Try.prog 61 (ρ x) (ρ y) w)) (apW Try.prog 61 (ρ x) (ρ y) w) := ap_step 61 ρ dst x y pos after guard w h
theorem run_apX (ρ : Operand → Value) (dst : Option Tmp) (x y : Operand) (pos : String) (after : Array Edge) (guard : Option (Nat × Bool)) (w : World) (h : apOk Try.prog 51 (ρ x) (ρ y) w = true) :
    (execOp ρ { dst, op := .call { callee := .builtin .append, args := #[x, y], argTypes := #[51, 51] }, type := 51, pos, after, guard }).run Try.prog w = .ok (.value (apV Try.prog 51 (ρ x) (ρ y) w)) (apW Try.prog 51 (ρ x) (ρ y) w) := ap_step 51 ρ dst x y pos after guard w h
theorem run_apE (ρ : Operand → Value) (dst : Option Tmp) (x y : Operand) (pos : String) (after : Array Edge) (guard : Option (Nat × Bool)) (w : World) (h : apOk Try.prog 50 (ρ x) (ρ y) w = true) :
    (execOp ρ { dst, op := .call { callee := .builtin .append, args := #[x, y], argTypes := #[50, 50] }, type := 50, pos, after, guard }).run Try.prog w = .ok (.value (apV Try.prog 50 (ρ x) (ρ y) w)) (apW Try.prog 50 (ρ x) (ρ y) w) := ap_step 50 ρ dst x y pos after guard w h
/-- A load as one step. -/
def ldOk (P : Program) (t : TypeId) (v : Value) (w : World) : Bool := match (Instr.loadAt t v).run P w with
  | .ok _ _ => true
  | _ => false
def ldV (P : Program) (t : TypeId) (v : Value) (w : World) : Value := match (Instr.loadAt t v).run P w with
  | .ok x _ => x
  | _ => undef
def ldW (P : Program) (t : TypeId) (v : Value) (w : World) : World := match (Instr.loadAt t v).run P w with
  | .ok _ y => y
  | _ => w
theorem ld_of {t : TypeId} {v v' : Value} {w w' : World} (h : (Instr.loadAt t v).run Try.prog w = .ok v' w') : ldOk Try.prog t v w = true ∧ ldV Try.prog t v w = v' ∧ ldW Try.prog t v w = w' := by
  unfold ldOk ldV ldW
  rw [h]
  exact ⟨rfl, rfl, rfl⟩
theorem ld_step (t : TypeId) (ρ : Operand → Value) (dst : Option Tmp) (x : Operand) (ty : TypeId) (pos : String) (after : Array Edge) (guard : Option (Nat × Bool)) (w : World) (h : ldOk Try.prog t (ρ x) w = true) :
    (execOp ρ { dst, op := .load t x, type := ty, pos, after, guard }).run Try.prog w = .ok (.value (ldV Try.prog t (ρ x) w)) (ldW Try.prog t (ρ x) w) := by
  have e : (Instr.loadAt t (ρ x)).run Try.prog w = .ok (ldV Try.prog t (ρ x) w) (ldW Try.prog t (ρ x) w) := by
    unfold ldOk at h
    unfold ldV ldW
    cases e : (Instr.loadAt t (ρ x)).run Try.prog w with
    | ok x y => rfl
    | _ => simp [e] at h
  unfold execOp
  simp only [Sem.run_bind, Sem.run_pure, e, Result.andThen_ok]
theorem run_ldO (ρ : Operand → Value) (dst : Option Tmp) (x : Operand) (ty : TypeId) (pos : String) (after : Array Edge) (guard : Option (Nat × Bool)) (w : World) (h : ldOk Try.prog 68 (ρ x) w = true) :
    (execOp ρ { dst, op := .load 68 x, type := ty, pos, after, guard }).run Try.prog w = .ok (.value (ldV Try.prog 68 (ρ x) w)) (ldW Try.prog 68 (ρ x) w) := ld_step 68 ρ dst x ty pos after guard w h
theorem infOut : (Try.prog.info? 68).map (·.size) = some 10 := by kernel_rfl
/-- The ten cells of an output at a place, loaded. -/
theorem ld_out {w : World} {b o : Nat} {x : Ot} (h : w.rangeAt b o (otC x)) : ldOk Try.prog 68 (.pointer (some ⟨b, o, none⟩)) w = true ∧ ldV Try.prog 68 (.pointer (some ⟨b, o, none⟩)) w = .agg (otC x).toArray ∧ ldW Try.prog 68 (.pointer (some ⟨b, o, none⟩)) w = w :=
  ld_of (run_loadAt_mid w b o 68 (otC x) _ h Try.underlying68 rfl infOut)

end Go.Proofs.Ytjojhnkibgkleaa
