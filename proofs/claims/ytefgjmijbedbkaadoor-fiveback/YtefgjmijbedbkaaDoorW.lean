/-
  Rows of cells loaded and stored as wholes; no program's function.
-/
import Derived.Test.YtefgjmijbedbkaaDoorC
set_option linter.unusedSimpArgs false
set_option linter.unusedVariables false
namespace Go.Proofs.YtefgjmijbedbkaaDoor
open Go.RowKit

def rowOf (w : World) (g : Nat) : Array Value := match w.heap[g]? with | some (.cells cs _ _) => cs | _ => #[]
def isRow (w : World) (g n : Nat) : Bool := match w.heap[g]? with | some (.cells cs _ _) => cs.size == n | _ => false
def arrAt (w : World) : Value → Array Value
  | .pointer (some ⟨g, 0, none⟩) => rowOf w g
  | _ => #[]
def isAt (n : Nat) (w : World) : Value → Bool
  | .pointer (some ⟨g, 0, none⟩) => isRow w g n
  | _ => false
theorem arrAt_ptr (w : World) (g : Nat) : arrAt w (.pointer (some ⟨g, 0, none⟩)) = rowOf w g := rfl
theorem isAt_ptr (n : Nat) (w : World) (g : Nat) : isAt n w (.pointer (some ⟨g, 0, none⟩)) = isRow w g n := rfl
theorem rowOf_drew (w : World) (g : Nat) : rowOf w.drew g = rowOf w g := rfl
theorem isRow_drew (w : World) (g n : Nat) : isRow w.drew g n = isRow w g n := rfl
theorem rowOf_of {w : World} {g : Nat} {cs : Array Value} {t : TypeId} (h : w.heap[g]? = some (.cells cs t)) : rowOf w g = cs := by simp [rowOf, h]
theorem isRow_of {w : World} {g n : Nat} {cs : Array Value} {t : TypeId} (h : w.heap[g]? = some (.cells cs t)) (hn : cs.size = n) : isRow w g n = true := by simp [isRow, h, hn]
def canPut (n t : Nat) (w : World) : Value → Value → Bool
  | .pointer (some ⟨g, 0, none⟩), .agg cs => (match w.heap[g]? with | some (.cells old t' (0, 0)) => old.size == n && t' == t | _ => false) && cs.size == n && cs.all (·.oneCell')
  | _, _ => false
def putAt (w : World) : Value → Value → World
  | .pointer (some ⟨g, 0, none⟩), .agg cs => w.setRow g cs
  | _, _ => w
theorem putAt_ptr (w : World) (g : Nat) (cs : Array Value) : putAt w (.pointer (some ⟨g, 0, none⟩)) (.agg cs) = w.setRow g cs := rfl
theorem setRow_drew (w : World) (g : Nat) (cs : Array Value) : w.drew.setRow g cs = (w.setRow g cs).drew := rfl
theorem canPut_drew (n t : Nat) (w : World) (v u : Value) : canPut n t w.drew v u = canPut n t w v u := rfl
theorem canPut_row {w : World} {g n : Nat} {t : TypeId} {old cs : Array Value} (h : w.heap[g]? = some (.cells old t)) (ho : old.size = n) (hc : cs.size = n) (h1 : cs.all (·.oneCell') = true) : canPut n t w (.pointer (some ⟨g, 0, none⟩)) (.agg cs) = true := by
  simp only [canPut, h]
  rw [h1, Bool.and_true, Bool.and_eq_true, beq_iff_eq]
  exact ⟨by simp [ho], hc⟩
theorem run_opS (T n : Nat) (hi : (Tryd.prog.info? T).map (·.size) = some n) (ρ : Operand → Value) (dst : Option Tmp) (x y : Operand) (ty : TypeId) (pos : String) (after : Array Edge) (guard : Option (Nat × Bool)) (w : World) (h : canPut n T w (ρ x) (ρ y) = true) :
    (execOp ρ { dst, op := .store T x y, type := ty, pos, after, guard }).run Tryd.prog w = .ok .skip (putAt w (ρ x) (ρ y)) := by
  unfold canPut at h
  split at h
  · rename_i g cs e1 e2
    simp only [Bool.and_eq_true, beq_iff_eq] at h
    obtain ⟨⟨h0, h1⟩, h3⟩ := h
    split at h0
    · rename_i old t' hg
      simp only [Bool.and_eq_true, beq_iff_eq] at h0
      have := run_storeVar_row (P := Tryd.prog) w g t' T old cs hg (by rw [h1]; exact hi) (by omega) h3
      unfold execOp
      simp only [e1, e2, Instr.storeAt, Instr.sureAddr, Sem.run_bind, Sem.run_pure, Result.andThen_ok, this, putAt]
    · cases h0
  · cases h
theorem run_op45 (ρ : Operand → Value) (dst : Option Tmp) (x : Operand) (ty : TypeId) (pos : String) (after : Array Edge) (guard : Option (Nat × Bool)) (w : World) (h : isAt 5 w (ρ x) = true) :
    (execOp ρ { dst, op := .load 45 x, type := ty, pos, after, guard }).run Tryd.prog w = .ok (.value (.agg (arrAt w (ρ x)))) w := by
  unfold isAt at h
  split at h
  · rename_i g e
    unfold isRow at h
    split at h
    · rename_i cs t fr eq
      have hs : cs.size = 5 := by simpa using h
      have hr : rowOf w g = cs := by simp [rowOf, eq]
      unfold execOp
      simp only [e, Instr.loadAt, Instr.sureAddr, Sem.run_bind, Sem.run_pure, Result.andThen_ok, run_loadVar_row w g t 45 cs fr _ eq Tryd.underlying45 rfl (by rw [hs]; exact info45), arrAt, hr]
    · cases h
  · cases h
theorem run_op47 (ρ : Operand → Value) (dst : Option Tmp) (x : Operand) (ty : TypeId) (pos : String) (after : Array Edge) (guard : Option (Nat × Bool)) (w : World) (h : isAt 6 w (ρ x) = true) :
    (execOp ρ { dst, op := .load 47 x, type := ty, pos, after, guard }).run Tryd.prog w = .ok (.value (.agg (arrAt w (ρ x)))) w := by
  unfold isAt at h
  split at h
  · rename_i g e
    unfold isRow at h
    split at h
    · rename_i cs t fr eq
      have hs : cs.size = 6 := by simpa using h
      have hr : rowOf w g = cs := by simp [rowOf, eq]
      unfold execOp
      simp only [e, Instr.loadAt, Instr.sureAddr, Sem.run_bind, Sem.run_pure, Result.andThen_ok, run_loadVar_row w g t 47 cs fr _ eq Tryd.underlying47 rfl (by rw [hs]; exact info47), arrAt, hr]
    · cases h
  · cases h
theorem run_op33 (ρ : Operand → Value) (dst : Option Tmp) (x : Operand) (ty : TypeId) (pos : String) (after : Array Edge) (guard : Option (Nat × Bool)) (w : World) (h : isAt 10 w (ρ x) = true) :
    (execOp ρ { dst, op := .load 33 x, type := ty, pos, after, guard }).run Tryd.prog w = .ok (.value (.agg (arrAt w (ρ x)))) w := by
  unfold isAt at h
  split at h
  · rename_i g e
    unfold isRow at h
    split at h
    · rename_i cs t fr eq
      have hs : cs.size = 10 := by simpa using h
      have hr : rowOf w g = cs := by simp [rowOf, eq]
      unfold execOp
      simp only [e, Instr.loadAt, Instr.sureAddr, Sem.run_bind, Sem.run_pure, Result.andThen_ok, run_loadVar_row w g t 33 cs fr _ eq Tryd.underlying33 rfl (by rw [hs]; exact info33), arrAt, hr]
    · cases h
  · cases h
theorem run_opst33 (ρ : Operand → Value) (dst : Option Tmp) (x y : Operand) (ty : TypeId) (pos : String) (after : Array Edge) (guard : Option (Nat × Bool)) (w : World) (h : canPut 10 33 w (ρ x) (ρ y) = true) :
    (execOp ρ { dst, op := .store 33 x y, type := ty, pos, after, guard }).run Tryd.prog w = .ok .skip (putAt w (ρ x) (ρ y)) := run_opS 33 10 info33 ρ dst x y ty pos after guard w h
theorem run_opst45 (ρ : Operand → Value) (dst : Option Tmp) (x y : Operand) (ty : TypeId) (pos : String) (after : Array Edge) (guard : Option (Nat × Bool)) (w : World) (h : canPut 5 45 w (ρ x) (ρ y) = true) :
    (execOp ρ { dst, op := .store 45 x y, type := ty, pos, after, guard }).run Tryd.prog w = .ok .skip (putAt w (ρ x) (ρ y)) := run_opS 45 5 info45 ρ dst x y ty pos after guard w h
theorem run_opst47 (ρ : Operand → Value) (dst : Option Tmp) (x y : Operand) (ty : TypeId) (pos : String) (after : Array Edge) (guard : Option (Nat × Bool)) (w : World) (h : canPut 6 47 w (ρ x) (ρ y) = true) :
    (execOp ρ { dst, op := .store 47 x y, type := ty, pos, after, guard }).run Tryd.prog w = .ok .skip (putAt w (ρ x) (ρ y)) := run_opS 47 6 info47 ρ dst x y ty pos after guard w h
end Go.Proofs.YtefgjmijbedbkaaDoor
