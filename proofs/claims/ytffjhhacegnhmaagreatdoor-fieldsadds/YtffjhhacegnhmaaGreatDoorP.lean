/-
  ParseAddr of the reference; conditions as each theorem has them.
-/
import Derived.Test.YtffjhhacegnhmaaGreatDoorK
import Derived.Test.YtffjhhacegnhmaaGreatDoorG
set_option linter.unusedSimpArgs false
set_option linter.unusedVariables false
namespace Go.Proofs.YtffjhhacegnhmaaGreatDoor
open Go.RowKit

theorem res_cell_cell {P : Program} {fn : Func} {p q : Tmp} {ty ty2 : TypeId} (h : fn.results = #[.cell p ty, .cell q ty2]) (tmps : Array Value) (w : World) (g : Nat) (t : TypeId) (cs : Array Value) (fr : Nat × Nat) (d : TypeDesc)
    (hp : tmps.getD p undef = .pointer (some ⟨g, 0, none⟩)) (hg : w.heap[g]? = some (.cells cs t fr))
    (hu : P.underlying ty = some d) (hd : (match d with | .struct _ | .array _ _ => true | _ => false) = true) (hi : (P.info? ty).map (·.size) = some cs.size)
    (g2 : Nat) (t2 : TypeId) (cs2 : Array Value) (fr2 : Nat × Nat) (d2 : TypeDesc)
    (hp2 : tmps.getD q undef = .pointer (some ⟨g2, 0, none⟩)) (hg2 : w.heap[g2]? = some (.cells cs2 t2 fr2))
    (hu2 : P.underlying ty2 = some d2) (hd2 : (match d2 with | .struct _ | .array _ _ => true | _ => false) = true) (hi2 : (P.info? ty2).map (·.size) = some cs2.size) :
    (results fn tmps).run P w = .ok (.tuple #[.agg cs, .agg cs2]) w := by
  have hp' : tmps[p]?.getD undef = .pointer (some ⟨g, 0, none⟩) := by simpa using hp
  have hp2' : tmps[q]?.getD undef = .pointer (some ⟨g2, 0, none⟩) := by simpa using hp2
  simp only [results, h]
  simp [Sem.run_bind, Result.andThen, hp', hp2', asAddr, run_loadVar_row w g t ty cs fr d hg hu hd hi, run_loadVar_row w g2 t2 ty2 cs2 fr2 d2 hg2 hu2 hd2 hi2]
theorem fin2 {wr : World} {B : Nat} {t0 t1 : TypeId} {o0 o1 : Array Value} (h0 : wr.heap[B]? = some (.cells o0 t0)) (h1 : wr.heap[B + 1]? = some (.cells o1 t1)) (c0 c1 : Array Value) :
    (wr.setRow B c0).heap[B + 1]? = some (.cells o1 t1) ∧ ((wr.setRow B c0).setRow (B + 1) c1).heap[B]? = some (.cells c0 t0) ∧ ((wr.setRow B c0).setRow (B + 1) c1).heap[B + 1]? = some (.cells c1 t1) ∧
    ∀ w : World, w.heap.size ≤ B → Below w.heap.size w wr → Below w.heap.size w ((wr.setRow B c0).setRow (B + 1) c1) := by
  have e1 : (wr.setRow B c0).heap[B + 1]? = some (.cells o1 t1) := by rw [setRow_ne _ _ _ _ (by omega)]; exact h1
  exact ⟨e1, by rw [setRow_ne _ _ _ _ (by omega)]; exact setRow_heap _ _ _ _ _ h0, setRow_heap _ _ _ _ _ e1, fun w hB hb => below_setRow (below_setRow hb hB _) (by omega) _⟩

theorem val_lt : ∀ (p : List Nat), p.all dig = true → val 0 p < 10 ^ p.length := by
  have h : ∀ (p : List Nat) (a : Nat), p.all dig = true → val a p < (a + 1) * 10 ^ p.length := by
    intro p
    induction p with
    | nil => intro a _; simp [val]
    | cons c r ih =>
      intro a h
      simp only [List.all_cons, Bool.and_eq_true] at h
      have hc := (dig_iff c).1 h.1
      have := ih (step a c) h.2
      rw [val_cons, List.length_cons, Nat.pow_succ]
      refine Nat.lt_of_lt_of_le this ?_
      have e : (a + 1) * (10 ^ r.length * 10) = ((a + 1) * 10) * 10 ^ r.length := by rw [Nat.mul_assoc, Nat.mul_comm (10 ^ r.length) 10]
      rw [e]
      exact Nat.mul_le_mul_right _ (by unfold step; omega)
  intro p hp
  have := h p 0 hp
  simpa using this
end Go.Proofs.YtffjhhacegnhmaaGreatDoor
