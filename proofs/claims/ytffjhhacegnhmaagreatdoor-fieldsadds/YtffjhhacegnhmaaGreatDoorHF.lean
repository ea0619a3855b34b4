/-
  fields of package head; conditions as each theorem has them.
-/
import Derived.Test.YtffjhhacegnhmaaGreatDoorHE
import Derived.Test.YtffjhhacegnhmaaGreatDoorHD
import Derived.Deep.LoopGhost
set_option linter.unusedSimpArgs false
set_option linter.unusedVariables false
namespace Go.Proofs.YtffjhhacegnhmaaGreatDoor
open Go.RowKit

theorem Vars.kept {w w' : World} {G : Nat} (h : Vars w) (k : Kept G G w w') (hG : G ≠ 0) : Vars w' := by
  obtain ⟨m, hm⟩ := h
  exact ⟨m, (World.cell?_of_block (k.block 0 (lt_of_cell hm) (Ne.symm hG) (Ne.symm hG))).trans hm⟩
theorem keptB {G : Nat} {w w' : World} (k : Below w.heap.size w w') : Kept G G w w' := ⟨k.os, k.tape, k.output, k.size, fun i hi _ _ => k.block i hi⟩
theorem Kept.trans1 {G : Nat} {a b c : World} (h : Kept G G a b) (k : Kept G G b c) : Kept G G a c :=
  ⟨k.os.trans h.os, k.tape.trans h.tape, k.output.trans h.output, Nat.le_trans h.size k.size, fun i hi h1 h2 => (k.block i (by have := h.size; omega) h1 h2).trans (h.block i hi h1 h2)⟩
theorem flds_step {a : Nat} {x : List Nat} {r : List (List Nat)} {acc : List Fd} (h : acc.length ≠ 64) (h2 : (fld x).2 = 0) : flds a (x :: r) acc = flds (a + x.length + 2) r (acc ++ [(fld x).1]) := by
  rw [flds, if_neg h, if_neg (by simp [h2])]
theorem fld_byte {x : List Nat} (h : ∀ c ∈ x, c < 256) : (∀ c ∈ (fld x).1.1, c < 256) ∧ ∀ c ∈ (fld x).1.2, c < 256 := by
  unfold fld
  split
  · simp
  · rename_i k _
    split
    · simp
    · split
      · simp
      · split
        · simp
        · exact ⟨fun c hc => h c (List.mem_of_mem_take hc), fun c hc => h c (List.mem_of_mem_drop (trim_mem hc))⟩
theorem fl_mem {ls : List (List Nat)} {x : List Nat} (hx : x ∈ ls) {c : Nat} (hc : c ∈ x) : c ∈ fl ls := by
  induction ls with
  | nil => simp at hx
  | cons y r ih =>
    rw [fl_cons]
    simp at hx
    rcases hx with rfl | hx
    · simp [hc]
    · simp [ih hx]
theorem tot_drop {ls : List (List Nat)} {x : List Nat} (hx : x ∈ ls) : x.length ≤ (fl ls).length := by
  induction ls with
  | nil => simp at hx
  | cons y r ih =>
    rw [fl_cons]
    simp at hx
    rcases hx with rfl | hx
    · simp
    · have := ih hx; simp; omega
end Go.Proofs.YtffjhhacegnhmaaGreatDoor
