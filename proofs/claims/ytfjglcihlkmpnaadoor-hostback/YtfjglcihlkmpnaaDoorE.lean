/-
  Whether an error is what the reference tells: 'Is'; conditions as each theorem has them.
-/
import Derived.Test.YtfjglcihlkmpnaaDoorD
import Derived.ChangeKeysEq
set_option linter.unusedSimpArgs false
set_option linter.unusedVariables false
namespace Go.Proofs.YtfjglcihlkmpnaaDoor
open Go.RowKit

theorem eq28 (a b c d : ByteArray) (w : World) : (Op.equalIn 9999 28 (.agg #[.string a, .string b, .string c, .string d]) (.agg #[.string a, .string b, .string c, .string d])).run Tryd.prog w = .ok true w := by
  obtain ⟨i, hi⟩ : ∃ i, Tryd.prog.info? 9 = some i := Option.isSome_iff_exists.1 (by kernel_rfl)
  have c9 : Tryd.prog.cellsOf 9 = 1 := by kernel_rfl
  have hs : ∀ w, (sizeOf 9).run Tryd.prog w = .ok 1 w := fun w => by kernel_rfl
  have ha : ∀ w, (isAgg 9).run Tryd.prog w = .ok false w := fun w => by kernel_rfl
  rw [run_equalIn_array w 9998 _ _ (by kernel_rfl : Tryd.prog.underlying 28 = some (.array 4 9)) hi, c9, show List.range 4 = [0, 1, 2, 3] from rfl]
  simp [Op.eqItems, Go.part, hs, ha, run_equalIn_string _ _ _ _ _ Tryd.underlying9]
theorem eq29 (a b c d : Int) (w : World) : (Op.equalIn 9999 29 (.agg #[.int .i64 a, .int .i64 b, .int .i64 c, .int .i64 d]) (.agg #[.int .i64 a, .int .i64 b, .int .i64 c, .int .i64 d])).run Tryd.prog w = .ok true w := by
  obtain ⟨i, hi⟩ : ∃ i, Tryd.prog.info? 3 = some i := Option.isSome_iff_exists.1 (by kernel_rfl)
  have c9 : Tryd.prog.cellsOf 3 = 1 := by kernel_rfl
  have hs : ∀ w, (sizeOf 3).run Tryd.prog w = .ok 1 w := fun w => by kernel_rfl
  have ha : ∀ w, (isAgg 3).run Tryd.prog w = .ok false w := fun w => by kernel_rfl
  rw [run_equalIn_array w 9998 _ _ (by kernel_rfl : Tryd.prog.underlying 29 = some (.array 4 3)) hi, c9, show List.range 4 = [0, 1, 2, 3] from rfl]
  simp [Op.eqItems, Go.part, hs, ha, run_equalIn_int _ _ _ _ _ _ _ Tryd.underlying3]

set_option maxRecDepth 100000 in
set_option maxHeartbeats 2000000 in
theorem is_at (e : Er) (v : Value) (w : World) (h : IsEr w e v) : Calls Tryd.prog 15 #[v, badV e] w fun x w' => x = .returned (.bool true) ∧ Below w.heap.size w w' := by
  have H := hide (h.below ((Below.refl _ w).alloc (Nat.le_refl _) (.cells (badC e) 32)))
  clear h
  cases e with
  | ok =>
    simp only [badV]
    go_enter Tryd.func15, Tryd.ntmps15
    go_wp2_with fail
    refine (of_at .ok v _ H.out).mono ?_
    rintro x w1 ⟨rfl, hbel⟩
    have hr : w1.heap[w.heap.size]? = some (.cells (badC .ok) 32) := (hbel.block w.heap.size (by simp)).trans (alloc_new _ _)
    have hz := lt_of_some hr
    have HB : Hid (Below w.heap.size w w1) := ((Below.refl _ w).alloc (Nat.le_refl _) _).trans (hbel.mono (by simp))
    have hne : w.heap.size ≠ w1.heap.size := by omega
    have k0 : w1.cell? ⟨w.heap.size, 0, none⟩ = some (.int .i64 0) := by simp [World.cell?, hr, badC, badV]
    have k1 : w1.cell? ⟨w.heap.size, 1, none⟩ = some (.string ⟨#[]⟩) := by simp [World.cell?, hr, badC, badV]
    have k2 : w1.cell? ⟨w.heap.size, 2, none⟩ = some (.string ⟨#[]⟩) := by simp [World.cell?, hr, badC, badV]
    have k3 : w1.cell? ⟨w.heap.size, 3, none⟩ = some (.string ⟨#[]⟩) := by simp [World.cell?, hr, badC, badV]
    have k4 : w1.cell? ⟨w.heap.size, 4, none⟩ = some (.string ⟨#[]⟩) := by simp [World.cell?, hr, badC, badV]
    have k5 : w1.cell? ⟨w.heap.size, 5, none⟩ = some (.int .i64 0) := by simp [World.cell?, hr, badC, badV]
    have k6 : w1.cell? ⟨w.heap.size, 6, none⟩ = some (.int .i64 0) := by simp [World.cell?, hr, badC, badV]
    have k7 : w1.cell? ⟨w.heap.size, 7, none⟩ = some (.int .i64 0) := by simp [World.cell?, hr, badC, badV]
    have k8 : w1.cell? ⟨w.heap.size, 8, none⟩ = some (.int .i64 0) := by simp [World.cell?, hr, badC, badV]
    have k9 : w1.cell? ⟨w.heap.size, 9, none⟩ = some (.int .i64 0) := by simp [World.cell?, hr, badC, badV]
    simp only [badV]
    have q28 := eq28
    have q29 := eq29
    clear hbel hr
    go_wp2_with fail
    go_ret
    exact ⟨by simp, HB.out.alloc (by omega) _⟩
  | one a c =>
    simp only [badV]
    go_enter Tryd.func15, Tryd.ntmps15
    go_wp2_with fail
    refine (of_at (.one a c) v _ H.out).mono ?_
    rintro x w1 ⟨rfl, hbel⟩
    have hr : w1.heap[w.heap.size]? = some (.cells (badC (.one a c)) 32) := (hbel.block w.heap.size (by simp)).trans (alloc_new _ _)
    have hz := lt_of_some hr
    have HB : Hid (Below w.heap.size w w1) := ((Below.refl _ w).alloc (Nat.le_refl _) _).trans (hbel.mono (by simp))
    have hne : w.heap.size ≠ w1.heap.size := by omega
    have k0 : w1.cell? ⟨w.heap.size, 0, none⟩ = some (.int .i64 1) := by simp [World.cell?, hr, badC, badV]
    have k1 : w1.cell? ⟨w.heap.size, 1, none⟩ = some (.string ⟨#[104, 111, 115, 116]⟩) := by simp [World.cell?, hr, badC, badV]
    have k2 : w1.cell? ⟨w.heap.size, 2, none⟩ = some (.string ⟨#[]⟩) := by simp [World.cell?, hr, badC, badV]
    have k3 : w1.cell? ⟨w.heap.size, 3, none⟩ = some (.string ⟨#[]⟩) := by simp [World.cell?, hr, badC, badV]
    have k4 : w1.cell? ⟨w.heap.size, 4, none⟩ = some (.string ⟨#[]⟩) := by simp [World.cell?, hr, badC, badV]
    have k5 : w1.cell? ⟨w.heap.size, 5, none⟩ = some (.int .i64 a) := by simp [World.cell?, hr, badC, badV]
    have k6 : w1.cell? ⟨w.heap.size, 6, none⟩ = some (.int .i64 0) := by simp [World.cell?, hr, badC, badV]
    have k7 : w1.cell? ⟨w.heap.size, 7, none⟩ = some (.int .i64 0) := by simp [World.cell?, hr, badC, badV]
    have k8 : w1.cell? ⟨w.heap.size, 8, none⟩ = some (.int .i64 0) := by simp [World.cell?, hr, badC, badV]
    have k9 : w1.cell? ⟨w.heap.size, 9, none⟩ = some (.int .i64 c) := by simp [World.cell?, hr, badC, badV]
    simp only [badV]
    have q28 := eq28
    have q29 := eq29
    clear hbel hr
    go_wp2_with fail
    go_ret
    exact ⟨by simp, HB.out.alloc (by omega) _⟩
  | two a b c =>
    simp only [badV]
    go_enter Tryd.func15, Tryd.ntmps15
    go_wp2_with fail
    refine (of_at (.two a b c) v _ H.out).mono ?_
    rintro x w1 ⟨rfl, hbel⟩
    have hr : w1.heap[w.heap.size]? = some (.cells (badC (.two a b c)) 32) := (hbel.block w.heap.size (by simp)).trans (alloc_new _ _)
    have hz := lt_of_some hr
    have HB : Hid (Below w.heap.size w w1) := ((Below.refl _ w).alloc (Nat.le_refl _) _).trans (hbel.mono (by simp))
    have hne : w.heap.size ≠ w1.heap.size := by omega
    have k0 : w1.cell? ⟨w.heap.size, 0, none⟩ = some (.int .i64 2) := by simp [World.cell?, hr, badC, badV]
    have k1 : w1.cell? ⟨w.heap.size, 1, none⟩ = some (.string ⟨#[104, 111, 115, 116]⟩) := by simp [World.cell?, hr, badC, badV]
    have k2 : w1.cell? ⟨w.heap.size, 2, none⟩ = some (.string ⟨#[104, 111, 115, 116]⟩) := by simp [World.cell?, hr, badC, badV]
    have k3 : w1.cell? ⟨w.heap.size, 3, none⟩ = some (.string ⟨#[]⟩) := by simp [World.cell?, hr, badC, badV]
    have k4 : w1.cell? ⟨w.heap.size, 4, none⟩ = some (.string ⟨#[]⟩) := by simp [World.cell?, hr, badC, badV]
    have k5 : w1.cell? ⟨w.heap.size, 5, none⟩ = some (.int .i64 a) := by simp [World.cell?, hr, badC, badV]
    have k6 : w1.cell? ⟨w.heap.size, 6, none⟩ = some (.int .i64 b) := by simp [World.cell?, hr, badC, badV]
    have k7 : w1.cell? ⟨w.heap.size, 7, none⟩ = some (.int .i64 0) := by simp [World.cell?, hr, badC, badV]
    have k8 : w1.cell? ⟨w.heap.size, 8, none⟩ = some (.int .i64 0) := by simp [World.cell?, hr, badC, badV]
    have k9 : w1.cell? ⟨w.heap.size, 9, none⟩ = some (.int .i64 c) := by simp [World.cell?, hr, badC, badV]
    simp only [badV]
    have q28 := eq28
    have q29 := eq29
    clear hbel hr
    go_wp2_with fail
    go_ret
    exact ⟨by simp, HB.out.alloc (by omega) _⟩
end Go.Proofs.YtfjglcihlkmpnaaDoor
