/-
  Whether an error is what the reference tells: 'Is', and 'Like'; conditions as each theorem has them.
-/
import Derived.Test.YtccoddmdlbdfjaaGreatDoorJoinedD
set_option linter.unusedSimpArgs false
set_option linter.unusedVariables false
namespace Go.Proofs.YtccoddmdlbdfjaaGreatDoor
open Go.RowKit

theorem eq28 (a b c d : ByteArray) (w : World) : (Op.equalIn 9999 86 (.agg #[.string a, .string b, .string c, .string d]) (.agg #[.string a, .string b, .string c, .string d])).run Tryz.prog w = .ok true w := by
  obtain ⟨i, hi⟩ : ∃ i, Tryz.prog.info? 9 = some i := Option.isSome_iff_exists.1 (by kernel_rfl)
  have c9 : Tryz.prog.cellsOf 9 = 1 := by kernel_rfl
  have hs : ∀ w, (sizeOf 9).run Tryz.prog w = .ok 1 w := fun w => by kernel_rfl
  have ha : ∀ w, (isAgg 9).run Tryz.prog w = .ok false w := fun w => by kernel_rfl
  rw [run_equalIn_array w 9998 _ _ (by kernel_rfl : Tryz.prog.underlying 86 = some (.array 4 9)) hi, c9, show List.range 4 = [0, 1, 2, 3] from rfl]
  simp [Op.eqItems, Go.part, hs, ha, run_equalIn_string _ _ _ _ _ Tryz.underlying9]
theorem eq29x (a b c d : Int) (w : World) : (Op.equalIn 9999 87 (.agg #[.int .i64 a, .int .i64 b, .int .i64 c, .int .i64 d]) (.agg #[.int .i64 a, .int .i64 b, .int .i64 c, .int .i64 d])).run Tryz.prog w = .ok true w := by
  obtain ⟨i, hi⟩ : ∃ i, Tryz.prog.info? 3 = some i := Option.isSome_iff_exists.1 (by kernel_rfl)
  have c9 : Tryz.prog.cellsOf 3 = 1 := by kernel_rfl
  have hs : ∀ w, (sizeOf 3).run Tryz.prog w = .ok 1 w := fun w => by kernel_rfl
  have ha : ∀ w, (isAgg 3).run Tryz.prog w = .ok false w := fun w => by kernel_rfl
  rw [run_equalIn_array w 9998 _ _ (by kernel_rfl : Tryz.prog.underlying 87 = some (.array 4 3)) hi, c9, show List.range 4 = [0, 1, 2, 3] from rfl]
  simp [Op.eqItems, Go.part, hs, ha, run_equalIn_int _ _ _ _ _ _ _ Tryz.underlying3]

end Go.Proofs.YtccoddmdlbdfjaaGreatDoor
