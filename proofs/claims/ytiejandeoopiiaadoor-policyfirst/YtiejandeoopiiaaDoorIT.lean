/-
  Numbers as texts: Itoa of the library and of the reference's base; conditions as each theorem has them.
-/
import Derived.Test.YtiejandeoopiiaaDoorCK
set_option linter.unusedSimpArgs false
set_option linter.unusedVariables false
namespace Go.Proofs.YtiejandeoopiiaaDoor
open Go.RowKit

theorem strN_dec (n : Nat) : (⟨(Lib.decDigits n).toArray⟩ : ByteArray) = strN (dec n) := by
  apply byt_inj
  rw [byt_strN _ (dec_lt n), byt_mk]
  rfl
/-- strconv.Itoa of a number that is not below 0. -/
theorem itoa_at (n : Nat) (w : World) (hn : n ≤ 1000000) (ht : Lib.TabIs Tryd.prog w "internal/strconv.uint64pow10" .u64 Lib.pow10Tab) : Calls Tryd.prog 30 #[.int .i64 (n : Int)] w fun e w' => e = .returned (.string (strN (dec n))) ∧ Below w.heap.size w w' := by
  refine (Tryd.strconv_Itoa (n : Int) (by omega) (by omega) w ht).mono ?_
  rintro e w' ⟨rfl, k, os, rfl⟩
  have e1 : Lib.itoa (n : Int) = Lib.decDigits n := by unfold Lib.itoa; rw [if_neg (by omega)]; simp
  rw [e1, strN_dec]
  refine ⟨rfl, ?_⟩
  refine ⟨rfl, rfl, rfl, ?_, fun i hi => ?_⟩
  · show w.heap.size ≤ (w.heap ++ os).size
    simp
  · show (w.heap ++ os)[i]? = w.heap[i]?
    rw [Array.getElem?_append_left hi]
end Go.Proofs.YtiejandeoopiiaaDoor
