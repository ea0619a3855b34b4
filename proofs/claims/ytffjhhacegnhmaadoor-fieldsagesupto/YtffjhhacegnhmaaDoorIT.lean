/-
  Numbers as texts: Itoa of the library and of the reference's base; conditions as each theorem has them.
-/
import Derived.Test.YtffjhhacegnhmaaDoorCK
set_option linter.unusedSimpArgs false
set_option linter.unusedVariables false
namespace Go.Proofs.YtffjhhacegnhmaaDoor
open Go.RowKit

/-- The digits of a number. -/
def dec (n : Nat) : List Nat := (Lib.decDigits n).map UInt8.toNat
theorem dec_small {n : Nat} (h : n < 10) : dec n = [48 + n] := by
  unfold dec
  rw [Lib.decDigits, dif_pos h]
  simp
  omega
theorem dec_big {n : Nat} (h : ¬ n < 10) : dec n = dec (n / 10) ++ [48 + n % 10] := by
  unfold dec
  conv => lhs; rw [Lib.decDigits, dif_neg h]
  rw [List.map_append]
  congr 1
  simp
  omega
theorem dec_lt (n : Nat) : ∀ x ∈ dec n, x < 256 := by
  intro x hx
  simp only [dec, List.mem_map] at hx
  obtain ⟨c, _, rfl⟩ := hx
  exact c.toNat_lt
theorem dec_len {n : Nat} (h : n < 100000) : (dec n).length ≤ 5 := by
  have g (k n : Nat) (b : 10 ^ (k + 1) > n) : (dec n).length ≤ k + 1 := by
    induction k generalizing n with
    | zero => rw [dec_small (by simpa using b)]; simp
    | succ k ih =>
      by_cases h1 : n < 10
      · rw [dec_small h1]; simp
      · rw [dec_big h1]
        have := ih (n / 10) (by rw [Nat.pow_succ] at b; omega)
        simp; omega
  exact g 4 n h
theorem strN_dec (n : Nat) : (⟨(Lib.decDigits n).toArray⟩ : ByteArray) = strN (dec n) := by
  apply byt_inj
  rw [byt_strN _ (dec_lt n), byt_mk]
  rfl
/-- strconv.Itoa of a number that is not below 0. -/
theorem itoa_at (n : Nat) (w : World) (hn : n ≤ 1000000) (ht : Lib.TabIs Tryd.prog w "internal/strconv.uint64pow10" .u64 Lib.pow10Tab) : Calls Tryd.prog 82 #[.int .i64 (n : Int)] w fun e w' => e = .returned (.string (strN (dec n))) ∧ Below w.heap.size w w' := by
  refine (Tryd.strconv_Itoa (n : Int) (by omega) (by omega) w ht).mono ?_
  rintro e w' ⟨rfl, k, os, rfl⟩
  have e1 : Lib.itoa (n : Int) = Lib.decDigits n := by unfold Lib.itoa; rw [if_neg (by omega)]; simp
  rw [e1, strN_dec]
  refine ⟨rfl, ?_⟩
  refine ⟨rfl, rfl, rfl, ?_, fun i hi => ?_⟩
  · show w.heap.size ≤ (w.heap ++ os).size
    simp
  · show (w.heap ++ os)[i]? = w.heap[i]?
    rw [Array.getElem?_append_left hi]
end Go.Proofs.YtffjhhacegnhmaaDoor
