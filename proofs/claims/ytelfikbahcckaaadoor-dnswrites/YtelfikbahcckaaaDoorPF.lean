/-
  isAnswer; conditions as each theorem has them.
-/
import Derived.Test.YtelfikbahcckaaaDoorPE
import Derived.Test.YtelfikbahcckaaaDoorSA
set_option linter.unusedSimpArgs false
set_option linter.unusedVariables false
namespace Go.Proofs.YtelfikbahcckaaaDoor
open Go.RowKit
/-- What may be written as an answer. -/
noncomputable def isAn (id : Int) (n : List Nat) (cd : Int) (k : Nat) (tl : Int) : Bool :=
  qry id n && decide (0 ≤ cd) && decide (cd ≤ 15) && decide (0 ≤ tl) && decide (tl ≤ 1048576) && decide (k ≤ 16) && (decide (cd = 0) || decide (k = 0)) && (decide (tl = 0) || decide (k ≠ 0))
set_option maxRecDepth 100000 in
set_option maxHeartbeats 4000000 in
theorem isAnswer_at (id : Int) (t : ByteArray) (cd : Int) (a : Option Addr) (n c : Nat) (tl : Int) (w : World) (ht : t.size ≤ maxLen) (hV : Vars w) (hn : n ≤ 140737488351232) :
    Calls Tryd.prog 37 #[.agg #[.int .i64 id, .string t, .int .i64 cd, .slice a n c, .int .i64 tl]] w fun e w' => e = .returned (.bool (isAn id (byt t) cd n tl)) ∧ Below w.heap.size w w' := by
  have b1 : Below w.heap.size w (w.alloc (.cells #[.int .i64 id, .string t, .int .i64 cd, .slice a n c, .int .i64 tl] 43)) := (Below.refl _ _).alloc (Nat.le_refl _) _
  have HC := hide (isQuery_at id t (w.alloc (.cells #[.int .i64 id, .string t, .int .i64 cd, .slice a n c, .int .i64 tl] 43)) ht (hV.below b1))
  have T1 := hide (Row.new w #[.int .i64 id, .string t, .int .i64 cd, .slice a n c, .int .i64 tl] 43)
  have B1 := hide b1
  obtain ⟨R, hR⟩ : ∃ R, R = isAn id (byt t) cd n tl := ⟨_, rfl⟩
  rw [← hR]
  have HR := hide hR
  clear b1 hV hR
  obtain ⟨q, hq⟩ : ∃ q, q = qry id (byt t) := ⟨_, rfl⟩
  rw [← hq] at HC
  have HQ := hide hq
  clear hq
  cases q with
  | false =>
    have hRf : R = false := by rw [HR.out, isAn, ← HQ.out]; simp
    subst hRf
    go_enter Tryd.func37, Tryd.ntmps37
    go_wp2_with fail
    refine HC.out.mono ?_
    rintro e w1 ⟨rfl, b2⟩
    have B2 := hide (B1.out.trans (b2.mono (by simp)))
    clear b2
    go_wp2_with fail
    go_ret
    exact ⟨rfl, B2.out⟩
  | true =>
    have hR1 : R = (decide (0 ≤ cd) && decide (cd ≤ 15) && decide (0 ≤ tl) && decide (tl ≤ 1048576) && decide (n ≤ 16) && (decide (cd = 0) || decide (n = 0)) && (decide (tl = 0) || decide (n ≠ 0))) := by rw [HR.out, isAn, ← HQ.out]; simp
    go_enter Tryd.func37, Tryd.ntmps37
    go_wp2_with fail
    refine HC.out.mono ?_
    rintro e w1 ⟨rfl, b2⟩
    have r1 := T1.out.below b2 (by simp)
    have c2 : w1.cell? ⟨w.heap.size, 2, none⟩ = some (.int .i64 cd) := r1.cell 2
    have c3 : w1.cell? ⟨w.heap.size, 3, none⟩ = some (.slice a n c) := r1.cell 3
    have c4 : w1.cell? ⟨w.heap.size, 4, none⟩ = some (.int .i64 tl) := r1.cell 4
    have B2 := hide (B1.out.trans (b2.mono (by simp)))
    have HR1 := hide hR1
    clear b2 r1 hR1
    by_cases h1 : cd < 0
    · have e1 : decide (cd < 0) = true := decide_eq_true h1
      obtain rfl : R = false := by rw [HR1.out]; simp; omega
      clear h1
      go_wp2_with fail
      go_ret
      exact ⟨rfl, B2.out⟩
    have e1 : decide (cd < 0) = false := decide_eq_false h1
    by_cases h2 : 15 < cd
    · have e2 : decide (15 < cd) = true := decide_eq_true h2
      obtain rfl : R = false := by rw [HR1.out]; simp; omega
      clear h1 h2
      go_wp2_with fail
      go_ret
      exact ⟨rfl, B2.out⟩
    have e2 : decide (15 < cd) = false := decide_eq_false h2
    by_cases h3 : tl < 0
    · have e3 : decide (tl < 0) = true := decide_eq_true h3
      obtain rfl : R = false := by rw [HR1.out]; simp; omega
      clear h1 h2 h3
      go_wp2_with fail
      go_ret
      exact ⟨rfl, B2.out⟩
    have e3 : decide (tl < 0) = false := decide_eq_false h3
    by_cases h4 : 1048576 < tl
    · have e4 : decide (1048576 < tl) = true := decide_eq_true h4
      obtain rfl : R = false := by rw [HR1.out]; simp; omega
      clear h1 h2 h3 h4
      go_wp2_with fail
      go_ret
      exact ⟨rfl, B2.out⟩
    have e4 : decide (1048576 < tl) = false := decide_eq_false h4
    by_cases h5 : 16 < n
    · have e5 : decide (16 < (n : Int)) = true := decide_eq_true (by omega)
      have e5' : decide (16 < n) = true := decide_eq_true h5
      obtain rfl : R = false := by rw [HR1.out]; simp; omega
      clear h1 h2 h3 h4 h5
      go_wp2_with fail
      go_ret
      exact ⟨rfl, B2.out⟩
    have e5 : decide (16 < (n : Int)) = false := decide_eq_false (by omega)
    have e5' : decide (16 < n) = false := decide_eq_false h5
    by_cases h6 : cd = 0
    · have e6 : (cd == 0) = true := by simp [h6]
      by_cases h7 : n = 0
      · have e7 : decide (0 < (n : Int)) = false := decide_eq_false (by omega)
        have e7' : decide (0 < n) = false := decide_eq_false (by omega)
        by_cases h8 : tl = 0
        · have e8 : (tl == 0) = true := by simp [h8]
          obtain rfl : R = true := by rw [HR1.out]; simp [h6, h7, h8] <;> omega
          clear h1 h2 h3 h4 h5 h7 h8
          go_wp2_with fail
          go_ret
          exact ⟨rfl, B2.out⟩
        · have e8 : (tl == 0) = false := by simp [h8]
          obtain rfl : R = false := by rw [HR1.out]; simp [h7, h8]
          clear h1 h2 h3 h4 h5 h7 h8
          go_wp2_with fail
          go_ret
          exact ⟨rfl, B2.out⟩
      · have e7 : decide (0 < (n : Int)) = true := decide_eq_true (by omega)
        have e7' : decide (0 < n) = true := decide_eq_true (by omega)
        by_cases h8 : tl = 0
        · have e8 : (tl == 0) = true := by simp [h8]
          obtain rfl : R = true := by rw [HR1.out]; simp [h6, h7, h8] <;> omega
          clear h1 h2 h3 h4 h5 h7 h8
          go_wp2_with fail
          go_ret
          exact ⟨rfl, B2.out⟩
        · have e8 : (tl == 0) = false := by simp [h8]
          obtain rfl : R = true := by rw [HR1.out]; simp [h6, h7, h8] <;> omega
          clear h1 h2 h3 h4 h5 h7 h8
          go_wp2_with fail
          go_ret
          exact ⟨rfl, B2.out⟩
    · have e6 : (cd == 0) = false := by simp [h6]
      by_cases h7 : n = 0
      · have e7 : decide (0 < (n : Int)) = false := decide_eq_false (by omega)
        have e7' : decide (0 < n) = false := decide_eq_false (by omega)
        by_cases h8 : tl = 0
        · have e8 : (tl == 0) = true := by simp [h8]
          obtain rfl : R = true := by rw [HR1.out]; simp [h6, h7, h8] <;> omega
          clear h1 h2 h3 h4 h5 h7 h8
          go_wp2_with fail
          go_ret
          exact ⟨rfl, B2.out⟩
        · have e8 : (tl == 0) = false := by simp [h8]
          obtain rfl : R = false := by rw [HR1.out]; simp [h7, h8]
          clear h1 h2 h3 h4 h5 h7 h8
          go_wp2_with fail
          go_ret
          exact ⟨rfl, B2.out⟩
      · have e7 : decide (0 < (n : Int)) = true := decide_eq_true (by omega)
        have e7' : decide (0 < n) = true := decide_eq_true (by omega)
        obtain rfl : R = false := by rw [HR1.out]; simp [h6, h7]
        clear h1 h2 h3 h4 h5 h7
        go_wp2_with fail
        go_ret
        exact ⟨rfl, B2.out⟩
end Go.Proofs.YtelfikbahcckaaaDoor
