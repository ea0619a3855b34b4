/-
  Own, When and Gap of package sched and of the reference answer the same; SchedOwns' walk; conditions as each theorem has them.
-/
import Derived.Test.YtidalhdhaagpaaaP
set_option linter.unusedSimpArgs false
set_option linter.unusedVariables false
namespace Go.Proofs.Ytidalhdhaagpaaa
open Go.RowKit

/-- The call answers the two numbers, wherever the table lies so. -/
def Says (f : Nat) (args : Array Value) (a : Option Addr) (b o n : Nat) (T : List (Int × Int)) (v c : Int) : Prop :=
  ∀ w, Tab w a b o n T → Calls Try.prog f args w fun e w' => e = .returned (.tuple #[.int .i64 v, .int .i64 c]) ∧ Below w.heap.size w w'

theorem own_pair (a : Option Addr) (b o n cap : Nat) (T : List (Int × Int)) (t k : Int) :
    ∃ v c : Int, Says 17 #[.slice a n cap, .int .i64 t, .int .i64 k] a b o n T v c ∧ Says 18 #[.slice a n cap, .int .i64 t, .int .i64 k] a b o n T v c := by
  by_cases hg : Good T
  · by_cases hk : 0 ≤ k ∧ k ≤ 1099511627776
    · by_cases ht : 0 ≤ t ∧ t < 8
      · obtain ⟨K, rfl⟩ := Int.eq_ofNat_of_zero_le hk.1
        exact ⟨C T t K, 0, fun w h => own_ok a b o n cap T t K w h hg (by omega) ht.1 ht.2, fun w h => rown_ok a b o n cap T t K w h hg (by omega) ht.1 ht.2⟩
      · exact ⟨0, 2, fun w h => own_arg a b o n cap T t k w h (errK_ok hg hk) (by omega), fun w h => rown_arg a b o n cap T t k w h (errK_ok hg hk) (by omega)⟩
    · exact ⟨0, 2, fun w h => own_bad a b o n cap T t k 2 w h (errK_arg hg hk) (Or.inr rfl), fun w h => rown_bad a b o n cap T t k 2 w h (errK_arg hg hk) (Or.inr rfl)⟩
  · exact ⟨0, 50, fun w h => own_bad a b o n cap T t k 50 w h (errK_bad hg k) (Or.inl rfl), fun w h => rown_bad a b o n cap T t k 50 w h (errK_bad hg k) (Or.inl rfl)⟩

theorem whenV_two (x : Nat) : ∃ v c : Int, whenV x = .tuple #[.int .i64 v, .int .i64 c] := by
  rcases Nat.lt_or_ge 1099511627776 x with h | h
  · exact ⟨0, 2, whenV_gt h⟩
  · exact ⟨x, 0, whenV_le h⟩

theorem when_pair (a : Option Addr) (b o n cap : Nat) (T : List (Int × Int)) (t k : Int) :
    ∃ v c : Int, Says 19 #[.slice a n cap, .int .i64 t, .int .i64 k] a b o n T v c ∧ Says 20 #[.slice a n cap, .int .i64 t, .int .i64 k] a b o n T v c := by
  by_cases hg : Good T
  · by_cases ht : 0 ≤ t ∧ 0 < C T t T.length
    · by_cases hk : 0 ≤ k ∧ k ≤ 1099511627776
      · obtain ⟨K, rfl⟩ := Int.eq_ofNat_of_zero_le hk.1
        by_cases hx : ∃ x, IsWhen T t K x
        · obtain ⟨x, hx⟩ := hx
          obtain ⟨v, c, hv⟩ := whenV_two x
          refine ⟨v, c, fun w h => ?_, fun w h => ?_⟩
          · refine (when_ok a b o n cap T t K w h hg ht.1 (by rw [← h.len]; exact ht.2) (by omega)).mono ?_
            rintro e w' ⟨y, rfl, hy, hb⟩
            obtain rfl := hy.uniq hx
            exact ⟨by rw [hv], hb⟩
          · refine (rwhen_ok a b o n cap T t K w h hg ht.1 (by rw [← h.len]; exact ht.2) (by omega)).mono ?_
            rintro e w' ⟨y, rfl, hy, hb⟩
            obtain rfl := hy.uniq hx
            exact ⟨by rw [hv], hb⟩
        · refine ⟨0, 0, fun w h => ?_, fun w h => ?_⟩
          · refine (when_ok a b o n cap T t K w h hg ht.1 (by rw [← h.len]; exact ht.2) (by omega)).mono ?_
            rintro e w' ⟨y, rfl, hy, hb⟩
            exact absurd ⟨y, hy⟩ hx
          · refine (rwhen_ok a b o n cap T t K w h hg ht.1 (by rw [← h.len]; exact ht.2) (by omega)).mono ?_
            rintro e w' ⟨y, rfl, hy, hb⟩
            exact absurd ⟨y, hy⟩ hx
      · refine ⟨0, 2, fun w h => when_arg a b o n cap T t k w h (errO_ok hg ht) (by omega), fun w h => rwhen_arg a b o n cap T t k w h hg ?_⟩
        have h2 := ht.2
        rw [h.len] at h2
        omega
    · refine ⟨0, 2, fun w h => when_bad a b o n cap T t k 2 w h (errO_arg hg ht) (Or.inr rfl), fun w h => rwhen_arg a b o n cap T t k w h hg ?_⟩
      rw [h.len] at ht
      omega
  · exact ⟨0, 50, fun w h => when_bad a b o n cap T t k 50 w h (errO_bad hg t) (Or.inl rfl), fun w h => rwhen_bad a b o n cap T t k w h hg⟩

theorem gap_pair (a : Option Addr) (b o n cap : Nat) (T : List (Int × Int)) (t : Int) :
    ∃ v c : Int, Says 21 #[.slice a n cap, .int .i64 t] a b o n T v c ∧ Says 22 #[.slice a n cap, .int .i64 t] a b o n T v c := by
  by_cases hg : Good T
  · by_cases ht : 0 ≤ t ∧ 0 < C T t T.length
    · by_cases hx : ∃ g, IsGap T t g
      · obtain ⟨x, hx⟩ := hx
        refine ⟨x, 0, fun w h => ?_, fun w h => ?_⟩
        · refine (gap_ok a b o n cap T t w h hg ht.1 (by rw [← h.len]; exact ht.2)).mono ?_
          rintro e w' ⟨y, rfl, hy, hb⟩
          obtain rfl := hy.uniq hx
          exact ⟨rfl, hb⟩
        · refine (rgap_ok a b o n cap T t w h hg ht.1 (by rw [← h.len]; exact ht.2)).mono ?_
          rintro e w' ⟨y, rfl, hy, hb⟩
          obtain rfl := hy.uniq hx
          exact ⟨rfl, hb⟩
      · refine ⟨0, 0, fun w h => ?_, fun w h => ?_⟩
        · refine (gap_ok a b o n cap T t w h hg ht.1 (by rw [← h.len]; exact ht.2)).mono ?_
          rintro e w' ⟨y, rfl, hy, hb⟩
          exact absurd ⟨y, hy⟩ hx
        · refine (rgap_ok a b o n cap T t w h hg ht.1 (by rw [← h.len]; exact ht.2)).mono ?_
          rintro e w' ⟨y, rfl, hy, hb⟩
          exact absurd ⟨y, hy⟩ hx
    · refine ⟨0, 2, fun w h => gap_bad a b o n cap T t 2 w h (errO_arg hg ht) (Or.inr rfl), fun w h => rgap_arg a b o n cap T t w h hg ?_⟩
      rw [h.len] at ht
      omega
  · exact ⟨0, 50, fun w h => gap_bad a b o n cap T t 50 w h (errO_bad hg t) (Or.inl rfl), fun w h => rgap_bad a b o n cap T t w h hg⟩

set_option maxRecDepth 100000 in
set_option maxHeartbeats 2000000 in
theorem owns_walk (a : Option Addr) (b o n cap : Nat) (T : List (Int × Int)) (t k1 k2 : Int) (w : World) (h : Tab w a b o n T) :
    Calls Try.prog 4 #[.slice a n cap, .int .i64 t, .int .i64 k1, .int .i64 k2] w fun e w' => e = .returned (.bool true) ∧ Below w.heap.size w w' := by
  obtain ⟨v1, c1, p1, p2⟩ := own_pair a b o n cap T t k1
  obtain ⟨v2, c2, p3, p4⟩ := when_pair a b o n cap T t k2
  obtain ⟨v3, c3, p5, p6⟩ := gap_pair a b o n cap T t
  have P1 := hide p1
  have P2 := hide p2
  have P3 := hide p3
  have P4 := hide p4
  have P5 := hide p5
  have P6 := hide p6
  have H := hide h
  clear p1 p2 p3 p4 p5 p6 h
  go_enter Try.func4, Try.ntmps4
  go_wp2_with fail
  refine (P1.out w H.out).mono ?_
  rintro e w1 ⟨rfl, b1⟩
  have B1 := hide b1
  clear b1 P1
  go_wp2_with fail
  refine (P2.out w1 (H.out.below B1.out)).mono ?_
  rintro e w2 ⟨rfl, b2⟩
  have B2 := hide (Below.then B1.out b2)
  clear b2 P2 B1
  go_wp2_with fail
  refine (P3.out w2 (H.out.below B2.out)).mono ?_
  rintro e w3 ⟨rfl, b3⟩
  have B3 := hide (Below.then B2.out b3)
  clear b3 P3 B2
  go_wp2_with fail
  refine (P4.out w3 (H.out.below B3.out)).mono ?_
  rintro e w4 ⟨rfl, b4⟩
  have B4 := hide (Below.then B3.out b4)
  clear b4 P4 B3
  go_wp2_with fail
  refine (P5.out w4 (H.out.below B4.out)).mono ?_
  rintro e w5 ⟨rfl, b5⟩
  have B5 := hide (Below.then B4.out b5)
  clear b5 P5 B4
  go_wp2_with fail
  refine (P6.out w5 (H.out.below B5.out)).mono ?_
  rintro e w6 ⟨rfl, b6⟩
  have B6 := hide (Below.then B5.out b6)
  clear b6 P6 B5
  go_wp2_with fail
  refine (works_at w6).mono ?_
  rintro e w7 ⟨rfl, b7⟩
  have B7 := hide (Below.then B6.out b7)
  clear b7 B6
  go_wp2_with fail
  go_ret
  exact ⟨rfl, B7.out⟩

end Go.Proofs.Ytidalhdhaagpaaa
