/-
  SchedCuts' walk; conditions as each theorem has them.
-/
import Derived.Test.YtidalhdhaagpaaaV
set_option linter.unusedSimpArgs false
set_option linter.unusedVariables false
namespace Go.Proofs.Ytidalhdhaagpaaa
open Go.RowKit

set_option maxRecDepth 100000 in
set_option maxHeartbeats 4000000 in
theorem cuts_low (bd : Int) (h1 : bd ≤ -5) (wk0 : Int) (w : World) : Calls Try.prog 7 #[.int .i64 bd, .int .i64 wk0] w fun e w' => e = .returned (.bool true) ∧ Below w.heap.size w w' := by
  have hmf : ∀ (fn : Fn) (first cap : Array Value) (w : World), (Instr.makeFunc fn first cap).run Try.prog w = .ok (.func fn first cap) w := fun _ _ _ _ => rfl
  go_enter Try.func7, Try.ntmps7
  go_wp2_with fail
  refine (works_at w).mono ?_
  rintro e w1 ⟨rfl, b1⟩
  have B1 := hide b1
  clear b1
  go_wp2_with fail
  refine (Among_at wk0 4000 (by omega) (by omega) w1).mono ?_
  rintro e w2 ⟨wk, hwk, rfl, rfl⟩
  go_wp2_with fail
  have hz : ((w1.alloc (boxI 0)).alloc (boxI wk)).heap[w1.heap.size + 1]? = some (boxI wk) := by
    have := alloc_new (w1.alloc (boxI 0)) (boxI wk)
    simpa using this
  refine (work_at (-5) wk w1.heap.size (w1.heap.size + 1) w1.heap.size _ (alloc_old _ (alloc_new _ _)) hz (by omega) (by omega) (by omega) (by omega) (by omega)).mono ?_
  rintro e w3 ⟨r, k, rfl, hk, ⟨hr1, hr2⟩, b3⟩
  have B3 : Hid (Below w.heap.size w w3) := Below.then B1.out ((Below.alw (Below.alw (Below.refl _ _) _) _).trans b3)
  clear hz b3 B1
  obtain rfl : 0 = r := by omega
  obtain rfl : 0 = k := by omega
  have c0 := boxI_cell hk
  clear hr1 hr2 hk
  go_wp2_with fail
  refine (work_nil _ w3).mono ?_
  rintro e w4 ⟨rfl, rfl⟩
  go_wp2_with fail
  go_ret
  exact ⟨rfl, B3.out⟩

set_option maxRecDepth 100000 in
set_option maxHeartbeats 4000000 in
theorem cuts_zero (bd : Int) (h1 : -5 < bd) (h2 : bd ≤ 0) (wk0 : Int) (w : World) : Calls Try.prog 7 #[.int .i64 bd, .int .i64 wk0] w fun e w' => e = .returned (.bool true) ∧ Below w.heap.size w w' := by
  have hmf : ∀ (fn : Fn) (first cap : Array Value) (w : World), (Instr.makeFunc fn first cap).run Try.prog w = .ok (.func fn first cap) w := fun _ _ _ _ => rfl
  go_enter Try.func7, Try.ntmps7
  go_wp2_with fail
  refine (works_at w).mono ?_
  rintro e w1 ⟨rfl, b1⟩
  have B1 := hide b1
  clear b1
  go_wp2_with fail
  refine (Among_at wk0 4000 (by omega) (by omega) w1).mono ?_
  rintro e w2 ⟨wk, hwk, rfl, rfl⟩
  go_wp2_with fail
  have hz : ((w1.alloc (boxI 0)).alloc (boxI wk)).heap[w1.heap.size + 1]? = some (boxI wk) := by
    have := alloc_new (w1.alloc (boxI 0)) (boxI wk)
    simpa using this
  refine (work_at bd wk w1.heap.size (w1.heap.size + 1) w1.heap.size _ (alloc_old _ (alloc_new _ _)) hz (by omega) (by omega) (by omega) (by omega) (by omega)).mono ?_
  rintro e w3 ⟨r, k, rfl, hk, ⟨hr1, hr2⟩, b3⟩
  have B3 : Hid (Below w.heap.size w w3) := Below.then B1.out ((Below.alw (Below.alw (Below.refl _ _) _) _).trans b3)
  clear hz b3 B1
  have g0 : bd ≤ (wk : Int) := by omega
  have g1 : bd ≤ (wk : Int) + 1 := by omega
  obtain rfl : 0 = r := by omega
  obtain rfl : 0 = k := by omega
  have c0 := boxI_cell hk
  clear hr1 hr2 hk
  go_wp2_with fail
  refine (work_nil _ w3).mono ?_
  rintro e w4 ⟨rfl, rfl⟩
  go_wp2_with fail
  go_ret
  exact ⟨rfl, B3.out⟩

set_option maxRecDepth 100000 in
set_option maxHeartbeats 4000000 in
theorem cuts_mid (D : Nat) (h1 : 0 < D) (h2 : D ≤ 3000) (wk0 : Int) (w : World) : Calls Try.prog 7 #[.int .i64 (D : Int), .int .i64 wk0] w fun e w' => e = .returned (.bool true) ∧ Below w.heap.size w w' := by
  have hmf : ∀ (fn : Fn) (first cap : Array Value) (w : World), (Instr.makeFunc fn first cap).run Try.prog w = .ok (.func fn first cap) w := fun _ _ _ _ => rfl
  go_enter Try.func7, Try.ntmps7
  go_wp2_with fail
  refine (works_at w).mono ?_
  rintro e w1 ⟨rfl, b1⟩
  have B1 := hide b1
  clear b1
  go_wp2_with fail
  refine (Among_at wk0 4000 (by omega) (by omega) w1).mono ?_
  rintro e w2 ⟨wk, hwk, rfl, rfl⟩
  go_wp2_with fail
  have hz : ((w1.alloc (boxI 0)).alloc (boxI wk)).heap[w1.heap.size + 1]? = some (boxI wk) := by
    have := alloc_new (w1.alloc (boxI 0)) (boxI wk)
    simpa using this
  refine (work_at D wk w1.heap.size (w1.heap.size + 1) w1.heap.size _ (alloc_old _ (alloc_new _ _)) hz (by omega) (by omega) (by omega) (by omega) (by omega)).mono ?_
  rintro e w3 ⟨r, k, rfl, hk, ⟨hr1, hr2⟩, b3⟩
  have B3 : Hid (Below w.heap.size w w3) := Below.then B1.out ((Below.alw (Below.alw (Below.refl _ _) _) _).trans b3)
  clear hz b3 B1
  rcases (show (D ≤ wk ∧ 0 < D) ∨ (D = wk + 1 ∧ 0 < wk) ∨ (wk + 1 < D ∧ 0 < wk) ∨ (D = 1 ∧ wk = 0) ∨ (1 < D ∧ wk = 0) by omega) with ⟨g0, g1⟩ | ⟨g0, g1⟩ | ⟨g0, g1⟩ | ⟨g0, g1⟩ | ⟨g0, g1⟩
  · obtain rfl : D = r := by omega
    obtain rfl : D = k := by omega
    have c0 := boxI_cell hk
    clear hr1 hr2 hk
    go_wp2_with fail
    refine (work_nil _ w3).mono ?_
    rintro e w4 ⟨rfl, rfl⟩
    go_wp2_with fail
    go_ret
    exact ⟨rfl, B3.out⟩
  · subst g0
    obtain rfl : wk = r := by omega
    obtain rfl : wk + 1 = k := by omega
    have c0 := boxI_cell hk
    clear hr1 hr2 hk
    go_wp2_with fail
    refine (work_nil _ w3).mono ?_
    rintro e w4 ⟨rfl, rfl⟩
    go_wp2_with fail
    go_ret
    exact ⟨rfl, B3.out⟩
  · obtain rfl : wk = r := by omega
    obtain rfl : wk + 1 = k := by omega
    have c0 := boxI_cell hk
    clear hr1 hr2 hk
    go_wp2_with fail
    refine (work_nil _ w3).mono ?_
    rintro e w4 ⟨rfl, rfl⟩
    go_wp2_with fail
    go_ret
    exact ⟨rfl, B3.out⟩
  · subst g0
    subst g1
    obtain rfl : 0 = r := by omega
    obtain rfl : 1 = k := by omega
    have c0 := boxI_cell hk
    clear hr1 hr2 hk
    go_wp2_with fail
    refine (work_nil _ w3).mono ?_
    rintro e w4 ⟨rfl, rfl⟩
    go_wp2_with fail
    go_ret
    exact ⟨rfl, B3.out⟩
  · subst g1
    obtain rfl : 0 = r := by omega
    obtain rfl : 1 = k := by omega
    have c0 := boxI_cell hk
    clear hr1 hr2 hk
    go_wp2_with fail
    refine (work_nil _ w3).mono ?_
    rintro e w4 ⟨rfl, rfl⟩
    go_wp2_with fail
    go_ret
    exact ⟨rfl, B3.out⟩

set_option maxRecDepth 100000 in
set_option maxHeartbeats 4000000 in
theorem cuts_high (bd : Int) (h1 : 3000 < bd) (wk0 : Int) (w : World) : Calls Try.prog 7 #[.int .i64 bd, .int .i64 wk0] w fun e w' => e = .returned (.bool true) ∧ Below w.heap.size w w' := by
  have hmf : ∀ (fn : Fn) (first cap : Array Value) (w : World), (Instr.makeFunc fn first cap).run Try.prog w = .ok (.func fn first cap) w := fun _ _ _ _ => rfl
  go_enter Try.func7, Try.ntmps7
  go_wp2_with fail
  refine (works_at w).mono ?_
  rintro e w1 ⟨rfl, b1⟩
  have B1 := hide b1
  clear b1
  go_wp2_with fail
  refine (Among_at wk0 4000 (by omega) (by omega) w1).mono ?_
  rintro e w2 ⟨wk, hwk, rfl, rfl⟩
  obtain ⟨D, hD⟩ : ∃ D : Nat, (3000 : Int) = (D : Int) := ⟨3000, rfl⟩
  rw [hD]
  have hd1 : 0 < D := by omega
  have hd2 : D ≤ 3000 := by omega
  clear hD h1
  go_wp2_with fail
  have hz : ((w1.alloc (boxI 0)).alloc (boxI wk)).heap[w1.heap.size + 1]? = some (boxI wk) := by
    have := alloc_new (w1.alloc (boxI 0)) (boxI wk)
    simpa using this
  refine (work_at D wk w1.heap.size (w1.heap.size + 1) w1.heap.size _ (alloc_old _ (alloc_new _ _)) hz (by omega) (by omega) (by omega) (by omega) (by omega)).mono ?_
  rintro e w3 ⟨r, k, rfl, hk, ⟨hr1, hr2⟩, b3⟩
  have B3 : Hid (Below w.heap.size w w3) := Below.then B1.out ((Below.alw (Below.alw (Below.refl _ _) _) _).trans b3)
  clear hz b3 B1
  rcases (show (D ≤ wk ∧ 0 < D) ∨ (D = wk + 1 ∧ 0 < wk) ∨ (wk + 1 < D ∧ 0 < wk) ∨ (D = 1 ∧ wk = 0) ∨ (1 < D ∧ wk = 0) by omega) with ⟨g0, g1⟩ | ⟨g0, g1⟩ | ⟨g0, g1⟩ | ⟨g0, g1⟩ | ⟨g0, g1⟩
  · obtain rfl : D = r := by omega
    obtain rfl : D = k := by omega
    have c0 := boxI_cell hk
    clear hr1 hr2 hk
    go_wp2_with fail
    refine (work_nil _ w3).mono ?_
    rintro e w4 ⟨rfl, rfl⟩
    go_wp2_with fail
    go_ret
    exact ⟨rfl, B3.out⟩
  · subst g0
    obtain rfl : wk = r := by omega
    obtain rfl : wk + 1 = k := by omega
    have c0 := boxI_cell hk
    clear hr1 hr2 hk
    go_wp2_with fail
    refine (work_nil _ w3).mono ?_
    rintro e w4 ⟨rfl, rfl⟩
    go_wp2_with fail
    go_ret
    exact ⟨rfl, B3.out⟩
  · obtain rfl : wk = r := by omega
    obtain rfl : wk + 1 = k := by omega
    have c0 := boxI_cell hk
    clear hr1 hr2 hk
    go_wp2_with fail
    refine (work_nil _ w3).mono ?_
    rintro e w4 ⟨rfl, rfl⟩
    go_wp2_with fail
    go_ret
    exact ⟨rfl, B3.out⟩
  · subst g0
    subst g1
    obtain rfl : 0 = r := by omega
    obtain rfl : 1 = k := by omega
    have c0 := boxI_cell hk
    clear hr1 hr2 hk
    go_wp2_with fail
    refine (work_nil _ w3).mono ?_
    rintro e w4 ⟨rfl, rfl⟩
    go_wp2_with fail
    go_ret
    exact ⟨rfl, B3.out⟩
  · subst g1
    obtain rfl : 0 = r := by omega
    obtain rfl : 1 = k := by omega
    have c0 := boxI_cell hk
    clear hr1 hr2 hk
    go_wp2_with fail
    refine (work_nil _ w3).mono ?_
    rintro e w4 ⟨rfl, rfl⟩
    go_wp2_with fail
    go_ret
    exact ⟨rfl, B3.out⟩

theorem cuts_walk (bd wk0 : Int) (w : World) : Calls Try.prog 7 #[.int .i64 bd, .int .i64 wk0] w fun e w' => e = .returned (.bool true) ∧ Below w.heap.size w w' := by
  rcases (show bd ≤ -5 ∨ (-5 < bd ∧ bd ≤ 0) ∨ (0 < bd ∧ bd ≤ 3000) ∨ 3000 < bd by omega) with h1 | ⟨h1, h2⟩ | ⟨h1, h2⟩ | h1
  · exact cuts_low bd h1 wk0 w
  · exact cuts_zero bd h1 h2 wk0 w
  · obtain ⟨D, rfl⟩ := Int.eq_ofNat_of_zero_le (show 0 ≤ bd by omega)
    exact cuts_mid D (by omega) (by omega) wk0 w
  · exact cuts_high bd h1 wk0 w

end Go.Proofs.Ytidalhdhaagpaaa
