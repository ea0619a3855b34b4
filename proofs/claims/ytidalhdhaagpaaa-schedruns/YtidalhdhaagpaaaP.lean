/-
  The chapter's example, and a number made one below another; conditions as each theorem has them.
-/
import Derived.Test.YtidalhdhaagpaaaO
set_option linter.unusedSimpArgs false
set_option linter.unusedVariables false
namespace Go.Proofs.Ytidalhdhaagpaaa
open Go.RowKit

def exT : List (Int × Int) := [(0, 5), (1, 2), (0, 1)]
theorem exT_good : Good exT := by
  refine ⟨by decide, fun j p hj hp => ?_, ⟨0, (0, 5), by decide, rfl, by decide⟩⟩
  have hj3 : j < 3 := hj
  have : j = 0 ∨ j = 1 ∨ j = 2 := by omega
  rcases this with rfl | rfl | rfl
  all_goals
    simp [exT] at hp
    subst hp
    exact ⟨by decide, by decide, by decide, by decide⟩
theorem exT_own (t : Int) (j : Nat) (p : Int × Int) (h : exT[j % 3]? = some p) : own exT t j ↔ p.1 = t := own_at h
theorem exT_C (j : Nat) (hj : j ≤ 5) : C exT 0 j = [0, 1, 1, 2, 3, 3].getD j 0 := by
  have : j = 0 ∨ j = 1 ∨ j = 2 ∨ j = 3 ∨ j = 4 ∨ j = 5 := by omega
  rcases this with rfl | rfl | rfl | rfl | rfl | rfl <;> decide
theorem exT_when : IsWhen exT 0 3 5 := ⟨(exT_own 0 5 (0, 1) rfl).2 rfl, exT_C 5 (by decide)⟩
theorem exT_c0 : 0 < C exT 0 3 := by rw [exT_C 3 (by decide)]; decide
theorem exT_c1 : 0 < C exT 1 3 := by
  have h := C_past (T := exT) (t := 1) (i := 1) (j := 3) ((exT_own 1 1 (1, 2) rfl).2 rfl) (by decide)
  omega
theorem exT_gap : IsGap exT 1 3 :=
  ⟨by decide, fun a ha => ⟨a + 3, by omega, Nat.le_refl _, (own_add exT 1 a).2 ha⟩, 1, (exT_own 1 1 (1, 2) rfl).2 rfl, fun b h1 h2 => by
    have : b = 2 ∨ b = 3 := by omega
    rcases this with rfl | rfl
    · exact fun e => by have := (exT_own 1 2 (0, 1) rfl).1 e; cases this
    · exact fun e => by have := (exT_own 1 3 (0, 5) rfl).1 e; cases this⟩

abbrev exB : Obj := .cells #[.int .i64 0, .int .i64 5, .int .i64 1, .int .i64 2, .int .i64 0, .int .i64 1] 25

theorem ex_tab (w : World) : Tab (w.alloc exB) (some ⟨w.heap.size, 0, none⟩) w.heap.size 0 3 exT :=
  ⟨rfl, fun _ => ⟨rfl, by simp⟩, fun i p hp => by
    have hi : i < 3 := (List.getElem?_eq_some_iff.1 hp).1
    have : i = 0 ∨ i = 1 ∨ i = 2 := by omega
    simp only [World.cell?, alloc_new]
    rcases this with rfl | rfl | rfl
    all_goals
      simp [exT] at hp
      subst hp
      exact ⟨rfl, rfl⟩, by decide⟩

set_option maxHeartbeats 400000 in
theorem example_at (w : World) : Calls Try.prog 29 #[] w fun e w' => ∃ g : Nat, e = .returned (.slice (some ⟨g, 0, none⟩) 3 3) ∧ Tab w' (some ⟨g, 0, none⟩) g 0 3 exT ∧ Below w.heap.size w w' := by
  go_enter Try.func29, Try.ntmps29
  go_wp2
  go_ret
  exact ⟨_, rfl, ex_tab w, Below.alw (Below.refl _ _) _⟩

theorem wrap_small (n : Int) (m : Nat) (hm : 0 < m) (hm1 : m ≤ 4611686018427387904) : ∃ k : Nat, k < m ∧ wrap64 ((IntKind.u64.wrap n).tmod m) = (k : Int) := by
  have hu : 0 ≤ IntKind.u64.wrap n := by
    have : IntKind.u64.wrap n = n % 18446744073709551616 := by simp [IntKind.wrap, IntKind.signed, IntKind.bits]
    rw [this]
    exact Int.emod_nonneg _ (by omega)
  generalize IntKind.u64.wrap n = u at hu
  rw [Int.tmod_eq_emod_of_nonneg hu]
  have h1 := Int.emod_nonneg u (show (m : Int) ≠ 0 by omega)
  have h2 := Int.emod_lt_of_pos u (show (0 : Int) < m by omega)
  refine ⟨(u % m).toNat, by omega, ?_⟩
  generalize u % (m : Int) = x at h1 h2
  rw [Int.toNat_of_nonneg h1]
  unfold wrap64
  omega

set_option maxHeartbeats 400000 in
theorem Among_at (n : Int) (m : Nat) (hm : 0 < m) (hm1 : m ≤ 4611686018427387904) (w : World) : Calls Try.prog 23 #[.int .i64 n, .int .i64 m] w fun e w' => ∃ k : Nat, k < m ∧ e = .returned (.int .i64 k) ∧ w = w' := by
  go_enter Try.func23, Try.ntmps23
  go_wp2
  go_ret
  obtain ⟨k, hk, e⟩ := wrap_small n m hm hm1
  exact ⟨k, hk, by rw [← e]; rfl, rfl⟩

theorem nil_tab (w : World) : Tab w none 0 0 0 [] := ⟨rfl, fun h => by omega, fun i p hp => by simp at hp, by decide⟩
theorem nil_bad : ¬ Good [] := fun g => by have := g.pos; simp at this

/-- A slot's box. -/
def Box (w : World) (b : Nat) (x y : Int) : Prop := w.heap[b]? = some (boxS x y)
theorem Box.cells {w : World} {b : Nat} {x y : Int} (h : Box w b x y) : w.cell? ⟨b, 0, none⟩ = some (.int .i64 x) ∧ w.cell? ⟨b, 1, none⟩ = some (.int .i64 y) := by
  unfold Box at h
  constructor
  · simp only [World.cell?, h]; rfl
  · simp only [World.cell?, h]; rfl
theorem Box.lt {w : World} {b : Nat} {x y : Int} (h : Box w b x y) : b < w.heap.size := lt_of_some h
theorem Box.below {w w' : World} {b : Nat} {x y : Int} (h : Box w b x y) (k : Below w.heap.size w w') : Box w' b x y := (k.block b h.lt).trans h
theorem Box.alloc {w : World} {b : Nat} {x y : Int} (h : Box w b x y) (o : Obj) : Box (w.alloc o) b x y := alloc_old o h
theorem box_new (w : World) (x y : Int) : Box (w.alloc (boxS x y)) w.heap.size x y := alloc_new _ _

set_option maxRecDepth 100000 in
set_option maxHeartbeats 2000000 in
theorem works_at (w : World) : Calls Try.prog 16 #[] w fun e w' => e = .returned (.bool true) ∧ Below w.heap.size w w' := by
  go_enter Try.func16, Try.ntmps16
  go_wp2_with fail
  refine (example_at w).mono ?_
  rintro e w1 ⟨g1, rfl, t1, b1⟩
  have B1 := hide b1
  have R1 : Hid (Calls Try.prog 9 #[.slice (some ⟨g1, 0, none⟩) 3 3, .int .i64 5] w1 fun e w' => e = .returned (.tuple #[slt 0 1, .int .i64 0]) ∧ Below w1.heap.size w1 w') :=
    run_ok (some ⟨g1, 0, none⟩) g1 0 3 3 exT 5 (0, 1) w1 t1 exT_good (by decide) rfl
  clear t1 b1
  go_wp2_with fail
  refine R1.out.mono ?_
  rintro e w2 ⟨rfl, b2⟩
  have B2 : Hid (Below w.heap.size w (w2.alloc (boxS 0 1))) := Below.alw (Below.then B1.out b2) _
  obtain ⟨x, hx⟩ : ∃ x, x = w2.heap.size := ⟨_, rfl⟩
  have X2 : Hid (Box (w2.alloc (boxS 0 1)) x 0 1) := by rw [hx]; exact box_new _ _ _
  clear b2 R1 B1
  have HX := hide hx
  clear hx
  go_wp2_with fail
  rw [← HX.out]
  refine (example_at _).mono ?_
  rintro e w3 ⟨g3, rfl, t3, b3⟩
  have B3 : Hid (Below w.heap.size w w3) := Below.then B2.out b3
  have X3 : Hid (Box w3 x 0 1) := X2.out.below b3
  have R3 : Hid (Calls Try.prog 17 #[.slice (some ⟨g3, 0, none⟩) 3 3, .int .i64 0, .int .i64 5] w3 fun e w' => e = .returned (.tuple #[.int .i64 3, .int .i64 0]) ∧ Below w3.heap.size w3 w') := by
    have := own_ok (some ⟨g3, 0, none⟩) g3 0 3 3 exT 0 5 w3 t3 exT_good (by decide) (by decide) (by decide)
    rw [exT_C 5 (by decide)] at this
    exact this
  clear t3 b3 B2 X2
  go_wp2_with fail
  refine R3.out.mono ?_
  rintro e w4 ⟨rfl, b4⟩
  have B4 : Hid (Below w.heap.size w w4) := Below.then B3.out b4
  have X4 : Hid (Box w4 x 0 1) := X3.out.below b4
  clear b4 R3 B3 X3
  go_wp2_with fail
  refine (example_at _).mono ?_
  rintro e w5 ⟨g5, rfl, t5, b5⟩
  have B5 : Hid (Below w.heap.size w w5) := Below.then B4.out b5
  have X5 : Hid (Box w5 x 0 1) := X4.out.below b5
  have R5 : Hid (Calls Try.prog 19 #[.slice (some ⟨g5, 0, none⟩) 3 3, .int .i64 0, .int .i64 3] w5 fun e w' => e = .returned (.tuple #[.int .i64 5, .int .i64 0]) ∧ Below w5.heap.size w5 w') := by
    refine (when_ok (some ⟨g5, 0, none⟩) g5 0 3 3 exT 0 3 w5 t5 exT_good (by decide) exT_c0 (by decide)).mono ?_
    rintro e w6 ⟨y, rfl, hy, hb⟩
    obtain rfl := hy.uniq exT_when
    exact ⟨by rw [whenV_le (by decide)]; rfl, hb⟩
  clear t5 b5 B4 X4
  go_wp2_with fail
  refine R5.out.mono ?_
  rintro e w6 ⟨rfl, b6⟩
  have B6 : Hid (Below w.heap.size w w6) := Below.then B5.out b6
  have X6 : Hid (Box w6 x 0 1) := X5.out.below b6
  clear b6 R5 B5 X5
  go_wp2_with fail
  refine (example_at _).mono ?_
  rintro e w7 ⟨g7, rfl, t7, b7⟩
  have B7 : Hid (Below w.heap.size w w7) := Below.then B6.out b7
  have X7 : Hid (Box w7 x 0 1) := X6.out.below b7
  have R7 : Hid (Calls Try.prog 21 #[.slice (some ⟨g7, 0, none⟩) 3 3, .int .i64 1] w7 fun e w' => e = .returned (.tuple #[.int .i64 3, .int .i64 0]) ∧ Below w7.heap.size w7 w') := by
    refine (gap_ok (some ⟨g7, 0, none⟩) g7 0 3 3 exT 1 w7 t7 exT_good (by decide) exT_c1).mono ?_
    rintro e w8 ⟨y, rfl, hy, hb⟩
    obtain rfl := hy.uniq exT_gap
    exact ⟨rfl, hb⟩
  clear t7 b7 B6 X6
  go_wp2_with fail
  refine R7.out.mono ?_
  rintro e w8 ⟨rfl, b8⟩
  have B8 : Hid (Below w.heap.size w w8) := Below.then B7.out b8
  have X8 : Hid (Box w8 x 0 1) := X7.out.below b8
  obtain ⟨q0, q1⟩ := X8.out.cells
  have R8 : Hid (Calls Try.prog 14 #[.slice none 0 0] w8 fun e w' => e = .returned (.int .i64 50) ∧ Below w8.heap.size w8 w') := by
    have := check_at none 0 0 0 0 [] w8 (nil_tab w8)
    rw [errT_bad nil_bad] at this
    exact this
  clear b8 R7 B7 X7
  go_wp2_with fail
  refine R8.out.mono ?_
  rintro e w9 ⟨rfl, b9⟩
  have B9 : Hid (Below w.heap.size w w9) := Below.then B8.out b9
  clear b9 R8 B8 X8
  go_wp2_with fail
  go_ret
  exact ⟨rfl, B9.out⟩

end Go.Proofs.Ytidalhdhaagpaaa
