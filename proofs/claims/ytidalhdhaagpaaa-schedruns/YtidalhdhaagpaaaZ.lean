/-
  SchedRuns' walk; conditions as each theorem has them.
-/
import Derived.Test.YtidalhdhaagpaaaY
set_option linter.unusedSimpArgs false
set_option linter.unusedVariables false
namespace Go.Proofs.Ytidalhdhaagpaaa
open Go.RowKit

set_option maxRecDepth 100000 in
set_option maxHeartbeats 4000000 in
theorem runs_walk (a : Option Addr) (b o n cap : Nat) (T : List (Int × Int)) (k : Int) (w : World) (h : Tab w a b o n T) (hnil : a = none → cap = 0) :
    Calls Try.prog 3 #[.slice a n cap, .int .i64 k] w fun e w' => e = .returned (.bool true) ∧ Below w.heap.size w w' := by
  obtain ⟨x, y, c, F, bb, hs⟩ := tick_says T n h.len k
  have hmax := h.max
  have HCP := hide (copied_at a b o n cap T w h hnil)
  have HLEN := hide h.len
  have H := hide h
  have hw := hs.want
  have HS := hide hs
  clear h hnil hs
  rcases hw with ⟨hc, rfl⟩ | ⟨rfl, hnz, r, hr, ⟨rfl, rfl⟩ | ⟨hr0, rfl⟩⟩
  case' inl =>
    have e1 : (c == 0) = false := by simp [hc]
  case' inr.inr =>
    have e2 : ((r : Int) == 0) = false := by simp; omega
    have e2' : ¬ (r = 0) := by omega
  all_goals
    go_enter Try.func3, Try.ntmps3
    go_wp2_with fail
    refine HCP.out.mono ?_
    rintro e w1 ⟨a', b', o', c', rfl, t1, b1⟩
    have B1 := hide b1
    have T1 := hide t1
    clear t1 b1 HCP
    go_wp2_with fail
    refine (HS.out.run a' b' o' c' w1 T1.out).mono ?_
    rintro e w2 ⟨rfl, b2⟩
    obtain ⟨x6, hx6⟩ : ∃ x6, x6 = w2.heap.size := ⟨_, rfl⟩
    have B2 : Hid (Below w.heap.size w (w2.alloc (boxS x y))) := Below.alw (Below.then B1.out b2) _
    have T2 : Hid (Tab (w2.alloc (boxS x y)) a' b' o' n T) := (T1.out.below b2).alloc _
    have X2 : Hid (Box (w2.alloc (boxS x y)) x6 x y) := by rw [hx6]; exact box_new _ _ _
    have HX6 := hide hx6
    clear b2 B1 T1 hx6
    go_wp2_with fail
    rw [← HX6.out]
    refine (HS.out.rrun a b o cap _ (H.out.below B2.out)).mono ?_
    rintro e w3 ⟨rfl, b3⟩
    obtain ⟨x8, hx8⟩ : ∃ x8, x8 = w3.heap.size := ⟨_, rfl⟩
    have B3 : Hid (Below w.heap.size w (w3.alloc (boxS x y))) := Below.alw (Below.then B2.out b3) _
    have T3 : Hid (Tab (w3.alloc (boxS x y)) a' b' o' n T) := (T2.out.below b3).alloc _
    have X3 : Hid (Box (w3.alloc (boxS x y)) x6 x y) := (X2.out.below b3).alloc _
    have Y3 : Hid (Box (w3.alloc (boxS x y)) x8 x y) := by rw [hx8]; exact box_new _ _ _
    have HX8 := hide hx8
    clear b3 B2 T2 hx8 X2 HX6
    go_wp2_with fail
    rw [← HX8.out]
    refine (HS.out.frame a' b' o' c' _ T3.out).mono ?_
    rintro e w4 ⟨rfl, b4⟩
    have B4 : Hid (Below w.heap.size w w4) := Below.then B3.out b4
    have T4 : Hid (Tab w4 a' b' o' n T) := T3.out.below b4
    have X4 : Hid (Box w4 x6 x y) := X3.out.below b4
    have Y4 : Hid (Box w4 x8 x y) := Y3.out.below b4
    clear b4 B3 T3 X3 Y3 HX8
    go_wp2_with fail
    refine (HS.out.rframe a b o cap w4 (H.out.below B4.out)).mono ?_
    rintro e w5 ⟨rfl, b5⟩
    have B5 : Hid (Below w.heap.size w w5) := Below.then B4.out b5
    have T5 : Hid (Tab w5 a' b' o' n T) := T4.out.below b5
    have X5 : Hid (Box w5 x6 x y) := X4.out.below b5
    have Y5 : Hid (Box w5 x8 x y) := Y4.out.below b5
    clear b5 B4 T4 X4 Y4
    go_wp2_with fail
    refine (HS.out.bound a' b' o' c' w5 T5.out).mono ?_
    rintro e w6 ⟨rfl, b6⟩
    have B6 : Hid (Below w.heap.size w w6) := Below.then B5.out b6
    have T6 : Hid (Tab w6 a' b' o' n T) := T5.out.below b6
    have X6 : Hid (Box w6 x6 x y) := X5.out.below b6
    have Y6 : Hid (Box w6 x8 x y) := Y5.out.below b6
    clear b6 B5 T5 X5 Y5
    go_wp2_with fail
    go_loopw [17] (fun i wr => ∃ j : Nat, j ≤ n ∧ i = .int .i64 j ∧ Hid (Below w.heap.size w wr ∧ Tab wr a' b' o' n T ∧ Box wr x6 x y ∧ Box wr x8 x y)) (fun i _ => n - (intOf i).toNat)
    case atStart => exact ⟨0, Nat.zero_le _, rfl, B6.out, T6.out, X6.out, Y6.out⟩
    case round =>
      clear B6 T6 X6 Y6
      obtain ⟨j, hj, rfl, HI⟩ := hrel
      by_cases hlt : j < n
      · obtain ⟨p, hp⟩ := get_lt (show j < T.length by rw [HLEN.out]; exact hlt)
        have hn0 : 0 < n := by omega
        have ht := H.out.below HI.out.1
        obtain ⟨rfl, hb1⟩ := ht.ptr hn0
        obtain ⟨rfl, hb2⟩ := HI.out.2.1.ptr hn0
        obtain ⟨u0, u1⟩ := ht.cells j p hp
        obtain ⟨v0, v1⟩ := HI.out.2.1.cells j p hp
        obtain ⟨p0, p1⟩ := p
        simp only at u0 u1 v0 v1
        have hjI : (j : Int) < n := by omega
        clear ht hp
        go_wp2_with fail
        go_quiet (fail)
        go_wp2_with fail
        go_roundw
        case rel => exact ⟨j + 1, by omega, by go_num, below_drewN HI.out.1 _, HI.out.2.1.drewN _, HI.out.2.2.1, HI.out.2.2.2⟩
        case measure => simp [intOf]; omega
      · obtain ⟨q1, q2, q3, q4⟩ := HI.out
        have HC := hide (check_at a' b' o' n c' T wr q2)
        have BB := hide q1
        have XX := hide q3
        have YY := hide q4
        clear q1 q2 q3 q4 HI
        go_wp2_with fail
        refine HC.out.mono ?_
        rintro e w7 ⟨rfl, b7⟩
        have B7 : Hid (Below w.heap.size w w7) := Below.then BB.out b7
        have X7 : Hid (Box w7 x6 x y) := XX.out.below b7
        have Y7 : Hid (Box w7 x8 x y) := YY.out.below b7
        have HC2 := hide (rcheck_at a b o n cap T w7 (H.out.below B7.out))
        clear b7 BB XX YY HC
        obtain ⟨E, hE⟩ : ∃ E, E = errT T := ⟨_, rfl⟩
        rw [← hE] at HC2 ⊢
        clear hE
        go_wp2_with fail
        refine HC2.out.mono ?_
        rintro e w8 ⟨rfl, b8⟩
        have B8 : Hid (Below w.heap.size w w8) := Below.then B7.out b8
        have X8 : Hid (Box w8 x6 x y) := X7.out.below b8
        have Y8 : Hid (Box w8 x8 x y) := Y7.out.below b8
        obtain ⟨k0, k1⟩ := X8.out.cells
        obtain ⟨l0, l1⟩ := Y8.out.cells
        clear b8 B7 X7 Y7 HC2
        go_wp2_with fail
        refine (works_at w8).mono ?_
        rintro e w9 ⟨rfl, b9⟩
        have B9 : Hid (Below w.heap.size w w9) := Below.then B8.out b9
        clear b9 B8
        go_wp2_with fail
        go_ret
        exact ⟨rfl, B9.out⟩

end Go.Proofs.Ytidalhdhaagpaaa
