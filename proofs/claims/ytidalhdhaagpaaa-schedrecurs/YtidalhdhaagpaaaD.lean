/-
  checkTick of package sched, Check and look of the reference; conditions as each theorem has them.
-/
import Derived.Test.YtidalhdhaagpaaaC
set_option linter.unusedSimpArgs false
set_option linter.unusedVariables false
namespace Go.Proofs.Ytidalhdhaagpaaa
open Go.RowKit

/-- What a table and a tick are answered. -/
noncomputable def errK (T : List (Int × Int)) (k : Int) : Int := @ite Int (Good T) (Classical.propDecidable _) (if 0 ≤ k ∧ k ≤ 1099511627776 then 0 else 2) 50
theorem errK_bad {T : List (Int × Int)} (h : ¬ Good T) (k : Int) : errK T k = 50 := if_neg h
theorem errK_ok {T : List (Int × Int)} (h : Good T) {k : Int} (hk : 0 ≤ k ∧ k ≤ 1099511627776) : errK T k = 0 := by unfold errK; rw [if_pos h, if_pos hk]
theorem errK_arg {T : List (Int × Int)} (h : Good T) {k : Int} (hk : ¬ (0 ≤ k ∧ k ≤ 1099511627776)) : errK T k = 2 := by unfold errK; rw [if_pos h, if_neg hk]

set_option maxHeartbeats 400000 in
theorem tick_at (a : Option Addr) (b o n cap : Nat) (T : List (Int × Int)) (k : Int) (w : World) (h : Tab w a b o n T) :
    Calls Try.prog 26 #[.slice a n cap, .int .i64 k] w fun e w' => e = .returned (.int .i64 (errK T k)) ∧ Below w.heap.size w w' := by
  have HC := hide (check_at a b o n cap T w h)
  clear h
  by_cases hg : Good T
  · rw [errT_good hg] at HC
    by_cases hk : 0 ≤ k ∧ k ≤ 1099511627776
    · rw [errK_ok hg hk]
      have e1 : decide (k < 0) = false := by simp; omega
      have e2 : decide (1099511627776 < k) = false := by simp; omega
      clear hg hk
      go_enter Try.func26, Try.ntmps26
      go_wp2_with fail
      refine HC.out.mono ?_
      rintro e w2 ⟨rfl, hb2⟩
      have HB := hide hb2
      clear hb2
      go_wp2_with fail
      go_ret
      exact ⟨rfl, HB.out⟩
    · rw [errK_arg hg hk]
      have hk2 : k < 0 ∨ (0 ≤ k ∧ 1099511627776 < k) := by omega
      clear hg hk
      rcases hk2 with hk | ⟨hk0, hk⟩
      · have e1 : decide (k < 0) = true := by simp; omega
        go_enter Try.func26, Try.ntmps26
        go_wp2_with fail
        refine HC.out.mono ?_
        rintro e w2 ⟨rfl, hb2⟩
        have HB := hide hb2
        clear hb2
        go_wp2_with fail
        go_ret
        exact ⟨rfl, HB.out⟩
      · have e1 : decide (k < 0) = false := by simp; omega
        have e2 : decide (1099511627776 < k) = true := by simp; omega
        go_enter Try.func26, Try.ntmps26
        go_wp2_with fail
        refine HC.out.mono ?_
        rintro e w2 ⟨rfl, hb2⟩
        have HB := hide hb2
        clear hb2
        go_wp2_with fail
        go_ret
        exact ⟨rfl, HB.out⟩
  · rw [errT_bad hg] at HC
    rw [errK_bad hg]
    clear hg
    go_enter Try.func26, Try.ntmps26
    go_wp2_with fail
    refine HC.out.mono ?_
    rintro e w2 ⟨rfl, hb2⟩
    have HB := hide hb2
    clear hb2
    go_wp2_with fail
    go_ret
    exact ⟨rfl, HB.out⟩

set_option maxRecDepth 100000 in
set_option maxHeartbeats 1000000 in
theorem rcheck_at (a : Option Addr) (b o n cap : Nat) (T : List (Int × Int)) (w : World) (h : Tab w a b o n T) :
    Calls Try.prog 15 #[.slice a n cap] w fun e w' => e = .returned (.int .i64 (errT T)) ∧ Below w.heap.size w w' := by
  have hlen := h.len
  have hmax := h.max
  have HLEN := hide hlen
  have H := hide h
  clear h hlen
  go_enter Try.func15, Try.ntmps15
  go_wp2_with fail
  go_loopw [3, 4] (fun s i wr => ∃ (k : Nat) (ob : Bool), k ≤ n ∧ i = .int .i64 k ∧ s = .bool ob ∧ Hid (SeenIs ob T k) ∧ Hid (oks T k) ∧ Hid (Below w.heap.size w wr)) (fun _ i _ => n - (intOf i).toNat)
  case atStart => exact ⟨0, false, Nat.zero_le _, rfl, rfl, ⟨fun e => (by cases e), fun ⟨j, _, hj, _⟩ => by omega⟩, fun j p hj => by omega, Below.refl _ _⟩
  case round =>
    obtain ⟨k, ob, hk, rfl, rfl, HS, HO, HB⟩ := hrel
    by_cases hlt : k < n
    · obtain ⟨p, hp⟩ := get_lt (show k < T.length by rw [HLEN.out]; exact hlt)
      have ht := H.out.below HB.out
      obtain ⟨c0, c1⟩ := ht.cells k p hp
      obtain ⟨rfl, hbr⟩ := ht.ptr (by omega)
      obtain ⟨x, y⟩ := p
      simp only at c0 c1
      have HP := hide hp
      clear hp ht
      by_cases hok : okSlot (x, y)
      · have HOK := hide hok
        obtain ⟨h1, h2, h3, h4⟩ := hok
        simp only at h1 h2 h3 h4
        have e1 : decide (x < -1) = false := by simp; omega
        have e2 : decide (8 ≤ x) = false := by simp; omega
        have e3 : decide (y < 1) = false := by simp; omega
        have e4 : decide (4096 < y) = false := by simp; omega
        have hx : x < 0 ∨ 0 ≤ x := by omega
        have HB2 : Hid (Below w.heap.size w (wr.alloc (boxS x y))) := Below.alw HB.out _
        cases ob
        · rcases hx with hx | hx
          · have e5 : decide (0 ≤ x) = false := by simp; omega
            go_wp2_with fail
            go_roundw
            case rel => exact ⟨k + 1, false, by omega, by go_num, rfl, ⟨fun e => (by cases e), fun e => absurd e (seen_not (fun g => by have := HS.out.2 g; cases this) HP.out hx)⟩, oks_succ HO.out HP.out HOK.out, HB2.out⟩
            case measure => simp [intOf]; omega
          · have e5 : decide (0 ≤ x) = true := by simp; omega
            go_wp2_with fail
            go_roundw
            case rel => exact ⟨k + 1, true, by omega, by go_num, rfl, ⟨fun _ => seen_here HP.out hx, fun _ => rfl⟩, oks_succ HO.out HP.out HOK.out, HB2.out⟩
            case measure => simp [intOf]; omega
        · go_wp2_with fail
          go_roundw
          case rel => exact ⟨k + 1, true, by omega, by go_num, rfl, ⟨fun _ => seen_more (HS.out.1 rfl), fun _ => rfl⟩, oks_succ HO.out HP.out HOK.out, HB2.out⟩
          case measure => simp [intOf]; omega
      · have h' : x < -1 ∨ (-1 ≤ x ∧ 8 ≤ x) ∨ (-1 ≤ x ∧ x < 8 ∧ y < 1) ∨ (-1 ≤ x ∧ x < 8 ∧ 1 ≤ y ∧ 4096 < y) := by
          rcases Int.lt_or_le x (-1) with g | g
          · exact Or.inl g
          rcases Int.lt_or_le x 8 with g2 | g2
          · rcases Int.lt_or_le y 1 with g3 | g3
            · exact Or.inr (Or.inr (Or.inl ⟨g, g2, g3⟩))
            · rcases Int.lt_or_le 4096 y with g4 | g4
              · exact Or.inr (Or.inr (Or.inr ⟨g, g2, g3, g4⟩))
              · exact absurd ⟨g, g2, g3, g4⟩ hok
          · exact Or.inr (Or.inl ⟨g, g2⟩)
        have HBAD := hide (errT_bad (oks_not HP.out hok))
        clear hok
        rcases h' with h1 | ⟨h1, h2⟩ | ⟨h1, h2, h3⟩ | ⟨h1, h2, h3, h4⟩
        · have e1 : decide (x < -1) = true := by simp; omega
          go_wp2_with fail
          go_ret
          rw [HBAD.out]
          exact ⟨rfl, Below.alw HB.out _⟩
        · have e1 : decide (x < -1) = false := by simp; omega
          have e2 : decide (8 ≤ x) = true := by simp; omega
          go_wp2_with fail
          go_ret
          rw [HBAD.out]
          exact ⟨rfl, Below.alw HB.out _⟩
        · have e1 : decide (x < -1) = false := by simp; omega
          have e2 : decide (8 ≤ x) = false := by simp; omega
          have e3 : decide (y < 1) = true := by simp; omega
          go_wp2_with fail
          go_ret
          rw [HBAD.out]
          exact ⟨rfl, Below.alw HB.out _⟩
        · have e1 : decide (x < -1) = false := by simp; omega
          have e2 : decide (8 ≤ x) = false := by simp; omega
          have e3 : decide (y < 1) = false := by simp; omega
          have e4 : decide (4096 < y) = true := by simp; omega
          go_wp2_with fail
          go_ret
          rw [HBAD.out]
          exact ⟨rfl, Below.alw HB.out _⟩
    · have hkn : k = n := by omega
      have HKN := hide hkn
      clear hkn
      cases ob
      · go_wp2_with fail
        go_ret
        rw [errT_bad (fun g => by have := HS.out.2 (by rw [HKN.out, ← HLEN.out]; exact g.seen); cases this)]
        exact ⟨rfl, HB.out⟩
      · have hc : 64 < n ∨ n ≤ 64 := by omega
        rcases hc with hc | hc
        · have e1 : decide ((64 : Int) < n) = true := by simp; omega
          have e1' : decide (64 < n) = true := by simp; omega
          go_wp2_with fail
          go_ret
          rw [errT_bad (fun g => by have := g.max; rw [HLEN.out] at this; omega)]
          exact ⟨rfl, HB.out⟩
        · have e1 : decide ((64 : Int) < n) = false := by simp; omega
          have e1' : decide (64 < n) = false := by simp; omega
          go_wp2_with fail
          go_ret
          rw [errT_good ⟨by rw [HLEN.out]; exact hc, by rw [HLEN.out, ← HKN.out]; exact HO.out, by rw [HLEN.out, ← HKN.out]; exact HS.out.1 rfl⟩]
          exact ⟨rfl, HB.out⟩

set_option maxHeartbeats 400000 in
theorem rlook_at (a : Option Addr) (b o n cap : Nat) (T : List (Int × Int)) (k : Int) (w : World) (h : Tab w a b o n T) :
    Calls Try.prog 27 #[.slice a n cap, .int .i64 k] w fun e w' => e = .returned (.int .i64 (errK T k)) ∧ Below w.heap.size w w' := by
  have HC := hide (rcheck_at a b o n cap T w h)
  clear h
  by_cases hg : Good T
  · rw [errT_good hg] at HC
    by_cases hk : 0 ≤ k ∧ k ≤ 1099511627776
    · rw [errK_ok hg hk]
      have e1 : decide (k < 0) = false := by simp; omega
      have e2 : decide (1099511627776 < k) = false := by simp; omega
      clear hg hk
      go_enter Try.func27, Try.ntmps27
      go_wp2_with fail
      refine HC.out.mono ?_
      rintro e w2 ⟨rfl, hb2⟩
      have HB := hide hb2
      clear hb2
      go_wp2_with fail
      go_ret
      exact ⟨rfl, HB.out⟩
    · rw [errK_arg hg hk]
      have hk2 : k < 0 ∨ (0 ≤ k ∧ 1099511627776 < k) := by omega
      clear hg hk
      rcases hk2 with hk | ⟨hk0, hk⟩
      · have e1 : decide (k < 0) = true := by simp; omega
        go_enter Try.func27, Try.ntmps27
        go_wp2_with fail
        refine HC.out.mono ?_
        rintro e w2 ⟨rfl, hb2⟩
        have HB := hide hb2
        clear hb2
        go_wp2_with fail
        go_ret
        exact ⟨rfl, HB.out⟩
      · have e1 : decide (k < 0) = false := by simp; omega
        have e2 : decide (1099511627776 < k) = true := by simp; omega
        go_enter Try.func27, Try.ntmps27
        go_wp2_with fail
        refine HC.out.mono ?_
        rintro e w2 ⟨rfl, hb2⟩
        have HB := hide hb2
        clear hb2
        go_wp2_with fail
        go_ret
        exact ⟨rfl, HB.out⟩
  · rw [errT_bad hg] at HC
    rw [errK_bad hg]
    clear hg
    go_enter Try.func27, Try.ntmps27
    go_wp2_with fail
    refine HC.out.mono ?_
    rintro e w2 ⟨rfl, hb2⟩
    have HB := hide hb2
    clear hb2
    go_wp2_with fail
    go_ret
    exact ⟨rfl, HB.out⟩

end Go.Proofs.Ytidalhdhaagpaaa
