/-
  Check and checkTick of package sched, Check and look of the reference; conditions as each theorem has them.
-/
import Derived.Test.YtidalhdhaagpaaaB
set_option linter.unusedSimpArgs false
set_option linter.unusedVariables false
namespace Go.Proofs.Ytidalhdhaagpaaa
open Go.RowKit

def SeenIs (ob : Bool) (T : List (Int × Int)) (k : Nat) : Prop := ob = true ↔ seen T k

set_option maxRecDepth 100000 in
set_option maxHeartbeats 1000000 in
theorem check_at (a : Option Addr) (b o n cap : Nat) (T : List (Int × Int)) (w : World) (h : Tab w a b o n T) :
    Calls Try.prog 14 #[.slice a n cap] w fun e w' => e = .returned (.int .i64 (errT T)) ∧ Below w.heap.size w w' := by
  have hlen := h.len
  have hmax := h.max
  by_cases hn : n < 1 ∨ 64 < n
  · rw [errT_bad (fun g => by have := g.pos; have := g.max; omega)]
    clear h hlen
    rcases hn with hn | hn
    · have e1 : decide ((n : Int) < 1) = true := by simp; omega
      have e1' : decide (n < 1) = true := by simp; omega
      go_enter Try.func14, Try.ntmps14
      go_wp2
      go_ret
      exact ⟨rfl, Below.refl _ _⟩
    · have e1 : decide ((n : Int) < 1) = false := by simp; omega
      have e1' : decide (n < 1) = false := by simp; omega
      have e2 : decide ((64 : Int) < n) = true := by simp; omega
      have e2' : decide (64 < n) = true := by simp; omega
      go_enter Try.func14, Try.ntmps14
      go_wp2
      go_ret
      exact ⟨rfl, Below.refl _ _⟩
  · have e1 : decide ((n : Int) < 1) = false := by simp; omega
    have e1' : decide (n < 1) = false := by simp; omega
    have e2 : decide ((64 : Int) < n) = false := by simp; omega
    have e2' : decide (64 < n) = false := by simp; omega
    obtain ⟨rfl, hb⟩ := h.ptr (by omega)
    have hn2 : n ≤ 64 := by omega
    have HLEN := hide hlen
    have H := hide h
    clear h hn hlen hmax
    go_enter Try.func14, Try.ntmps14
    go_wp2_with fail
    go_loopw [3, 16] (fun s i wr => ∃ (k : Nat) (ob : Bool), k ≤ n ∧ i = .int .i64 k ∧ s = .bool ob ∧ Hid (SeenIs ob T k) ∧ Hid (oks T k) ∧ Hid (Below w.heap.size w wr)) (fun _ i _ => n - (intOf i).toNat)
    case atStart => exact ⟨0, false, Nat.zero_le _, rfl, rfl, ⟨fun e => (by cases e), fun ⟨j, _, hj, _⟩ => by omega⟩, fun j p hj => by omega, Below.refl _ _⟩
    case round =>
      obtain ⟨k, ob, hk, rfl, rfl, HS, HO, HB⟩ := hrel
      by_cases hlt : k < n
      · obtain ⟨p, hp⟩ := get_lt (show k < T.length by rw [HLEN.out]; exact hlt)
        have ht := H.out.below HB.out
        obtain ⟨c0, c1⟩ := ht.cells k p hp
        have hbr := (ht.ptr (by omega)).2
        obtain ⟨x, y⟩ := p
        simp only at c0 c1
        have HP := hide hp
        clear hp ht
        by_cases hok : okSlot (x, y)
        · have HC := hide (isSlot_ok x y (wr.alloc (boxS x y)) hok)
          have HOK := hide hok
          clear hok
          go_wp2_with fail
          refine HC.out.mono ?_
          rintro e w2 ⟨rfl, hb2⟩
          have q0 : w2.cell? ⟨wr.heap.size, 0, none⟩ = some (.int .i64 x) := (hb2.cell (p := ⟨wr.heap.size, 0, none⟩) (by simp)).trans (by simp only [World.cell?, alloc_new]; rfl)
          have HB2 : Hid (Below w.heap.size w w2) := Below.then HB.out (below_new _ hb2)
          clear hb2 HC
          have hx : x < 0 ∨ 0 ≤ x := by omega
          cases ob
          · rcases hx with hx | hx
            · have e3 : decide (0 ≤ x) = false := by simp; omega
              go_wp2_with fail
              go_roundw
              case rel => exact ⟨k + 1, false, by omega, by go_num, rfl, ⟨fun e => (by cases e), fun e => absurd e (seen_not (fun g => by have := HS.out.2 g; cases this) HP.out hx)⟩, oks_succ HO.out HP.out HOK.out, HB2.out⟩
              case measure => simp [intOf]; omega
            · have e3 : decide (0 ≤ x) = true := by simp; omega
              go_wp2_with fail
              go_roundw
              case rel => exact ⟨k + 1, true, by omega, by go_num, rfl, ⟨fun _ => seen_here HP.out hx, fun _ => rfl⟩, oks_succ HO.out HP.out HOK.out, HB2.out⟩
              case measure => simp [intOf]; omega
          · go_wp2_with fail
            go_roundw
            case rel => exact ⟨k + 1, true, by omega, by go_num, rfl, ⟨fun _ => seen_more (HS.out.1 rfl), fun _ => rfl⟩, oks_succ HO.out HP.out HOK.out, HB2.out⟩
            case measure => simp [intOf]; omega
        · have HC := hide (isSlot_bad x y (wr.alloc (boxS x y)) hok)
          have HOK := hide hok
          clear hok
          go_wp2_with fail
          refine HC.out.mono ?_
          rintro e w2 ⟨rfl, hb2⟩
          have HB2 : Hid (Below w.heap.size w w2) := Below.then HB.out (below_new _ hb2)
          clear hb2 HC
          go_wp2_with fail
          go_ret
          rw [errT_bad (oks_not HP.out HOK.out)]
          exact ⟨rfl, HB2.out⟩
      · have hkn : k = n := by omega
        have HKN := hide hkn
        clear hkn
        cases ob
        · go_wp2_with fail
          go_ret
          rw [errT_bad (fun g => by have := HS.out.2 (by rw [HKN.out, ← HLEN.out]; exact g.seen); cases this)]
          exact ⟨rfl, HB.out⟩
        · go_wp2_with fail
          go_ret
          rw [errT_good ⟨by rw [HLEN.out]; exact hn2, by rw [HLEN.out, ← HKN.out]; exact HO.out, by rw [HLEN.out, ← HKN.out]; exact HS.out.1 rfl⟩]
          exact ⟨rfl, HB.out⟩

end Go.Proofs.Ytidalhdhaagpaaa
