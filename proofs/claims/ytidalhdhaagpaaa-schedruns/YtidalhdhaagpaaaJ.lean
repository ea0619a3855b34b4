/-
  among, Own, When and Gap of the reference; conditions as each theorem has them.
-/
import Derived.Test.YtidalhdhaagpaaaI
set_option linter.unusedSimpArgs false
set_option linter.unusedVariables false
namespace Go.Proofs.Ytidalhdhaagpaaa
open Go.RowKit

theorem own_iff {T : List (Int × Int)} {t : Int} {k : Nat} {x y : Int} (h : T[k]? = some (x, y)) : own T t k ↔ x = t := own_low h

set_option maxHeartbeats 1000000 in
theorem among_at (T : List (Int × Int)) (t : Int) (b o n cp e : Nat) (w : World) (h : Tab w (some ⟨b, o, none⟩) b o n T) (hn : n ≤ 64) (he : e ≤ n) :
    Calls Try.prog 32 #[.slice (some ⟨b, o, none⟩) n cp, .int .i64 t, .int .i64 e] w fun x w' => x = .returned (.int .i64 (C T t e)) ∧ w = w' := by
  have hlen := h.len
  have H := hide h
  have HLEN := hide hlen
  clear h hlen
  go_enter Try.func32, Try.ntmps32
  go_wp2_with fail
  go_loopw [7, 8] (fun s i wr => ∃ (k c : Nat), k ≤ e ∧ c ≤ k ∧ i = .int .i64 k ∧ s = .int .i64 c ∧ Hid (c = C T t k) ∧ w = wr) (fun _ i _ => e - (intOf i).toNat)
  case atStart => exact ⟨0, 0, Nat.zero_le _, Nat.le_refl _, rfl, rfl, rfl, rfl⟩
  case round =>
    obtain ⟨k, c, hk, hck, rfl, rfl, HC, rfl⟩ := hrel
    by_cases hlt : k < e
    · obtain ⟨p, hp⟩ := get_lt (show k < T.length by rw [HLEN.out]; omega)
      obtain ⟨x, y⟩ := p
      obtain ⟨c0, c1⟩ := H.out.cells k _ hp
      simp only at c0 c1
      have hkn : k < n := by omega
      have HP := hide hp
      clear hp c1
      by_cases hx : x = t
      · subst hx
        go_wp2_with fail
        go_roundw
        case rel => exact ⟨k + 1, c + 1, by omega, by omega, by go_num, by go_num, by show c + 1 = C T x (k + 1); rw [C_own ((own_iff HP.out).2 rfl), HC.out], trivial⟩
        case measure => simp [intOf]; omega
      · have hx2 : (x == t) = false := by simp [hx]
        go_wp2_with fail
        go_roundw
        case rel => exact ⟨k + 1, c, by omega, by omega, by go_num, rfl, by show c = C T t (k + 1); rw [C_not (fun g => hx ((own_iff HP.out).1 g)), HC.out], trivial⟩
        case measure => simp [intOf]; omega
    · have hke : k = e := by omega
      have HKE := hide hke
      clear hke
      go_wp2_with fail
      go_ret
      exact ⟨by rw [HC.out, HKE.out]; rfl, rfl⟩

set_option maxHeartbeats 1000000 in
theorem rown_bad (a : Option Addr) (b o n cap : Nat) (T : List (Int × Int)) (t k c : Int) (w : World) (h : Tab w a b o n T) (hc : errK T k = c) (hc0 : c = 50 ∨ c = 2) :
    Calls Try.prog 18 #[.slice a n cap, .int .i64 t, .int .i64 k] w fun e w' => e = .returned (.tuple #[.int .i64 0, .int .i64 c]) ∧ Below w.heap.size w w' := by
  have HC := hide (rlook_at a b o n cap T k w h)
  rw [hc] at HC
  clear h hc
  rcases hc0 with rfl | rfl
  all_goals
    go_enter Try.func18, Try.ntmps18
    go_wp2_with fail
    refine HC.out.mono ?_
    rintro e w2 ⟨rfl, hb2⟩
    have HB := hide hb2
    clear hb2 HC
    go_wp2_with fail
    go_ret2
    exact ⟨rfl, HB.out⟩

set_option maxHeartbeats 1000000 in
theorem rown_arg (a : Option Addr) (b o n cap : Nat) (T : List (Int × Int)) (t k : Int) (w : World) (h : Tab w a b o n T) (hc : errK T k = 0) (ht : t < 0 ∨ (0 ≤ t ∧ 8 ≤ t)) :
    Calls Try.prog 18 #[.slice a n cap, .int .i64 t, .int .i64 k] w fun e w' => e = .returned (.tuple #[.int .i64 0, .int .i64 2]) ∧ Below w.heap.size w w' := by
  have HC := hide (rlook_at a b o n cap T k w h)
  rw [hc] at HC
  clear h hc
  rcases ht with ht | ⟨ht, ht2⟩
  · have e1 : decide (t < 0) = true := decide_eq_true (by omega)
    go_enter Try.func18, Try.ntmps18
    go_wp2_with fail
    refine HC.out.mono ?_
    rintro e w2 ⟨rfl, hb2⟩
    have HB := hide hb2
    clear hb2 HC
    go_wp2_with fail
    go_ret2
    exact ⟨rfl, HB.out⟩
  · have e1 : decide (t < 0) = false := decide_eq_false (by omega)
    have e2 : decide (8 ≤ t) = true := decide_eq_true (by omega)
    go_enter Try.func18, Try.ntmps18
    go_wp2_with fail
    refine HC.out.mono ?_
    rintro e w2 ⟨rfl, hb2⟩
    have HB := hide hb2
    clear hb2 HC
    go_wp2_with fail
    go_ret2
    exact ⟨rfl, HB.out⟩

end Go.Proofs.Ytidalhdhaagpaaa
