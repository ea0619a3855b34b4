/-
  When of the reference; conditions as each theorem has them.
-/
import Derived.Test.YtidalhdhaagpaaaK
set_option linter.unusedSimpArgs false
set_option linter.unusedVariables false
namespace Go.Proofs.Ytidalhdhaagpaaa
open Go.RowKit

set_option maxHeartbeats 1000000 in
theorem rwhen_bad (a : Option Addr) (b o n cap : Nat) (T : List (Int × Int)) (t k : Int) (w : World) (h : Tab w a b o n T) (hg : ¬ Good T) :
    Calls Try.prog 20 #[.slice a n cap, .int .i64 t, .int .i64 k] w fun e w' => e = .returned (.tuple #[.int .i64 0, .int .i64 50]) ∧ Below w.heap.size w w' := by
  have HC := hide (rcheck_at a b o n cap T w h)
  rw [errT_bad hg] at HC
  clear h hg
  go_enter Try.func20, Try.ntmps20
  go_wp2_with fail
  refine HC.out.mono ?_
  rintro e w2 ⟨rfl, hb2⟩
  have HB := hide hb2
  clear hb2 HC
  go_wp2_with fail
  go_ret2
  exact ⟨rfl, HB.out⟩

set_option maxHeartbeats 1000000 in
theorem rwhen_arg (a : Option Addr) (b o n cap : Nat) (T : List (Int × Int)) (t k : Int) (w : World) (h : Tab w a b o n T) (hg : Good T) (hc : t < 0 ∨ (0 ≤ t ∧ k < 0) ∨ (0 ≤ t ∧ 0 ≤ k ∧ C T t n = 0) ∨ (0 ≤ t ∧ 0 ≤ k ∧ 0 < C T t n ∧ 1099511627776 < k)) :
    Calls Try.prog 20 #[.slice a n cap, .int .i64 t, .int .i64 k] w fun e w' => e = .returned (.tuple #[.int .i64 0, .int .i64 2]) ∧ Below w.heap.size w w' := by
  have HC := hide (rcheck_at a b o n cap T w h)
  rw [errT_good hg] at HC
  obtain ⟨rfl, hb⟩ := h.ptr (hg.posn h)
  have hn1 := hg.maxn h
  have H := hide h
  clear h hg
  rcases hc with ht | ⟨ht, hk⟩ | ⟨ht, hk, hc⟩ | ⟨ht, hk, hc, hk2⟩
  · have e1 : decide (t < 0) = true := decide_eq_true (by omega)
    go_enter Try.func20, Try.ntmps20
    go_wp2_with fail
    refine HC.out.mono ?_
    rintro e w2 ⟨rfl, hb2⟩
    have HB := hide hb2
    clear hb2 HC
    go_wp2_with fail
    go_ret2
    exact ⟨rfl, HB.out⟩
  · have e1 : decide (t < 0) = false := decide_eq_false (by omega)
    have e2 : decide (k < 0) = true := decide_eq_true (by omega)
    go_enter Try.func20, Try.ntmps20
    go_wp2_with fail
    refine HC.out.mono ?_
    rintro e w2 ⟨rfl, hb2⟩
    have HB := hide hb2
    clear hb2 HC
    go_wp2_with fail
    go_ret2
    exact ⟨rfl, HB.out⟩
  · have e1 : decide (t < 0) = false := decide_eq_false (by omega)
    have e2 : decide (k < 0) = false := decide_eq_false (by omega)
    have HC0 := hide hc
    clear hc
    go_enter Try.func20, Try.ntmps20
    go_wp2_with fail
    refine HC.out.mono ?_
    rintro e w2 ⟨rfl, hb2⟩
    have HB := hide hb2
    have HA := hide (among_at T t b o n cap n w2 (H.out.below hb2) hn1 (Nat.le_refl _))
    rw [HC0.out] at HA
    clear hb2 HC
    go_wp2_with fail
    refine HA.out.mono ?_
    rintro e w3 ⟨rfl, rfl⟩
    clear HA
    go_wp2_with fail
    go_ret2
    exact ⟨rfl, HB.out⟩
  · have e1 : decide (t < 0) = false := decide_eq_false (by omega)
    have e2 : decide (k < 0) = false := decide_eq_false (by omega)
    have e3 : decide (1099511627776 < k) = true := decide_eq_true (by omega)
    obtain ⟨c, hcc⟩ : ∃ c, c = C T t n := ⟨_, rfl⟩
    rw [← hcc] at hc
    have HCC := hide hcc
    have e4 : ((c : Int) == 0) = false := by simp; omega
    have e4' : ¬ (c = 0) := by omega
    clear hcc
    go_enter Try.func20, Try.ntmps20
    go_wp2_with fail
    refine HC.out.mono ?_
    rintro e w2 ⟨rfl, hb2⟩
    have HB := hide hb2
    have HA := hide (among_at T t b o n cap n w2 (H.out.below hb2) hn1 (Nat.le_refl _))
    rw [← HCC.out] at HA
    clear hb2 HC
    go_wp2_with fail
    refine HA.out.mono ?_
    rintro e w3 ⟨rfl, rfl⟩
    clear HA
    go_wp2_with fail
    go_ret2
    exact ⟨rfl, HB.out⟩

set_option maxHeartbeats 4000000 in
theorem rwhen_ok (a : Option Addr) (b o n cap : Nat) (T : List (Int × Int)) (t : Int) (k : Nat) (w : World) (h : Tab w a b o n T) (hg : Good T) (ht : 0 ≤ t) (hp : 0 < C T t n) (hk : k ≤ 1099511627776) :
    Calls Try.prog 20 #[.slice a n cap, .int .i64 t, .int .i64 k] w fun e w' => ∃ x : Nat, e = .returned (whenV x) ∧ IsWhen T t k x ∧ Below w.heap.size w w' := by
  have HC := hide (rcheck_at a b o n cap T w h)
  rw [errT_good hg] at HC
  have hn0 := hg.posn h
  have hn1 := hg.maxn h
  have hlen := h.len
  obtain ⟨rfl, hb⟩ := h.ptr hn0
  have e0 : decide (t < 0) = false := decide_eq_false (by omega)
  have e1 : decide ((k : Int) < 0) = false := decide_eq_false (by omega)
  have e2 : decide (1099511627776 < (k : Int)) = false := decide_eq_false (by omega)
  have e2' : decide (1099511627776 < k) = false := decide_eq_false (by omega)
  obtain ⟨m, hm⟩ : ∃ m, m = C T t n := ⟨_, rfl⟩
  rw [← hm] at hp
  have hm1 : m ≤ 64 := by rw [hm]; exact Nat.le_trans (C_le T t n) hn1
  have e3 : ((m : Int) == 0) = false := by simp; omega
  have hmz : ¬ ((m : Int) = 0) := by omega
  have hmz' : ¬ (m = 0) := by omega
  obtain ⟨q, hq⟩ : ∃ q, q = k / m := ⟨_, rfl⟩
  obtain ⟨r, hr⟩ : ∃ r, r = k % m := ⟨_, rfl⟩
  have hrem : (k : Int).tmod (m : Int) = (r : Int) := by rw [hr]; exact rem_nat k m
  have hquo : (k : Int).tdiv (m : Int) = (q : Int) := by rw [hq]; exact quo_nat k m
  have hrm : r < m := by rw [hr]; exact Nat.mod_lt _ hp
  have hqk : q ≤ k := by rw [hq]; exact Nat.div_le_self _ _
  obtain ⟨P, hP⟩ : ∃ P, P = q * n := ⟨_, rfl⟩
  have hmul : (q : Int) * (n : Int) = (P : Int) := by rw [hP]; rfl
  have hPm : P ≤ 1099511627776 * 64 := by rw [hP]; exact Nat.mul_le_mul (by omega) hn1
  have HFR : Hid (∀ y, IsWhen T t r y → IsWhen T t k (P + y)) := fun y hy => by
    have hy2 : IsWhen T t (k % C T t T.length) y := by rw [hlen, ← hm, ← hr]; exact hy
    have := hy2.frame
    rw [hlen, ← hm, ← hq, ← hP] at this
    exact this
  have hwq : IntKind.i64.wrap (q : Int) = q := wrap_i _ (by omega) (by omega)
  have hwP : IntKind.i64.wrap (P : Int) = P := wrap_i _ (by omega) (by omega)
  have hwr : IntKind.i64.wrap (r : Int) = r := wrap_i _ (by omega) (by omega)
  have H := hide h
  have HM := hide hm
  have HLEN := hide hlen
  clear h hg hq hr hm hP hlen
  go_enter Try.func20, Try.ntmps20
  go_wp2_with fail
  refine HC.out.mono ?_
  rintro e w2 ⟨rfl, hb2⟩
  have HB := hide hb2
  have HT := hide (H.out.below hb2)
  have HA := hide (among_at T t b o n cap n w2 HT.out hn1 (Nat.le_refl _))
  rw [← HM.out] at HA
  clear hb2 HC hb
  go_wp2_with fail
  refine HA.out.mono ?_
  rintro e w3 ⟨rfl, rfl⟩
  go_wp2_with fail
  refine HA.out.mono ?_
  rintro e w3 ⟨rfl, rfl⟩
  clear HA
  go_wp2_with fail
  go_quiet (fail)
  go_wp2_with fail
  have HB3 := hide (below_drewN HB.out nq)
  have HT3 := hide (HT.out.drewN nq)
  obtain ⟨W, hW⟩ : ∃ W, W = w2.drewN nq := ⟨_, rfl⟩
  rw [← hW] at HB3 HT3 ⊢
  clear hW HB HT
  go_loopw [11, 12] (fun s i wr => ∃ (j l : Nat), j ≤ n ∧ l ≤ r ∧ i = .int .i64 j ∧ s = .int .i64 l ∧ Hid (l + C T t j = r) ∧ W = wr) (fun _ i _ => n - (intOf i).toNat)
  case atStart => exact ⟨0, r, Nat.zero_le _, Nat.le_refl _, rfl, rfl, rfl, rfl⟩
  case round =>
    obtain ⟨j, l, hj, hl, rfl, rfl, HL, rfl⟩ := hrel
    by_cases hlt : j < n
    · obtain ⟨p, hp⟩ := get_lt (show j < T.length by rw [HLEN.out]; omega)
      obtain ⟨x, y⟩ := p
      obtain ⟨c0, c1⟩ := HT3.out.cells j _ hp
      simp only at c0 c1
      have HP := hide hp
      clear hp c1
      by_cases hx : x = t
      · subst hx
        rcases Nat.eq_zero_or_pos l with h0 | h0
        · subst h0
          have HWH : Hid (IsWhen T x k (P + j)) := HFR.out j ⟨(own_iff HP.out).2 rfl, by have := HL.out; omega⟩
          by_cases hx : P + j ≤ 1099511627776
          · have e5 : decide ((1099511627776 : Int) < (P : Int) + (j : Int)) = false := decide_eq_false (by omega)
            have e5' : decide (1099511627776 < P + j) = false := decide_eq_false (by omega)
            go_wp2_with fail
            go_ret2
            exact ⟨P + j, by rw [whenV_le hx]; rfl, HWH.out, HB3.out⟩
          · have hx2 : 1099511627776 < P + j := by omega
            have e5 : decide ((1099511627776 : Int) < (P : Int) + (j : Int)) = true := decide_eq_true (by omega)
            have e5' : decide (1099511627776 < P + j) = true := decide_eq_true (by omega)
            go_wp2_with fail
            go_ret2
            exact ⟨P + j, by rw [whenV_gt hx2]; rfl, HWH.out, HB3.out⟩
        · have e6 : ((l : Int) == 0) = false := by simp; omega
          have e6' : ¬ (l = 0) := by omega
          go_wp2_with fail
          go_roundw
          case rel => exact ⟨j + 1, l - 1, by omega, by omega, by go_num, by go_num, by show l - 1 + C T x (j + 1) = r; rw [C_own ((own_iff HP.out).2 rfl)]; have := HL.out; omega, trivial⟩
          case measure => simp [intOf]; omega
      · have hx2 : (x == t) = false := by simp [hx]
        go_wp2_with fail
        go_roundw
        case rel => exact ⟨j + 1, l, by omega, by omega, by go_num, rfl, by show l + C T t (j + 1) = r; rw [C_not (fun g => hx ((own_iff HP.out).1 g))]; exact HL.out, trivial⟩
        case measure => simp [intOf]; omega
    · exfalso
      have hjn : j = n := by omega
      have h1 := HL.out
      rw [hjn, ← HM.out] at h1
      omega

end Go.Proofs.Ytidalhdhaagpaaa
