/-
  checkOwner, Own, When and Gap of package sched; conditions as each theorem has them.
-/
import Derived.Test.YtidalhdhaagpaaaH
set_option linter.unusedSimpArgs false
set_option linter.unusedVariables false
namespace Go.Proofs.Ytidalhdhaagpaaa
open Go.RowKit

theorem Good.posn {T : List (Int × Int)} (hg : Good T) {w : World} {a : Option Addr} {b o n : Nat} (h : Tab w a b o n T) : 0 < n := by have := hg.pos; rw [h.len] at this; exact this
theorem Good.maxn {T : List (Int × Int)} (hg : Good T) {w : World} {a : Option Addr} {b o n : Nat} (h : Tab w a b o n T) : n ≤ 64 := by have := hg.max; rw [h.len] at this; exact this
theorem Tab.drewN {w : World} {a : Option Addr} {b o n : Nat} {T : List (Int × Int)} (h : Tab w a b o n T) (k : Nat) : Tab (w.drewN k) a b o n T := ⟨h.len, h.ptr, h.cells, h.max⟩

/-- What a table and an owner are answered. -/
noncomputable def errO (T : List (Int × Int)) (t : Int) : Int := @ite Int (Good T) (Classical.propDecidable _) (if 0 ≤ t ∧ 0 < C T t T.length then 0 else 2) 50
theorem errO_bad {T : List (Int × Int)} (h : ¬ Good T) (t : Int) : errO T t = 50 := if_neg h
theorem errO_ok {T : List (Int × Int)} (h : Good T) {t : Int} (ht : 0 ≤ t ∧ 0 < C T t T.length) : errO T t = 0 := by unfold errO; rw [if_pos h, if_pos ht]
theorem errO_arg {T : List (Int × Int)} (h : Good T) {t : Int} (ht : ¬ (0 ≤ t ∧ 0 < C T t T.length)) : errO T t = 2 := by unfold errO; rw [if_pos h, if_neg ht]

set_option maxHeartbeats 1000000 in
theorem owner_at (a : Option Addr) (b o n cap : Nat) (T : List (Int × Int)) (t : Int) (w : World) (h : Tab w a b o n T) :
    Calls Try.prog 33 #[.slice a n cap, .int .i64 t] w fun e w' => e = .returned (.int .i64 (errO T t)) ∧ Below w.heap.size w w' := by
  have HC := hide (check_at a b o n cap T w h)
  have hlen := h.len
  by_cases hg : Good T
  · rw [errT_good hg] at HC
    obtain ⟨rfl, hb⟩ := h.ptr (hg.posn h)
    by_cases ht : t < 0
    · rw [errO_arg hg (by omega)]
      have e1 : decide (t < 0) = true := by simp; omega
      clear h hg
      go_enter Try.func33, Try.ntmps33
      go_wp2_with fail
      refine HC.out.mono ?_
      rintro e w2 ⟨rfl, hb2⟩
      have HB := hide hb2
      clear hb2
      go_wp2_with fail
      go_ret
      exact ⟨rfl, HB.out⟩
    · have e1 : decide (t < 0) = false := by simp; omega
      have H := hide h
      have HG := hide hg
      clear h
      by_cases hc : 0 < C T t n
      · rw [errO_ok hg ⟨by omega, by rw [hlen]; exact hc⟩]
        clear hg hlen
        obtain ⟨c, hcc⟩ : ∃ c, c = C T t n := ⟨_, rfl⟩
        rw [← hcc] at hc
        have HCC := hide hcc
        have e2 : ((c : Int) == 0) = false := by simp; omega
        have e2' : ¬ (c = 0) := by omega
        clear hcc
        go_enter Try.func33, Try.ntmps33
        go_wp2_with fail
        refine HC.out.mono ?_
        rintro e w2 ⟨rfl, hb2⟩
        have HB := hide hb2
        have HF := hide (inFrame_at T t b o n cap w2 (H.out.below hb2) HG.out)
        rw [← HCC.out] at HF
        clear hb2
        go_wp2_with fail
        refine HF.out.mono ?_
        rintro e w3 ⟨rfl, hb3⟩
        have HB3 := hide (Below.then HB.out hb3)
        clear hb3 HF
        go_wp2_with fail
        go_ret
        exact ⟨rfl, HB3.out⟩
      · rw [errO_arg hg (fun g => hc (by rw [← hlen]; exact g.2))]
        have hc0 : C T t n = 0 := by omega
        clear hg hlen
        have HC0 := hide hc0
        clear hc0 hc
        go_enter Try.func33, Try.ntmps33
        go_wp2_with fail
        refine HC.out.mono ?_
        rintro e w2 ⟨rfl, hb2⟩
        have HB := hide hb2
        have HF := hide (inFrame_at T t b o n cap w2 (H.out.below hb2) HG.out)
        rw [HC0.out] at HF
        clear hb2
        go_wp2_with fail
        refine HF.out.mono ?_
        rintro e w3 ⟨rfl, hb3⟩
        have HB3 := hide (Below.then HB.out hb3)
        clear hb3 HF
        go_wp2_with fail
        go_ret
        exact ⟨rfl, HB3.out⟩
  · rw [errT_bad hg] at HC
    rw [errO_bad hg]
    clear hg h
    go_enter Try.func33, Try.ntmps33
    go_wp2_with fail
    refine HC.out.mono ?_
    rintro e w2 ⟨rfl, hb2⟩
    have HB := hide hb2
    clear hb2
    go_wp2_with fail
    go_ret
    exact ⟨rfl, HB.out⟩

set_option maxHeartbeats 1000000 in
theorem gap_bad (a : Option Addr) (b o n cap : Nat) (T : List (Int × Int)) (t c : Int) (w : World) (h : Tab w a b o n T) (hc : errO T t = c) (hc0 : c = 50 ∨ c = 2) :
    Calls Try.prog 21 #[.slice a n cap, .int .i64 t] w fun e w' => e = .returned (.tuple #[.int .i64 0, .int .i64 c]) ∧ Below w.heap.size w w' := by
  have HC := hide (owner_at a b o n cap T t w h)
  rw [hc] at HC
  clear h hc
  rcases hc0 with rfl | rfl
  all_goals
    go_enter Try.func21, Try.ntmps21
    go_wp2_with fail
    refine HC.out.mono ?_
    rintro e w2 ⟨rfl, hb2⟩
    have HB := hide hb2
    clear hb2 HC
    go_wp2_with fail
    go_ret2
    exact ⟨rfl, HB.out⟩

set_option maxHeartbeats 1000000 in
theorem gap_ok (a : Option Addr) (b o n cap : Nat) (T : List (Int × Int)) (t : Int) (w : World) (h : Tab w a b o n T) (hg : Good T) (ht : 0 ≤ t) (hp : 0 < C T t n) :
    Calls Try.prog 21 #[.slice a n cap, .int .i64 t] w fun e w' => ∃ g : Nat, e = .returned (.tuple #[.int .i64 g, .int .i64 0]) ∧ IsGap T t g ∧ Below w.heap.size w w' := by
  have HC := hide (owner_at a b o n cap T t w h)
  rw [errO_ok hg ⟨ht, by rw [h.len]; exact hp⟩] at HC
  obtain ⟨rfl, hb⟩ := h.ptr (hg.posn h)
  have H := hide h
  have HG := hide hg
  have HP := hide hp
  clear h hg hp
  go_enter Try.func21, Try.ntmps21
  go_wp2_with fail
  refine HC.out.mono ?_
  rintro e w2 ⟨rfl, hb2⟩
  have HB := hide hb2
  have HF := hide (ownGap_at T t b o n cap w2 (H.out.below hb2) HG.out HP.out)
  clear hb2 HC
  go_wp2_with fail
  refine HF.out.mono ?_
  rintro e w3 ⟨g, rfl, hgap, hb3⟩
  have HB3 := hide (Below.then HB.out hb3)
  have HGP := hide hgap
  clear hb3 HF hgap
  go_wp2_with fail
  go_ret2
  exact ⟨g, rfl, HGP.out, HB3.out⟩

set_option maxHeartbeats 1000000 in
theorem own_bad (a : Option Addr) (b o n cap : Nat) (T : List (Int × Int)) (t k c : Int) (w : World) (h : Tab w a b o n T) (hc : errK T k = c) (hc0 : c = 50 ∨ c = 2) :
    Calls Try.prog 17 #[.slice a n cap, .int .i64 t, .int .i64 k] w fun e w' => e = .returned (.tuple #[.int .i64 0, .int .i64 c]) ∧ Below w.heap.size w w' := by
  have HC := hide (tick_at a b o n cap T k w h)
  rw [hc] at HC
  clear h hc
  rcases hc0 with rfl | rfl
  all_goals
    go_enter Try.func17, Try.ntmps17
    go_wp2_with fail
    refine HC.out.mono ?_
    rintro e w2 ⟨rfl, hb2⟩
    have HB := hide hb2
    clear hb2 HC
    go_wp2_with fail
    go_ret2
    exact ⟨rfl, HB.out⟩

set_option maxHeartbeats 1000000 in
theorem own_arg (a : Option Addr) (b o n cap : Nat) (T : List (Int × Int)) (t k : Int) (w : World) (h : Tab w a b o n T) (hc : errK T k = 0) (ht : t < 0 ∨ (0 ≤ t ∧ 8 ≤ t)) :
    Calls Try.prog 17 #[.slice a n cap, .int .i64 t, .int .i64 k] w fun e w' => e = .returned (.tuple #[.int .i64 0, .int .i64 2]) ∧ Below w.heap.size w w' := by
  have HC := hide (tick_at a b o n cap T k w h)
  rw [hc] at HC
  clear h hc
  rcases ht with ht | ⟨ht, ht2⟩
  · have e1 : decide (t < 0) = true := by simp; omega
    go_enter Try.func17, Try.ntmps17
    go_wp2_with fail
    refine HC.out.mono ?_
    rintro e w2 ⟨rfl, hb2⟩
    have HB := hide hb2
    clear hb2 HC
    go_wp2_with fail
    go_ret2
    exact ⟨rfl, HB.out⟩
  · have e1 : decide (t < 0) = false := by simp; omega
    have e2 : decide (8 ≤ t) = true := by simp; omega
    go_enter Try.func17, Try.ntmps17
    go_wp2_with fail
    refine HC.out.mono ?_
    rintro e w2 ⟨rfl, hb2⟩
    have HB := hide hb2
    clear hb2 HC
    go_wp2_with fail
    go_ret2
    exact ⟨rfl, HB.out⟩

set_option maxHeartbeats 1000000 in
theorem own_ok (a : Option Addr) (b o n cap : Nat) (T : List (Int × Int)) (t : Int) (k : Nat) (w : World) (h : Tab w a b o n T) (hg : Good T) (hk : k ≤ 1099511627776) (ht : 0 ≤ t) (ht2 : t < 8) :
    Calls Try.prog 17 #[.slice a n cap, .int .i64 t, .int .i64 k] w fun e w' => e = .returned (.tuple #[.int .i64 (C T t k), .int .i64 0]) ∧ Below w.heap.size w w' := by
  have HC := hide (tick_at a b o n cap T k w h)
  rw [errK_ok hg (by omega)] at HC
  have hn0 := hg.posn h
  have hn1 := hg.maxn h
  obtain ⟨rfl, hb⟩ := h.ptr hn0
  have hnz : ¬ ((n : Int) = 0) := by omega
  have e1 : decide (t < 0) = false := by simp; omega
  have e2 : decide (8 ≤ t) = false := by simp; omega
  obtain ⟨q, hq⟩ : ∃ q, q = k / n := ⟨_, rfl⟩
  obtain ⟨r, hr⟩ : ∃ r, r = k % n := ⟨_, rfl⟩
  have hrem : (k : Int).tmod (n : Int) = (r : Int) := by rw [hr]; exact rem_nat k n
  have hquo : (k : Int).tdiv (n : Int) = (q : Int) := by rw [hq]; exact quo_nat k n
  have hrn : r < n := by rw [hr]; exact Nat.mod_lt _ hn0
  have hqk : q ≤ k := by rw [hq]; exact Nat.div_le_self _ _
  obtain ⟨c, hc⟩ : ∃ c, c = C T t n := ⟨_, rfl⟩
  obtain ⟨d, hd⟩ : ∃ d, d = C T t r := ⟨_, rfl⟩
  obtain ⟨P, hP⟩ : ∃ P, P = q * c := ⟨_, rfl⟩
  have hmul : (q : Int) * (c : Int) = (P : Int) := by rw [hP]; rfl
  have hsum : C T t k = P + d := by
    rw [C_div T t k, h.len, ← hq, ← hr, ← hc, ← hd, ← hP]
  have hsum2 : P + d ≤ 1099511627776 := by
    rw [← hsum]
    exact Nat.le_trans (C_le T t k) hk
  rw [hsum]
  have H := hide h
  have HG := hide hg
  have HCC := hide hc
  have HD := hide hd
  clear h hg hq hr hc hd hP hsum
  go_enter Try.func17, Try.ntmps17
  go_wp2_with fail
  refine HC.out.mono ?_
  rintro e w2 ⟨rfl, hb2⟩
  have HB := hide hb2
  clear hb2 HC
  go_wp2_with fail
  go_quiet (fail)
  go_wp2_with fail
  have HB2 := hide (below_drewN HB.out nq)
  have HF := hide (inFrame_at T t b o n cap (w2.drewN nq) (H.out.below HB2.out) HG.out)
  rw [← HCC.out] at HF
  refine HF.out.mono ?_
  rintro e w3 ⟨rfl, hb3⟩
  have HB3 := hide (Below.then HB2.out hb3)
  have HA := hide (ahead_at T t b o n cap r w3 (H.out.below HB3.out) HG.out (by omega))
  rw [← HD.out] at HA
  clear hb3 HF HB HB2
  go_wp2_with fail
  refine HA.out.mono ?_
  rintro e w4 ⟨rfl, hb4⟩
  have HB4 := hide (Below.then HB3.out hb4)
  clear hb4 HA HB3
  go_wp2_with fail
  go_ret2
  exact ⟨rfl, HB4.out⟩

set_option maxHeartbeats 1000000 in
theorem when_bad (a : Option Addr) (b o n cap : Nat) (T : List (Int × Int)) (t k c : Int) (w : World) (h : Tab w a b o n T) (hc : errO T t = c) (hc0 : c = 50 ∨ c = 2) :
    Calls Try.prog 19 #[.slice a n cap, .int .i64 t, .int .i64 k] w fun e w' => e = .returned (.tuple #[.int .i64 0, .int .i64 c]) ∧ Below w.heap.size w w' := by
  have HC := hide (owner_at a b o n cap T t w h)
  rw [hc] at HC
  clear h hc
  rcases hc0 with rfl | rfl
  all_goals
    go_enter Try.func19, Try.ntmps19
    go_wp2_with fail
    refine HC.out.mono ?_
    rintro e w2 ⟨rfl, hb2⟩
    have HB := hide hb2
    clear hb2 HC
    go_wp2_with fail
    go_ret2
    exact ⟨rfl, HB.out⟩

set_option maxHeartbeats 1000000 in
theorem when_arg (a : Option Addr) (b o n cap : Nat) (T : List (Int × Int)) (t k : Int) (w : World) (h : Tab w a b o n T) (hc : errO T t = 0) (ht : k < 0 ∨ (0 ≤ k ∧ 1099511627776 < k)) :
    Calls Try.prog 19 #[.slice a n cap, .int .i64 t, .int .i64 k] w fun e w' => e = .returned (.tuple #[.int .i64 0, .int .i64 2]) ∧ Below w.heap.size w w' := by
  have HC := hide (owner_at a b o n cap T t w h)
  rw [hc] at HC
  clear h hc
  rcases ht with ht | ⟨ht, ht2⟩
  · have e1 : decide (k < 0) = true := by simp; omega
    go_enter Try.func19, Try.ntmps19
    go_wp2_with fail
    refine HC.out.mono ?_
    rintro e w2 ⟨rfl, hb2⟩
    have HB := hide hb2
    clear hb2 HC
    go_wp2_with fail
    go_ret2
    exact ⟨rfl, HB.out⟩
  · have e1 : decide (k < 0) = false := by simp; omega
    have e2 : decide (1099511627776 < k) = true := by simp; omega
    go_enter Try.func19, Try.ntmps19
    go_wp2_with fail
    refine HC.out.mono ?_
    rintro e w2 ⟨rfl, hb2⟩
    have HB := hide hb2
    clear hb2 HC
    go_wp2_with fail
    go_ret2
    exact ⟨rfl, HB.out⟩

theorem wrap_i (a : Int) (h1 : 0 ≤ a) (h2 : a < 9223372036854775808) : IntKind.i64.wrap a = a := by rw [IntKind.wrap_i64]; omega

/-- What When answers where k is one: x, or a refusal where x is above MaxTick. -/
def whenV (x : Nat) : Value := if x ≤ 1099511627776 then .tuple #[.int .i64 x, .int .i64 0] else .tuple #[.int .i64 0, .int .i64 2]
theorem whenV_le {x : Nat} (h : x ≤ 1099511627776) : whenV x = .tuple #[.int .i64 x, .int .i64 0] := if_pos h
theorem whenV_gt {x : Nat} (h : 1099511627776 < x) : whenV x = .tuple #[.int .i64 0, .int .i64 2] := if_neg (by omega)

set_option maxHeartbeats 2000000 in
theorem when_ok (a : Option Addr) (b o n cap : Nat) (T : List (Int × Int)) (t : Int) (k : Nat) (w : World) (h : Tab w a b o n T) (hg : Good T) (ht : 0 ≤ t) (hp : 0 < C T t n) (hk : k ≤ 1099511627776) :
    Calls Try.prog 19 #[.slice a n cap, .int .i64 t, .int .i64 k] w fun e w' => ∃ x : Nat, e = .returned (whenV x) ∧ IsWhen T t k x ∧ Below w.heap.size w w' := by
  have HC := hide (owner_at a b o n cap T t w h)
  rw [errO_ok hg ⟨ht, by rw [h.len]; exact hp⟩] at HC
  have hn0 := hg.posn h
  have hn1 := hg.maxn h
  have hlen := h.len
  obtain ⟨rfl, hb⟩ := h.ptr hn0
  have e1 : decide ((k : Int) < 0) = false := decide_eq_false (by omega)
  have e2 : decide (1099511627776 < (k : Int)) = false := decide_eq_false (by omega)
  have e2' : decide (1099511627776 < k) = false := decide_eq_false (by omega)
  obtain ⟨m, hm⟩ : ∃ m, m = C T t n := ⟨_, rfl⟩
  rw [← hm] at hp
  have hm1 : m ≤ 64 := by rw [hm]; exact Nat.le_trans (C_le T t n) hn1
  have hmz : ¬ ((m : Int) = 0) := by omega
  have hmz' : ¬ (m = 0) := by omega
  obtain ⟨q, hq⟩ : ∃ q, q = k / m := ⟨_, rfl⟩
  obtain ⟨r, hr⟩ : ∃ r, r = k % m := ⟨_, rfl⟩
  have hrem : (k : Int).tmod (m : Int) = (r : Int) := by rw [hr]; exact rem_nat k m
  have hquo : (k : Int).tdiv (m : Int) = (q : Int) := by rw [hq]; exact quo_nat k m
  have hrm : r < m := by rw [hr]; exact Nat.mod_lt _ hp
  have hqk : q ≤ k := by rw [hq]; exact Nat.div_le_self _ _
  obtain ⟨P, hP⟩ : ∃ P, P = q * n := ⟨_, rfl⟩
  have hmul : (q : Int) * (n : Int) = (P : Int) := by rw [hP]; rfl
  have hPm : P ≤ 1099511627776 * 64 := by rw [hP]; exact Nat.mul_le_mul (by omega) hn1
  have HFR : Hid (∀ y, IsWhen T t r y → IsWhen T t k (P + y)) := fun y hy => by
    have hy2 : IsWhen T t (k % C T t T.length) y := by rw [hlen, ← hm, ← hr]; exact hy
    have := hy2.frame
    rw [hlen, ← hm, ← hq, ← hP] at this
    exact this
  have HLOW : Hid (∀ y, IsWhen T t r y → y < n) := fun y hy => by
    have := hy.low (by rw [hlen, ← hm]; exact hrm)
    rw [hlen] at this
    exact this
  have H := hide h
  have HG := hide hg
  have HM := hide hm
  clear h hg hq hr hm hP hlen
  go_enter Try.func19, Try.ntmps19
  go_wp2_with fail
  refine HC.out.mono ?_
  rintro e w2 ⟨rfl, hb2⟩
  have HB := hide hb2
  clear hb2 HC
  have HF := hide (inFrame_at T t b o n cap w2 (H.out.below HB.out) HG.out)
  rw [← HM.out] at HF
  go_wp2_with fail
  refine HF.out.mono ?_
  rintro e w3 ⟨rfl, hb3⟩
  have HB3 := hide (Below.then HB.out hb3)
  have HT3 := hide (H.out.below HB3.out)
  clear hb3 HF HB
  have HRM : Hid (r < C T t n) := by show r < C T t n; rw [← HM.out]; exact hrm
  have hwq : IntKind.i64.wrap (q : Int) = q := wrap_i _ (by omega) (by omega)
  have hwP : IntKind.i64.wrap (P : Int) = P := wrap_i _ (by omega) (by omega)
  go_wp2_with fail
  go_region_with (go_at_call 34; refine (ownTick_at T t b o n cap r _ (HT3.out.drewN _) HG.out HRM.out).mono ?_; rintro e w4 ⟨y, rfl, hy, hb4⟩; have hyn := HLOW.out y hy; have hwy : IntKind.i64.wrap ((P : Int) + (y : Int)) = (P : Int) + (y : Int) := wrap_i _ (by omega) (by omega); have HY := hide hy; have HB4 := hide hb4; clear hy hb4)
  all_goals
    clear hwy
    have HB5 : Hid (Below w.heap.size w w4) := Below.then (below_drewN HB3.out _) HB4.out
    by_cases hx : P + y ≤ 1099511627776
    · have e5 : decide ((1099511627776 : Int) < (P : Int) + (y : Int)) = false := decide_eq_false (by omega)
      have e5' : decide (1099511627776 < P + y) = false := decide_eq_false (by omega)
      go_wp2_with fail
      go_ret2
      exact ⟨P + y, by rw [whenV_le hx]; rfl, HFR.out y HY.out, HB5.out⟩
    · have hx2 : 1099511627776 < P + y := by omega
      have e5 : decide ((1099511627776 : Int) < (P : Int) + (y : Int)) = true := decide_eq_true (by omega)
      have e5' : decide (1099511627776 < P + y) = true := decide_eq_true (by omega)
      go_wp2_with fail
      go_ret2
      exact ⟨P + y, by rw [whenV_gt hx2]; rfl, HFR.out y HY.out, HB5.out⟩

end Go.Proofs.Ytidalhdhaagpaaa
