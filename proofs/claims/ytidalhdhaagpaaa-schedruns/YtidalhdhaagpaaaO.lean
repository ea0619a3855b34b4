/-
  Gap of the reference; conditions as each theorem has them.
-/
import Derived.Test.YtidalhdhaagpaaaL
set_option linter.unusedSimpArgs false
set_option linter.unusedVariables false
namespace Go.Proofs.Ytidalhdhaagpaaa
open Go.RowKit

set_option maxHeartbeats 1000000 in
theorem rgap_bad (a : Option Addr) (b o n cap : Nat) (T : List (Int × Int)) (t : Int) (w : World) (h : Tab w a b o n T) (hg : ¬ Good T) :
    Calls Try.prog 22 #[.slice a n cap, .int .i64 t] w fun e w' => e = .returned (.tuple #[.int .i64 0, .int .i64 50]) ∧ Below w.heap.size w w' := by
  have HC := hide (rcheck_at a b o n cap T w h)
  rw [errT_bad hg] at HC
  clear h hg
  go_enter Try.func22, Try.ntmps22
  go_wp2_with fail
  refine HC.out.mono ?_
  rintro e w2 ⟨rfl, hb2⟩
  have HB := hide hb2
  clear hb2 HC
  go_wp2_with fail
  go_ret2
  exact ⟨rfl, HB.out⟩

set_option maxHeartbeats 1000000 in
theorem rgap_arg (a : Option Addr) (b o n cap : Nat) (T : List (Int × Int)) (t : Int) (w : World) (h : Tab w a b o n T) (hg : Good T) (hc : t < 0 ∨ (0 ≤ t ∧ C T t n = 0)) :
    Calls Try.prog 22 #[.slice a n cap, .int .i64 t] w fun e w' => e = .returned (.tuple #[.int .i64 0, .int .i64 2]) ∧ Below w.heap.size w w' := by
  have HC := hide (rcheck_at a b o n cap T w h)
  rw [errT_good hg] at HC
  obtain ⟨rfl, hb⟩ := h.ptr (hg.posn h)
  have hn1 := hg.maxn h
  have H := hide h
  clear h hg
  rcases hc with ht | ⟨ht, hc⟩
  · have e1 : decide (t < 0) = true := decide_eq_true (by omega)
    go_enter Try.func22, Try.ntmps22
    go_wp2_with fail
    refine HC.out.mono ?_
    rintro e w2 ⟨rfl, hb2⟩
    have HB := hide hb2
    clear hb2 HC
    go_wp2_with fail
    go_ret2
    exact ⟨rfl, HB.out⟩
  · have e1 : decide (t < 0) = false := decide_eq_false (by omega)
    have HC0 := hide hc
    clear hc
    go_enter Try.func22, Try.ntmps22
    go_wp2_with fail
    refine HC.out.mono ?_
    rintro e w2 ⟨rfl, hb2⟩
    have HB := hide hb2
    have HA := hide (among_at T t b o n cap n w2 (H.out.below hb2) hn1 (Nat.le_refl _))
    rw [HC0.out] at HA
    clear hb2 HC
    go_wp2_with fail
    refine HA.out.mono ?_
    rintro e w3 ⟨rfl, rfl⟩
    clear HA
    go_wp2_with fail
    go_ret2
    exact ⟨rfl, HB.out⟩

set_option maxHeartbeats 4000000 in
theorem rgap_ok (a : Option Addr) (b o n cap : Nat) (T : List (Int × Int)) (t : Int) (w : World) (h : Tab w a b o n T) (hg : Good T) (ht : 0 ≤ t) (hp : 0 < C T t n) :
    Calls Try.prog 22 #[.slice a n cap, .int .i64 t] w fun e w' => ∃ g : Nat, e = .returned (.tuple #[.int .i64 g, .int .i64 0]) ∧ IsGap T t g ∧ Below w.heap.size w w' := by
  have HC := hide (rcheck_at a b o n cap T w h)
  rw [errT_good hg] at HC
  have hn0 := hg.posn h
  have hn1 := hg.maxn h
  have hlen := h.len
  obtain ⟨rfl, hb⟩ := h.ptr hn0
  have hnz : ¬ ((n : Int) = 0) := by omega
  have e0 : decide (t < 0) = false := decide_eq_false (by omega)
  obtain ⟨m, hm⟩ : ∃ m, m = C T t n := ⟨_, rfl⟩
  have HP0 : Hid (0 < C T t T.length) := by show 0 < C T t T.length; rw [hlen]; exact hp
  rw [← hm] at hp
  have e3 : ((m : Int) == 0) = false := by simp; omega
  have hmz' : ¬ (m = 0) := by omega
  have H := hide h
  have HM := hide hm
  have HLEN := hide hlen
  clear h hg hm hlen
  go_enter Try.func22, Try.ntmps22
  go_wp2_with fail
  refine HC.out.mono ?_
  rintro e w2 ⟨rfl, hb2⟩
  have HB := hide hb2
  have HT := hide (H.out.below hb2)
  have HA := hide (among_at T t b o n cap n w2 HT.out hn1 (Nat.le_refl _))
  rw [← HM.out] at HA
  clear hb2 HC hb
  go_wp2_with fail
  refine HA.out.mono ?_
  rintro e w3 ⟨rfl, rfl⟩
  clear HA
  go_wp2_with fail
  go_loopw [7, 8] (fun s i wr => ∃ (j g : Nat), j ≤ n ∧ g ≤ n ∧ i = .int .i64 j ∧ s = .int .i64 g ∧ Hid (GapOf T t j g) ∧ w2 = wr) (fun _ i _ => n - (intOf i).toNat)
  case atStart => exact ⟨0, 0, Nat.zero_le _, Nat.zero_le _, rfl, rfl, GapOf.start T t, rfl⟩
  case round =>
    obtain ⟨j, g, hj, hgn, rfl, rfl, HG, rfl⟩ := hrel
    by_cases hlt : j < n
    · obtain ⟨p, hp⟩ := get_lt (show j < T.length by rw [HLEN.out]; omega)
      obtain ⟨x, y⟩ := p
      obtain ⟨c0, c1⟩ := HT.out.cells j _ hp
      simp only at c0 c1
      have HP := hide hp
      clear hp c1
      by_cases hx : x = t
      · subst hx
        have HOJ : Hid (own T x j) := (own_iff HP.out).2 rfl
        go_wp2_with fail
        go_loopw [9] (fun i wy => ∃ k : Nat, 1 ≤ k ∧ k ≤ n ∧ i = .int .i64 k ∧ Hid (∀ e, 0 < e → e < k → ¬ own T x (j + e)) ∧ w2 = wy) (fun i _ => n + 1 - (intOf i).toNat)
        case atStart => exact ⟨1, Nat.le_refl _, by omega, rfl, fun e h1 h2 => by omega, rfl⟩
        case round =>
          obtain ⟨k, hk1, hkn, rfl, HK, rfl⟩ := hrel
          obtain ⟨s, hs⟩ : ∃ s, s = (j + k) % n := ⟨_, rfl⟩
          have hsn : s < n := by rw [hs]; exact Nat.mod_lt _ hn0
          have hrem : ((j : Int) + (k : Int)).tmod (n : Int) = (s : Int) := by rw [hs, ← rem_nat]; rfl
          obtain ⟨p, hp⟩ := get_lt (show s < T.length by rw [HLEN.out]; omega)
          obtain ⟨x', y'⟩ := p
          obtain ⟨c0', c1'⟩ := HT.out.cells s _ hp
          simp only at c0' c1'
          have hown : own T x (j + k) ↔ x' = x := own_at (by rw [HLEN.out, ← hs]; exact hp)
          clear hp c1' hs
          by_cases hx : x' = x
          · subst hx
            have HOK : Hid (own T x' (j + k)) := hown.2 rfl
            clear hown
            by_cases hgk : g < k
            · have hgk1 : (g : Int) < k := by omega
              go_wp2_with fail
              go_roundw
              case rel => exact ⟨j + 1, k, by omega, by omega, by go_num, rfl, by
                have h1 := HG.out.next HOJ.out (by omega) (by rw [HLEN.out]; exact hkn) HK.out HOK.out
                rw [Nat.max_eq_right (by omega)] at h1
                exact h1, trivial⟩
              case measure => simp [intOf]; omega
            · have hgk1 : (k : Int) ≤ g := by omega
              go_wp2_with fail
              go_roundw
              case rel => exact ⟨j + 1, g, by omega, by omega, by go_num, rfl, by
                have h1 := HG.out.next HOJ.out (by omega) (by rw [HLEN.out]; exact hkn) HK.out HOK.out
                rw [Nat.max_eq_left (by omega)] at h1
                exact h1, trivial⟩
              case measure => simp [intOf]; omega
          · have hne : ¬ own T x (j + k) := fun e => hx (hown.1 e)
            have hkn2 : k < n := by
              rcases Nat.lt_or_ge k n with g1 | g1
              · exact g1
              · exfalso
                obtain rfl : k = n := by omega
                apply hne
                have := (own_add T x j).2 HOJ.out
                rw [HLEN.out] at this
                exact this
            have HNE := hide hne
            have hx2 : (x' != x) = true := by simp [hx]
            clear hne hown
            go_wp2_with fail
            go_roundw
            case rel => exact ⟨k + 1, by omega, by omega, by go_num, fun e h1 h2 => by
              rcases Nat.lt_or_ge e k with g1 | g1
              · exact HK.out e h1 g1
              · obtain rfl : e = k := by omega
                exact HNE.out, trivial⟩
            case measure => simp [intOf]; omega
      · have hx2 : (x != t) = true := by simp [hx]
        go_wp2_with fail
        go_roundw
        case rel => exact ⟨j + 1, g, by omega, by omega, by go_num, rfl, HG.out.skip (fun e => hx ((own_iff HP.out).1 e)), trivial⟩
        case measure => simp [intOf]; omega
    · have hjn : j = n := by omega
      have HJN := hide hjn
      clear hjn
      go_wp2_with fail
      go_ret2
      refine ⟨g, rfl, GapOf.gap ?_ HP0.out, HB.out⟩
      rw [HLEN.out, ← HJN.out]
      exact HG.out

end Go.Proofs.Ytidalhdhaagpaaa
