/-
  SchedBack's walk; conditions as each theorem has them.
-/
import Derived.Test.YtidalhdhaagpaaaP
set_option linter.unusedSimpArgs false
set_option linter.unusedVariables false
namespace Go.Proofs.Ytidalhdhaagpaaa
open Go.RowKit

theorem when_le {T : List (Int × Int)} {t : Int} {k x m n : Nat} (h : IsWhen T t k x) (hm : 0 < C T t T.length) (hn : T.length = n) : x < (k + 1) * n := by
  subst hn
  have h1 : C T t ((k + 1) * T.length) = (k + 1) * C T t T.length := by
    have := C_mul T t 0 (k + 1)
    simpa [C] using this
  refine C_lt (T := T) (t := t) ?_
  rw [h1, h.cnt]
  exact Nat.lt_of_lt_of_le (Nat.lt_succ_self k) (Nat.le_mul_of_pos_right _ hm)

theorem run_has {T : List (Int × Int)} {n : Nat} (hn : T.length = n) (h0 : 0 < n) (i : Nat) : ∃ p, T[i % n]? = some p := get_lt (by rw [hn]; exact Nat.mod_lt _ h0)

set_option maxRecDepth 100000 in
set_option maxHeartbeats 4000000 in
theorem back_walk (a : Option Addr) (b o n cap : Nat) (T : List (Int × Int)) (t k : Int) (w : World) (h : Tab w a b o n T) :
    Calls Try.prog 5 #[.slice a n cap, .int .i64 t, .int .i64 k] w fun e w' => e = .returned (.bool true) ∧ Below w.heap.size w w' := by
  have hlen := h.len
  have H := hide h
  clear h
  by_cases hk : k < 0 ∨ (0 ≤ k ∧ 1073741824 < k)
  · rcases hk with hk | ⟨hk0, hk⟩
    · have e1 : decide (k < 0) = true := decide_eq_true (by omega)
      go_enter Try.func5, Try.ntmps5
      go_wp2_with fail
      refine (works_at w).mono ?_
      rintro e w1 ⟨rfl, b1⟩
      have B1 := hide b1
      clear b1
      go_wp2_with fail
      go_ret
      exact ⟨rfl, B1.out⟩
    · have e1 : decide (k < 0) = false := decide_eq_false (by omega)
      have e2 : decide (1073741824 < k) = true := decide_eq_true (by omega)
      go_enter Try.func5, Try.ntmps5
      go_wp2_with fail
      refine (works_at w).mono ?_
      rintro e w1 ⟨rfl, b1⟩
      have B1 := hide b1
      clear b1
      go_wp2_with fail
      go_ret
      exact ⟨rfl, B1.out⟩
  · obtain ⟨K, rfl⟩ := Int.eq_ofNat_of_zero_le (show 0 ≤ k by omega)
    have hK : K ≤ 1073741824 := by omega
    have e1 : decide ((K : Int) < 0) = false := decide_eq_false (by omega)
    have e2 : decide (1073741824 < (K : Int)) = false := decide_eq_false (by omega)
    have e2' : decide (1073741824 < K) = false := decide_eq_false (by omega)
    clear hk
    by_cases hg : Good T ∧ 0 ≤ t ∧ 0 < C T t T.length
    · obtain ⟨hg, ht, hc⟩ := hg
      have hn0 := hg.posn H.out
      have hn1 := hg.maxn H.out
      obtain ⟨rfl, hb⟩ := H.out.ptr hn0
      have hcn : 0 < C T t n := by rw [← hlen]; exact hc
      have ht8 : t < 8 := by
        obtain ⟨i, hi, p, hp, rfl⟩ := C_pos hc
        rw [Nat.mod_eq_of_lt hi] at hp
        exact (hg.oks i p hi hp).t1
      have HW : Hid (∀ wx, Tab wx (some ⟨b, o, none⟩) b o n T → ∀ j : Nat, j ≤ 1073741825 → Calls Try.prog 19 #[.slice (some ⟨b, o, none⟩) n cap, .int .i64 t, .int .i64 j] wx fun e w' => ∃ x : Nat, e = .returned (.tuple #[.int .i64 x, .int .i64 0]) ∧ (IsWhen T t j x ∧ x ≤ 100000000000) ∧ Below wx.heap.size wx w') := fun wx hx j hj => by
        refine (when_ok (some ⟨b, o, none⟩) b o n cap T t j wx hx hg ht hcn (by omega)).mono ?_
        rintro e w' ⟨x, rfl, h1, h2⟩
        have hle : x ≤ 100000000000 := by
          have h3 := when_le (m := 0) h1 hc hlen
          have h4 : (j + 1) * n ≤ 1073741826 * 64 := Nat.mul_le_mul (by omega) hn1
          omega
        exact ⟨x, by rw [whenV_le (by omega)], ⟨h1, hle⟩, h2⟩
      have HO : Hid (∀ wx, Tab wx (some ⟨b, o, none⟩) b o n T → ∀ j : Nat, j ≤ 100000000000 → Calls Try.prog 17 #[.slice (some ⟨b, o, none⟩) n cap, .int .i64 t, .int .i64 j] wx fun e w' => e = .returned (.tuple #[.int .i64 (C T t j), .int .i64 0]) ∧ Below wx.heap.size wx w') := fun wx hx j hj =>
        own_ok (some ⟨b, o, none⟩) b o n cap T t j wx hx hg (by omega) ht ht8
      have HR : Hid (∀ wx, Tab wx (some ⟨b, o, none⟩) b o n T → ∀ j : Nat, j ≤ 100000000000 → ∃ x y, (own T t j ↔ x = t) ∧ Calls Try.prog 9 #[.slice (some ⟨b, o, none⟩) n cap, .int .i64 j] wx fun e w' => e = .returned (.tuple #[slt x y, .int .i64 0]) ∧ Below wx.heap.size wx w') := fun wx hx j hj => by
        obtain ⟨p, hp⟩ := run_has hlen hn0 j
        exact ⟨p.1, p.2, own_at (by rw [hlen]; exact hp), run_ok (some ⟨b, o, none⟩) b o n cap T j p wx hx hg (by omega) hp⟩
      have HLEN := hide hlen
      clear hg hc hcn hlen ht ht8 hb
      go_enter Try.func5, Try.ntmps5
      go_wp2_with fail
      refine (works_at w).mono ?_
      rintro e w1 ⟨rfl, b1⟩
      have B1 := hide b1
      clear b1
      go_wp2_with fail
      refine (HW.out w1 (H.out.below B1.out) K (by omega)).mono ?_
      rintro e w2 ⟨x, rfl, ⟨hx, hxm⟩, b2⟩
      have B2 := hide (Below.then B1.out b2)
      have HX := hide hx
      clear b2 hx B1
      have HW2 := hide (HW.out w2 (H.out.below B2.out) (K + 1) (by omega))
      rw [Int.natCast_add] at HW2
      go_wp2_with fail
      refine HW2.out.mono ?_
      rintro e w3 ⟨y, rfl, ⟨hy, hym⟩, b3⟩
      have B3 := hide (Below.then B2.out b3)
      obtain ⟨hxy, hyn, hbt⟩ := HX.out.next hy
      rw [HLEN.out] at hyn
      have HBT := hide hbt
      clear b3 B2 hy hbt HW2
      have HO3 := hide (HO.out w3 (H.out.below B3.out) x hxm)
      rw [HX.out.cnt] at HO3
      go_wp2_with fail
      refine HO3.out.mono ?_
      rintro e w4 ⟨rfl, b4⟩
      have B4 := hide (Below.then B3.out b4)
      clear b4 B3 HO3
      obtain ⟨z, u, hz, hr⟩ := HR.out w4 (H.out.below B4.out) x hxm
      obtain rfl := hz.1 HX.out.mine
      have HR4 := hide hr
      clear hr hz
      go_wp2_with fail
      refine HR4.out.mono ?_
      rintro e w5 ⟨rfl, b5⟩
      have B5 := hide (Below.then B4.out b5)
      clear b5 B4 HR4
      have e3 : decide ((y : Int) ≤ x) = false := decide_eq_false (by omega)
      have e3' : decide (y ≤ x) = false := decide_eq_false (by omega)
      have e4 : decide ((n : Int) < (y : Int) - (x : Int)) = false := decide_eq_false (by omega)
      go_wp2_with fail
      have B6 := hide (Below.alw B5.out (boxS z u))
      go_loopw [15] (fun i wr => ∃ j : Nat, x < j ∧ j ≤ y ∧ i = .int .i64 j ∧ Hid (Below w.heap.size w wr)) (fun i _ => y - (intOf i).toNat)
      case atStart => exact ⟨x + 1, by omega, by omega, by go_num, B6.out⟩
      case round =>
        obtain ⟨j, hj1, hj2, rfl, BJ⟩ := hrel
        by_cases hlt : j < y
        · obtain ⟨z2, u2, hz, hr⟩ := HR.out wr (H.out.below BJ.out) j (by omega)
          have hne : ¬ z2 = z := fun e => HBT.out j hj1 hlt (hz.2 e)
          have hne2 : (z2 == z) = false := by simp [hne]
          have HRJ := hide hr
          clear hr hz
          go_wp2_with fail
          refine HRJ.out.mono ?_
          rintro e w7 ⟨rfl, b7⟩
          have B7 := hide (Below.alw (Below.then BJ.out b7) (boxS z2 u2))
          clear b7 HRJ
          go_wp2_with fail
          go_roundw
          case rel => exact ⟨j + 1, by omega, by omega, by go_num, B7.out⟩
          case measure => simp [intOf]; omega
        · go_wp2_with fail
          go_ret
          exact ⟨rfl, BJ.out⟩
    · have hw : ∃ c : Int, (c = 50 ∨ c = 2) ∧ errO T t = c := by
        by_cases hg2 : Good T
        · exact ⟨2, Or.inr rfl, errO_arg hg2 (fun e => hg ⟨hg2, e.1, e.2⟩)⟩
        · exact ⟨50, Or.inl rfl, errO_bad hg2 t⟩
      obtain ⟨c, hc, he⟩ := hw
      have HW : Hid (∀ wx, Tab wx a b o n T → Calls Try.prog 19 #[.slice a n cap, .int .i64 t, .int .i64 K] wx fun e w' => e = .returned (.tuple #[.int .i64 0, .int .i64 c]) ∧ Below wx.heap.size wx w') := fun wx hx => when_bad a b o n cap T t K c wx hx he hc
      have hcz : (c != 0) = true := by rcases hc with rfl | rfl <;> rfl
      have hcz2 : ¬ (c = 0) := by omega
      clear hg he hc hlen
      go_enter Try.func5, Try.ntmps5
      go_wp2_with fail
      refine (works_at w).mono ?_
      rintro e w1 ⟨rfl, b1⟩
      have B1 := hide b1
      clear b1
      go_wp2_with fail
      refine (HW.out w1 (H.out.below B1.out)).mono ?_
      rintro e w2 ⟨rfl, b2⟩
      have B2 := hide (Below.then B1.out b2)
      clear b2 B1 HW
      go_wp2_with fail
      go_ret
      exact ⟨rfl, B2.out⟩

end Go.Proofs.Ytidalhdhaagpaaa
