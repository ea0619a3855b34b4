/-
  DnsBounds' walk; conditions as each theorem has them.
-/
import Derived.Test.YtelfikbahcckaaaDoorMJ
import Derived.Test.YtelfikbahcckaaaDoorWK
set_option linter.unusedSimpArgs false
set_option linter.unusedVariables false
namespace Go.Proofs.YtelfikbahcckaaaDoor
open Go.RowKit
theorem namI_good {b : List Nat} {at_ : Int} {R : List Nat × Nat × Er} (hR : R = namI b at_) (h : R.2.2 = .ok) (hb : ∀ x ∈ b, x < 256) (h0 : -9223372036854775808 ≤ at_) : at_ < (R.2.1 : Nat) ∧ R.2.1 ≤ b.length ∧ (strN R.1).toList.isEmpty = false ∧ (strN R.1).size ≤ 253 ∧ strN (low (byt (strN R.1))) = strN R.1 := by
  subst hR
  unfold namI at h ⊢
  split at h
  · cases h
  · rename_i hn
    rw [if_neg hn]
    obtain ⟨h1, h2, u, hu⟩ := nam_good h
    have hbb := nam_byte hb at_.toNat
    obtain ⟨k1, k2, k3, k4⟩ := name_ok hu
    have k5 : u ≠ [] := by rintro rfl; exact k3 rfl
    refine ⟨by omega, h2, ?_, ?_, ?_⟩
    · rw [isEmpty_byt, byt_strN _ hbb, k4]
      simp [low, k5]
    · rw [strN_size, k4, low_length]; exact k1
    · rw [byt_strN _ hbb, k4, low_low]
theorem namI_bad {b : List Nat} {at_ : Int} {R : List Nat × Nat × Er} (hR : R = namI b at_) (h : ¬ R.2.2 = .ok) : strN R.1 = ⟨#[]⟩ ∧ R.2.1 = 0 := by
  subst hR
  unfold namI at h ⊢
  split at h
  · rename_i hn; rw [if_pos hn]; exact ⟨rfl, rfl⟩
  · rename_i hn
    rw [if_neg hn, nam_bad h]
    exact ⟨rfl, rfl⟩
set_option maxRecDepth 100000 in
set_option maxHeartbeats 8000000 in
theorem bounds_walk (a : Option Addr) (n c : Nat) (b : List Nat) (at_ : Int) (w : World) (hV : Vars w) (h : Src w a n c b) (_ : n ≤ 140737488351232) (hat : -9223372036854775808 ≤ at_ ∧ at_ ≤ 9223372036854775807) : Calls Tryd.prog 6 #[.slice a n c, .int .i64 at_] w fun e w' => e = .returned (.bool true) ∧ Below w.heap.size w w' := by
  have V0 := hide hV
  have hlen := h.hlen
  have hcap := h.hcap
  have hmx := h.hmax
  unfold maxLen at hmx
  have HWK := hide (works_at w hV)
  by_cases hbig : 4000 < n
  · have d1 : decide (4000 < (n : Int)) = true := decide_eq_true (by omega)
    have d1' : decide (4000 < n) = true := decide_eq_true hbig
    obtain ⟨bb, hbb⟩ : ∃ bb, bb = b.take 4000 := ⟨_, rfl⟩
    have SB : Hid (Src w a 4000 c bb) := by
      rw [hbb]
      refine ⟨by rw [List.length_take]; omega, by omega, h.hmax, h.nil, fun h0 => ?_, fun x hx => h.byte x (List.mem_of_mem_take hx)⟩
      obtain ⟨xb, xo, e, hx, hc⟩ := h.lies (by omega)
      exact ⟨xb, xo, e, hx, fun i hi => by rw [hc i (by omega)]; simp [List.getD, List.getElem?_take, hi]⟩
    have hn : (4000 : Nat) ≤ 4000 := Nat.le_refl _
    have hc4 : 4000 ≤ c := by omega
    have hc4' : (4000 : Int) ≤ c := by omega
    clear h hV hbb hbig
    go_enter Tryd.func6, Tryd.ntmps6
    go_wp2_with fail
    refine HWK.out.mono ?_
    rintro e w1 ⟨rfl, b1⟩
    have B1 := hide b1
    have S1 := hide (SB.out.below b1)
    have V1 := hide (V0.out.below b1)
    have HNM := hide (name_at a 4000 c bb at_ w1 S1.out V1.out hat.1 hat.2)
    obtain ⟨R, hR⟩ : ∃ R, R = namI bb at_ := ⟨_, rfl⟩
    rw [← hR] at HNM
    obtain ⟨X, hX⟩ : ∃ X, X = strN R.1 := ⟨_, rfl⟩
    obtain ⟨Y, hY⟩ : ∃ Y, Y = R.2.1 := ⟨_, rfl⟩
    rw [← hX, ← hY] at HNM
    have HX := hide hX
    have HY := hide hY
    have HR := hide hR
    clear b1 HWK hR hX hY
    go_wp2_with fail
    refine HNM.out.mono ?_
    rintro e w2 ⟨v2, rfl, i2, b2⟩
    have B2 := hide (B1.out.trans (b2.mono B1.out.size))
    have S2 := hide (S1.out.below b2)
    have V2 := hide (V1.out.below b2)
    have HAN := hide (answer_at a 4000 c bb w2 S2.out V2.out (by omega))
    clear b2 HNM
    by_cases hok : R.2.2 = .ok
    · obtain rfl := i2.nil hok
      obtain ⟨y1, y2, y3, y4, y5⟩ := namI_good HR.out hok SB.out.byte hat.1
      rw [← HY.out] at y1 y2
      rw [← HX.out] at y3 y4 y5
      have q1 : decide ((Y : Int) ≤ at_) = false := decide_eq_false (by omega)
      have hsl := SB.out.hlen
      have q2 : decide ((4000 : Int) < (Y : Int)) = false := decide_eq_false (by omega)
      have q2' : decide ((4000 : Nat) < Y) = false := decide_eq_false (by omega)
      have q4 : decide (253 < (X.size : Int)) = false := decide_eq_false (by omega)
      have q4' : decide (253 < X.size) = false := decide_eq_false (by omega)
      have q6 : (X.toList == X.toList) = true := by simp
      have he2 : ¬ X.toList = [] := by intro e; rw [e] at y3; cases y3
      have HLW := hide (lower_at X w2 (by omega))
      rw [y5] at HLW
      clear i2 hok y1 y2 y4 y5 hsl HX HY HR
      go_wp2_with fail
      refine HLW.out.mono ?_
      rintro e w3 ⟨rfl, b3⟩
      have B3 := hide (B2.out.trans (b3.mono B2.out.size))
      have HAN := hide (answer_at a 4000 c bb w3 (S2.out.below b3) (V2.out.below b3) (by omega))
      clear b3 HLW
      go_wp2_with fail
      refine HAN.out.mono ?_
      rintro e w4 ⟨v4, er, rfl, o4, i4, b4⟩
      have B4 := hide (B3.out.trans (b4.mono B3.out.size))
      obtain ⟨va, vc, rfl⟩ := o4.shape
      obtain ⟨z1, z2⟩ := ans_bound SB.out.byte
      obtain ⟨K, hK⟩ : ∃ K, K = (ans bb).1.ad.length := ⟨_, rfl⟩
      obtain ⟨I, hI⟩ : ∃ I, I = (ans bb).1.id := ⟨_, rfl⟩
      obtain ⟨C, hC⟩ : ∃ C, C = (ans bb).1.cd := ⟨_, rfl⟩
      obtain ⟨T, hT⟩ : ∃ T, T = (ans bb).1.tl := ⟨_, rfl⟩
      obtain ⟨QN, hQN⟩ : ∃ Q, Q = strN (ans bb).1.nm := ⟨_, rfl⟩
      have hsl := SB.out.hlen
      have HBX := hide (B4.out.trans ((Below.refl w4.heap.size w4).alloc (Nat.le_refl _) (.cells #[.int .i64 (I : Nat), .string QN, .int .i64 (C : Nat), .slice va K vc, .int .i64 (T : Nat)] 43) |>.mono B4.out.size))
      by_cases hok2 : (ans bb).2 = .ok
      · obtain ⟨x1, _⟩ := z2 hok2
        omega
      · obtain ⟨eb2, rfl⟩ := i4.ptr hok2
        have hz := z1 hok2
        rw [← hK, ← hI, ← hC, ← hT, ← hQN]
        rw [hz] at hK hQN
        have hK0 : K = 0 := hK
        have hQ0 : QN = ⟨#[]⟩ := hQN
        clear z1 z2 hok2 i4 o4 b4 hK hI hC hT hQN hsl hz
        subst hK0 hQ0
        go_wp2_with fail
        go_ret
        exact ⟨rfl, HBX.out⟩
    · obtain ⟨eb, rfl⟩ := i2.ptr hok
      obtain ⟨y1, y2⟩ := namI_bad HR.out hok
      rw [← HY.out] at y2
      rw [← HX.out] at y1
      subst y1 y2
      have B3 := hide B2.out
      obtain ⟨w3, hw3⟩ : ∃ w3, w3 = w2 := ⟨_, rfl⟩
      rw [← hw3] at HAN B3 ⊢
      clear i2 hok HX HY HR hw3
      go_wp2_with fail
      refine HAN.out.mono ?_
      rintro e w4 ⟨v4, er, rfl, o4, i4, b4⟩
      have B4 := hide (B3.out.trans (b4.mono B3.out.size))
      obtain ⟨va, vc, rfl⟩ := o4.shape
      obtain ⟨z1, z2⟩ := ans_bound SB.out.byte
      obtain ⟨K, hK⟩ : ∃ K, K = (ans bb).1.ad.length := ⟨_, rfl⟩
      obtain ⟨I, hI⟩ : ∃ I, I = (ans bb).1.id := ⟨_, rfl⟩
      obtain ⟨C, hC⟩ : ∃ C, C = (ans bb).1.cd := ⟨_, rfl⟩
      obtain ⟨T, hT⟩ : ∃ T, T = (ans bb).1.tl := ⟨_, rfl⟩
      obtain ⟨QN, hQN⟩ : ∃ Q, Q = strN (ans bb).1.nm := ⟨_, rfl⟩
      have hsl := SB.out.hlen
      have HBX := hide (B4.out.trans ((Below.refl w4.heap.size w4).alloc (Nat.le_refl _) (.cells #[.int .i64 (I : Nat), .string QN, .int .i64 (C : Nat), .slice va K vc, .int .i64 (T : Nat)] 43) |>.mono B4.out.size))
      by_cases hok2 : (ans bb).2 = .ok
      · obtain ⟨x1, _⟩ := z2 hok2
        omega
      · obtain ⟨eb2, rfl⟩ := i4.ptr hok2
        have hz := z1 hok2
        rw [← hK, ← hI, ← hC, ← hT, ← hQN]
        rw [hz] at hK hQN
        have hK0 : K = 0 := hK
        have hQ0 : QN = ⟨#[]⟩ := hQN
        clear z1 z2 hok2 i4 o4 b4 hK hI hC hT hQN hsl hz
        subst hK0 hQ0
        go_wp2_with fail
        go_ret
        exact ⟨rfl, HBX.out⟩

  · have d1 : decide (4000 < (n : Int)) = false := decide_eq_false (by omega)
    have d1' : decide (4000 < n) = false := decide_eq_false hbig
    obtain ⟨bb, hbb⟩ : ∃ bb, bb = b := ⟨_, rfl⟩
    have SB : Hid (Src w a n c bb) := by rw [hbb]; exact h
    have hn : n ≤ 4000 := by omega
    clear h hV hbb hbig
    go_enter Tryd.func6, Tryd.ntmps6
    go_wp2_with fail
    refine HWK.out.mono ?_
    rintro e w1 ⟨rfl, b1⟩
    have B1 := hide b1
    have S1 := hide (SB.out.below b1)
    have V1 := hide (V0.out.below b1)
    have HNM := hide (name_at a n c bb at_ w1 S1.out V1.out hat.1 hat.2)
    obtain ⟨R, hR⟩ : ∃ R, R = namI bb at_ := ⟨_, rfl⟩
    rw [← hR] at HNM
    obtain ⟨X, hX⟩ : ∃ X, X = strN R.1 := ⟨_, rfl⟩
    obtain ⟨Y, hY⟩ : ∃ Y, Y = R.2.1 := ⟨_, rfl⟩
    rw [← hX, ← hY] at HNM
    have HX := hide hX
    have HY := hide hY
    have HR := hide hR
    clear b1 HWK hR hX hY
    go_wp2_with fail
    refine HNM.out.mono ?_
    rintro e w2 ⟨v2, rfl, i2, b2⟩
    have B2 := hide (B1.out.trans (b2.mono B1.out.size))
    have S2 := hide (S1.out.below b2)
    have V2 := hide (V1.out.below b2)
    have HAN := hide (answer_at a n c bb w2 S2.out V2.out (by omega))
    clear b2 HNM
    by_cases hok : R.2.2 = .ok
    · obtain rfl := i2.nil hok
      obtain ⟨y1, y2, y3, y4, y5⟩ := namI_good HR.out hok SB.out.byte hat.1
      rw [← HY.out] at y1 y2
      rw [← HX.out] at y3 y4 y5
      have q1 : decide ((Y : Int) ≤ at_) = false := decide_eq_false (by omega)
      have hsl := SB.out.hlen
      have q2 : decide ((n : Int) < (Y : Int)) = false := decide_eq_false (by omega)
      have q2' : decide ((n : Nat) < Y) = false := decide_eq_false (by omega)
      have q4 : decide (253 < (X.size : Int)) = false := decide_eq_false (by omega)
      have q4' : decide (253 < X.size) = false := decide_eq_false (by omega)
      have q6 : (X.toList == X.toList) = true := by simp
      have he2 : ¬ X.toList = [] := by intro e; rw [e] at y3; cases y3
      have HLW := hide (lower_at X w2 (by omega))
      rw [y5] at HLW
      clear i2 hok y1 y2 y4 y5 hsl HX HY HR
      go_wp2_with fail
      refine HLW.out.mono ?_
      rintro e w3 ⟨rfl, b3⟩
      have B3 := hide (B2.out.trans (b3.mono B2.out.size))
      have HAN := hide (answer_at a n c bb w3 (S2.out.below b3) (V2.out.below b3) (by omega))
      clear b3 HLW
      go_wp2_with fail
      refine HAN.out.mono ?_
      rintro e w4 ⟨v4, er, rfl, o4, i4, b4⟩
      have B4 := hide (B3.out.trans (b4.mono B3.out.size))
      obtain ⟨va, vc, rfl⟩ := o4.shape
      obtain ⟨z1, z2⟩ := ans_bound SB.out.byte
      obtain ⟨K, hK⟩ : ∃ K, K = (ans bb).1.ad.length := ⟨_, rfl⟩
      obtain ⟨I, hI⟩ : ∃ I, I = (ans bb).1.id := ⟨_, rfl⟩
      obtain ⟨C, hC⟩ : ∃ C, C = (ans bb).1.cd := ⟨_, rfl⟩
      obtain ⟨T, hT⟩ : ∃ T, T = (ans bb).1.tl := ⟨_, rfl⟩
      obtain ⟨QN, hQN⟩ : ∃ Q, Q = strN (ans bb).1.nm := ⟨_, rfl⟩
      have hsl := SB.out.hlen
      have HBX := hide (B4.out.trans ((Below.refl w4.heap.size w4).alloc (Nat.le_refl _) (.cells #[.int .i64 (I : Nat), .string QN, .int .i64 (C : Nat), .slice va K vc, .int .i64 (T : Nat)] 43) |>.mono B4.out.size))
      by_cases hok2 : (ans bb).2 = .ok
      · obtain rfl := i4.nil hok2
        obtain ⟨x1, x2, x3, x4, x5, x6⟩ := z2 hok2
        have x4' : K = 0 → T = 0 := by rw [hK, hT, List.length_eq_zero_iff]; exact x4
        have x5' : C ≠ 0 → K = 0 := by rw [hC, hK, List.length_eq_zero_iff]; exact x5
        rw [← hK, ← hI, ← hC, ← hT, ← hQN]
        rw [← hK] at x2
        rw [← hT] at x3
        rw [← hI] at x6
        have f1 : decide ((n : Int) ≤ 512) = true := decide_eq_true (by omega)
        have f1' : decide ((n : Nat) ≤ 512) = true := decide_eq_true (by omega)
        have f2 : decide ((K : Int) ≤ 16) = true := decide_eq_true (by omega)
        have f2' : decide (K ≤ 16) = true := decide_eq_true (by omega)
        have f3 : decide ((T : Int) ≤ 1048576) = true := decide_eq_true (by omega)
        have f3' : decide (T ≤ 1048576) = true := decide_eq_true (by omega)
        have f6 : decide ((I : Int) < 65536) = true := decide_eq_true (by omega)
        have f6' : decide (I < 65536) = true := decide_eq_true (by omega)
        clear z1 z2 x1 x2 x3 x4 x5 x6 hok2 i4 o4 b4 hK hI hC hT hQN hsl
        by_cases hk0 : K = 0
        · obtain rfl := x4' hk0
          subst hk0
          clear x4' x5'
          by_cases hc0 : C = 0
          · subst hc0
            go_wp2_with fail
            go_ret
            exact ⟨rfl, HBX.out⟩
          · have g1 : ((C : Int) == 0) = false := by simp; omega
            go_wp2_with fail
            go_ret
            exact ⟨rfl, HBX.out⟩
        · obtain rfl : C = 0 := by omega
          have g2 : decide (0 < (K : Int)) = true := decide_eq_true (by omega)
          have g2' : decide (0 < K) = true := decide_eq_true (by omega)
          clear x4' x5'
          go_wp2_with fail
          go_ret
          exact ⟨rfl, HBX.out⟩
      · obtain ⟨eb2, rfl⟩ := i4.ptr hok2
        have hz := z1 hok2
        rw [← hK, ← hI, ← hC, ← hT, ← hQN]
        rw [hz] at hK hQN
        have hK0 : K = 0 := hK
        have hQ0 : QN = ⟨#[]⟩ := hQN
        clear z1 z2 hok2 i4 o4 b4 hK hI hC hT hQN hsl hz
        subst hK0 hQ0
        go_wp2_with fail
        go_ret
        exact ⟨rfl, HBX.out⟩
    · obtain ⟨eb, rfl⟩ := i2.ptr hok
      obtain ⟨y1, y2⟩ := namI_bad HR.out hok
      rw [← HY.out] at y2
      rw [← HX.out] at y1
      subst y1 y2
      have B3 := hide B2.out
      obtain ⟨w3, hw3⟩ : ∃ w3, w3 = w2 := ⟨_, rfl⟩
      rw [← hw3] at HAN B3 ⊢
      clear i2 hok HX HY HR hw3
      go_wp2_with fail
      refine HAN.out.mono ?_
      rintro e w4 ⟨v4, er, rfl, o4, i4, b4⟩
      have B4 := hide (B3.out.trans (b4.mono B3.out.size))
      obtain ⟨va, vc, rfl⟩ := o4.shape
      obtain ⟨z1, z2⟩ := ans_bound SB.out.byte
      obtain ⟨K, hK⟩ : ∃ K, K = (ans bb).1.ad.length := ⟨_, rfl⟩
      obtain ⟨I, hI⟩ : ∃ I, I = (ans bb).1.id := ⟨_, rfl⟩
      obtain ⟨C, hC⟩ : ∃ C, C = (ans bb).1.cd := ⟨_, rfl⟩
      obtain ⟨T, hT⟩ : ∃ T, T = (ans bb).1.tl := ⟨_, rfl⟩
      obtain ⟨QN, hQN⟩ : ∃ Q, Q = strN (ans bb).1.nm := ⟨_, rfl⟩
      have hsl := SB.out.hlen
      have HBX := hide (B4.out.trans ((Below.refl w4.heap.size w4).alloc (Nat.le_refl _) (.cells #[.int .i64 (I : Nat), .string QN, .int .i64 (C : Nat), .slice va K vc, .int .i64 (T : Nat)] 43) |>.mono B4.out.size))
      by_cases hok2 : (ans bb).2 = .ok
      · obtain rfl := i4.nil hok2
        obtain ⟨x1, x2, x3, x4, x5, x6⟩ := z2 hok2
        have x4' : K = 0 → T = 0 := by rw [hK, hT, List.length_eq_zero_iff]; exact x4
        have x5' : C ≠ 0 → K = 0 := by rw [hC, hK, List.length_eq_zero_iff]; exact x5
        rw [← hK, ← hI, ← hC, ← hT, ← hQN]
        rw [← hK] at x2
        rw [← hT] at x3
        rw [← hI] at x6
        have f1 : decide ((n : Int) ≤ 512) = true := decide_eq_true (by omega)
        have f1' : decide ((n : Nat) ≤ 512) = true := decide_eq_true (by omega)
        have f2 : decide ((K : Int) ≤ 16) = true := decide_eq_true (by omega)
        have f2' : decide (K ≤ 16) = true := decide_eq_true (by omega)
        have f3 : decide ((T : Int) ≤ 1048576) = true := decide_eq_true (by omega)
        have f3' : decide (T ≤ 1048576) = true := decide_eq_true (by omega)
        have f6 : decide ((I : Int) < 65536) = true := decide_eq_true (by omega)
        have f6' : decide (I < 65536) = true := decide_eq_true (by omega)
        clear z1 z2 x1 x2 x3 x4 x5 x6 hok2 i4 o4 b4 hK hI hC hT hQN hsl
        by_cases hk0 : K = 0
        · obtain rfl := x4' hk0
          subst hk0
          clear x4' x5'
          by_cases hc0 : C = 0
          · subst hc0
            go_wp2_with fail
            go_ret
            exact ⟨rfl, HBX.out⟩
          · have g1 : ((C : Int) == 0) = false := by simp; omega
            go_wp2_with fail
            go_ret
            exact ⟨rfl, HBX.out⟩
        · obtain rfl : C = 0 := by omega
          have g2 : decide (0 < (K : Int)) = true := decide_eq_true (by omega)
          have g2' : decide (0 < K) = true := decide_eq_true (by omega)
          clear x4' x5'
          go_wp2_with fail
          go_ret
          exact ⟨rfl, HBX.out⟩
      · obtain ⟨eb2, rfl⟩ := i4.ptr hok2
        have hz := z1 hok2
        rw [← hK, ← hI, ← hC, ← hT, ← hQN]
        rw [hz] at hK hQN
        have hK0 : K = 0 := hK
        have hQ0 : QN = ⟨#[]⟩ := hQN
        clear z1 z2 hok2 i4 o4 b4 hK hI hC hT hQN hsl hz
        subst hK0 hQ0
        go_wp2_with fail
        go_ret
        exact ⟨rfl, HBX.out⟩

end Go.Proofs.YtelfikbahcckaaaDoor
