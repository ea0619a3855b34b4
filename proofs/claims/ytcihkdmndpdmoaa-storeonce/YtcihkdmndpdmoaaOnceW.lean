/-
  There are never more entries than slots, and no key has two: what the statement does; conditions as each theorem has them.
-/
import Derived.Test.YtcihkdmndpdmoaaT
set_option linter.unusedSimpArgs false
set_option linter.unusedVariables false
namespace Go.Proofs.Ytcihkdmndpdmoaa
open Go.RowKit
set_option maxRecDepth 100000 in
set_option maxHeartbeats 8000000 in
theorem once_walk (s k0 : Int) (a : Option Addr) (len cap : Nat) (f : Nat → Ac) (w : World) (hA : IsActs w a len cap f) : Calls Try.prog 5 #[.int .i64 s, .int .i64 k0, .slice a len cap] w fun e w' => e = .returned (.bool true) ∧ Below w.heap.size w w' := by
  obtain ⟨hlc, hcm, hI⟩ := hA
  have HA := hide hI
  clear hI
  go_enter Try.func5, Try.ntmps5
  go_wp2_with fail
  refine (works_at w).mono ?_
  rintro e w1 ⟨rfl, k1⟩
  have K1 := hide k1
  clear k1
  go_wp2_with fail
  refine (among s 20 (by omega) (by omega) w1).mono ?_
  rintro e w2 ⟨N, hN, rfl, rfl⟩
  go_wp2_with fail
  refine (among k0 64 (by omega) (by omega) w1).mono ?_
  rintro e w2 ⟨Q, hQ, rfl, rfl⟩
  go_wp2_with fail
  refine (new_good N Q w1 (by omega) (by omega) (by have := Nat.mul_le_mul (show N ≤ 20 by omega) (show Q ≤ 64 by omega); omega)).mono ?_
  rintro e w3 ⟨rfl, h3, k3⟩
  have K3 := hide (K1.out.trans (k3.mono K1.out.size))
  have H3 := hide h3
  have hw1 : w.heap.size ≤ w1.heap.size := K1.out.size
  clear h3 k3 K1
  obtain ⟨r, hr⟩ : ∃ r, r = w1.heap.size + 1 := ⟨_, rfl⟩
  obtain ⟨g, hg⟩ : ∃ g, g = w1.heap.size := ⟨_, rfl⟩
  rw [← hr, ← hg] at H3
  rw [← hr]
  have hrB : w.heap.size ≤ r := by omega
  have hgB : w.heap.size ≤ g := by omega
  clear hr hg hw1
  go_wp2_with fail
  go_loopw [9] (fun v wr => ∃ (i : Nat) (L : List Sl) (h : Nat), i ≤ len ∧ v = .int .i64 i ∧ Hid (IsTab wr r g Q L h) ∧ Hid (L.length = N) ∧ Hid (Below w.heap.size w wr)) (fun v _ => len - (intOf v).toNat)
  case atStart => exact ⟨0, _, 0, Nat.zero_le _, rfl, H3, List.length_replicate, K3⟩
  case round =>
    clear H3 K3
    obtain ⟨i, L, h, hi, rfl, HT, HLN, HB⟩ := hrel
    by_cases hil : i < len
    · have hd : decide ((i : Int) < (len : Int)) = true := decide_eq_true (by omega)
      obtain ⟨b, o, rfl, hX, hOf⟩ := acts_at HA.out HB.out hil
      obtain ⟨b', o', eb, hY, _⟩ := acts_at HA.out HB.out (show 0 < len by omega)
      simp only [Option.some.injEq, Addr.mk.injEq, and_true] at eb
      obtain ⟨rfl, rfl⟩ := eb
      have hbw : b < w.heap.size := by
        obtain ⟨b', o', e', hb', _⟩ := HA.out (by omega)
        simp only [Option.some.injEq, Addr.mk.injEq, and_true] at e'
        omega
      have y3 := hY.c3
      rw [Nat.zero_mul, Nat.add_zero] at y3
      generalize (f 0).key = key0 at y3
      generalize f i = x at hX hOf
      obtain ⟨e0, e1, e2, e3, e4, hsrc, hlen, hin1, hin2⟩ := hX
      obtain ⟨xk, xnow, xage, xkey, xa, xn, xc, xl⟩ := x
      simp only at e0 e1 e2 e3 e4 hsrc hlen hin1 hin2 hOf
      have hbx : Below wr.heap.size wr (wr.alloc (.cells #[.int .i64 xk, .int .i64 xnow, .int .i64 xage, .string xkey, .slice xa xn xc] 32)) := (Below.refl _ _).alloc (Nat.le_refl _) _
      obtain ⟨W, hW⟩ : ∃ W, W = wr.alloc (.cells #[.int .i64 xk, .int .i64 xnow, .int .i64 xage, .string xkey, .slice xa xn xc] 32) := ⟨_, rfl⟩
      rw [← hW] at hbx
      have hbk : W.heap[wr.heap.size]? = some (.cells #[.int .i64 xk, .int .i64 xnow, .int .i64 xage, .string xkey, .slice xa xn xc] 32) := by rw [hW]; exact alloc_new _ _
      have HW := hide hW.symm
      have BK := hide hbk
      have TW := hide (HT.out.below hbx)
      have SW := hide (hsrc.below hbx)
      have BW := hide (HB.out.trans (hbx.mono HB.out.size))
      have Y3 := hide ((hbx.cell (p := ⟨b, o + 3, none⟩) (lt_of_cell y3)).trans y3)
      have LW : Hid (r ≠ wr.heap.size ∧ g ≠ wr.heap.size) := ⟨by have := HT.out.lt.1; omega, by have := HT.out.lt.2; omega⟩
      have hlr := HT.out.lt.1
      have hlg := HT.out.lt.2
      have OF : Hid (Off xa xn r ∧ Off xa xn g) := ⟨fun h0 b' o' e' => by have := hOf (by omega) b' o' e'; omega, fun h0 b' o' e' => by have := hOf (by omega) b' o' e'; omega⟩
      have HP := hide (put_at r g Q h L xnow xkey xa xn xc xl xage W TW.out SW.out OF.out)
      have HL2 : Hid ((put Q L h xnow xkey (strN xl) xage).1.length = N) := (put_length TW.out.inv _ _ _ _).trans HLN.out
      have hcode : code Q L xnow xkey xn xage ≠ 0 ∨ (code Q L xnow xkey xn xage = 0 ∧ xn ≤ Q) := by
        by_cases hc : code Q L xnow xkey xn xage = 0
        · exact Or.inr ⟨hc, (code_ok hc).2.1⟩
        · exact Or.inl hc
      have hxc := hsrc.hcap
      have hxm := hsrc.hmax
      unfold maxLen at hxm
      generalize code Q L xnow xkey xn xage = C at HP hcode
      generalize (put Q L h xnow xkey (strN xl) xage).2 = h2 at HP
      generalize (put Q L h xnow xkey (strN xl) xage).1 = L2 at HP HL2
      clear hW hbx hbk hsrc hlen hin1 hin2 HT HB hOf HLN hY y3
      have g1 : W.cell? ⟨wr.heap.size, 1, none⟩ = some (.int .i64 xnow) := by simp [World.cell?, BK.out]
      have g2 : W.cell? ⟨wr.heap.size, 2, none⟩ = some (.int .i64 xage) := by simp [World.cell?, BK.out]
      have g3 : W.cell? ⟨wr.heap.size, 3, none⟩ = some (.string xkey) := by simp [World.cell?, BK.out]
      have g4 : W.cell? ⟨wr.heap.size, 4, none⟩ = some (.slice xa xn xc) := by simp [World.cell?, BK.out]
      have hCC : (C == 0) = false ∨ ((C == 0) = true ∧ xn ≤ Q) := by
        rcases hcode with h0 | ⟨h0, h1⟩
        · exact Or.inl (by simp [h0])
        · exact Or.inr ⟨by simp [h0], h1⟩
      clear hcode
      go_wp2_with fail
      rw [HW.out]
      refine HP.out.mono ?_
      rintro e w4 ⟨rfl, t4, k4⟩
      have T4 := hide t4
      have K4 := hide (k4.belowT BW.out hrB hgB)
      have b4 : w4.heap[wr.heap.size]? = some (.cells #[.int .i64 xk, .int .i64 xnow, .int .i64 xage, .string xkey, .slice xa xn xc] 32) := k4.at_ BK.out (Ne.symm LW.out.1) (Ne.symm LW.out.2)
      have c1' : w4.cell? ⟨wr.heap.size, 1, none⟩ = some (.int .i64 xnow) := by simp [World.cell?, b4]
      have c4' : w4.cell? ⟨wr.heap.size, 4, none⟩ = some (.slice xa xn xc) := by simp [World.cell?, b4]
      have y4' : w4.cell? ⟨b, o + 3, none⟩ = some (.string key0) := (World.cell?_of_block (k4.block b (lt_of_cell Y3.out) (by omega) (by omega))).trans Y3.out
      have C1 := hide c1'
      have Y4 := hide y4'
      have hbw4 : wr.heap.size < w4.heap.size := lt_of_some b4
      have hb4 := lt_of_cell y4'
      have HG := hide (get_at r g Q h2 L2 xnow key0 (w4.drewN 1) (T4.out.drewN 1))
      have HL3 : Hid ((getL L2 xnow key0).length = N) := (getL_length _ _ _).trans HL2.out
      generalize getL L2 xnow key0 = L3 at HG HL3
      clear t4 k4 b4 g1 g2 g3 g4 e0 e1 e2 e3 e4
      have hne : Hid (wr.heap.size ≠ g ∧ b ≠ g) := ⟨Ne.symm LW.out.2, by show b ≠ g; omega⟩
      have hl0 : (0 : Int) < (len : Int) := by omega
      have hl0' : 0 < len := by omega
      rcases hCC with u0 | ⟨u0, hxQ⟩
      all_goals
        first
          | (have u1 : decide ((xn : Int) > (Q : Int)) = false := decide_eq_false (by omega)
             have u2 : decide ((Q : Int) < (xn : Int)) = false := decide_eq_false (by omega)
             have u3 : decide (Q < xn) = false := decide_eq_false (by omega))
          | skip
        go_wp2_with fail
        go_region_held3 (fun w' => w'.cell? ⟨wr.heap.size, 1, none⟩ = some (.int .i64 xnow) ∧ w'.cell? ⟨b, o + 3, none⟩ = some (.string key0)) (first | assumption | exact ⟨by assumption, by assumption⟩ | go_keep) (first | (go_at_call 16; refine HG.out.mono ?_; rintro e w5 ⟨v, rfl, ho, t5, k5⟩; have T5 := hide t5; have kk := ((Kept.refl g g w4).drewN 1).trans k5; have K5 := hide (kk.belowT K4.out hgB hgB); have f1 := (World.cell?_of_block (kk.block wr.heap.size hbw4 hne.out.1 hne.out.1)).trans C1.out; have f3 := (World.cell?_of_block (kk.block b hb4 hne.out.2 hne.out.2)).trans Y4.out; clear t5 k5 ho kk))
        all_goals
          have HKE := hide (keys_at r g Q h2 L3 w5 T5.out)
          rw [HL3.out] at HKE
          clear f1 f3 c1' c4' y4'
          go_wp2_with fail
          refine HKE.out.mono ?_
          rintro e w6 ⟨rfl, t6, k6⟩
          have T6 := hide (T5.out.below k6)
          have S6 : Hid (SrcT w6 (some ⟨w5.heap.size, 0, none⟩) N N (nms L3)) := SrcT.of_block t6 (by rw [nms_length]; exact HL3.out) (by unfold maxLen; omega)
          have K6 := hide (K5.out.trans (k6.mono K5.out.size))
          clear t6 k6 T5 K5 T4 K4 HKE
          have HUs := fun w' t => hide (used_at r g Q h2 L3 w' t)
          have HU : Hid (used L3 = cnt L3 N) := by show _ = _; unfold used; rw [HL3.out]
          have hUN : used L3 ≤ N := by have := used_le L3; rw [HL3.out] at this; exact this
          generalize used L3 = U at HUs hUN HU
          have HHs := fun w' t => hide (hand_at r g Q h2 L3 w' t)
          have hhand : (N = 0 ∧ h2 = 0) ∨ (N = 1 ∧ h2 = 0) ∨ (2 ≤ N ∧ h2 < N) := by
            rcases T6.out.inv.hand with hh | ⟨hh, hh'⟩
            · rw [HL3.out] at hh
              omega
            · rw [hh] at HL3
              have := HL3.out
              simp at this
              omega
          have v0 : (!(((N : Nat) : Int) == ((N : Nat) : Int))) = false := by simp
          have v1 : decide ((U : Int) > (N : Int)) = false := decide_eq_false (by omega)
          have v1' : decide ((N : Int) < (U : Int)) = false := decide_eq_false (by omega)
          have v2 : decide ((h2 : Int) < 0) = false := decide_eq_false (by omega)
          have HCN : Hid (∀ wr2 : World, Below w6.heap.size w6 wr2 → ∀ j, j < N → wr2.cell? ⟨w5.heap.size, j, none⟩ = some (.string (at0 L3 j).key)) := fun wr2 kk j hj => by
            obtain ⟨b', o', e', hc⟩ := (S6.out.below kk).at_ hj
            simp only [Option.some.injEq, Addr.mk.injEq, and_true] at e'
            obtain ⟨rfl, rfl⟩ := e'
            rw [Nat.zero_add] at hc
            rw [hc]
            have hjL : j < L3.length := by rw [HL3.out]; exact hj
            simp [nms, at0, hjL]
          have HUQ : Hid (∀ j k, k < j → j < N → (at0 L3 j).key.size ≠ 0 → (at0 L3 j).key ≠ (at0 L3 k).key) := fun j k hkj hj h0 e => by
            have := T6.out.inv.uniq j k _ _ (get_at0 (by rw [HL3.out]; omega)) (get_at0 (by rw [HL3.out]; omega)) e h0
            omega
          have HN64 := hide hN
          obtain ⟨M, hM⟩ : ∃ M : Int, M = (N : Int) - 1 := ⟨_, rfl⟩
          have m1 : (N : Int) - 1 = M := hM.symm
          have b1 : -1 ≤ M := by omega
          have b2 : M ≤ 64 := by omega
          have v3 : ¬ (max 0 M < (h2 : Int)) := by omega
          have v4 : ¬ (N < U) := by omega
          have v5 : decide ((h2 : Int) > max 0 M) = false := decide_eq_false (by omega)
          clear hhand hM
          all_goals
            go_wp2_with fail
            refine (HUs _ T6.out).out.mono ?_
            rintro e w7 ⟨rfl, k7⟩
            have T7 := hide (T6.out.below k7)
            have B7 := hide k7
            clear k7
            go_wp2_with fail
            refine (HHs _ T7.out).out.mono ?_
            rintro e w8 ⟨rfl, rfl⟩
            go_wp2_with fail
            refine (HHs _ T7.out).out.mono ?_
            rintro e w8 ⟨rfl, rfl⟩
            go_wp2_with fail
            clear m1 b1 b2 v3 v5
            go_loopw [12, 13] (fun u v wr2 => ∃ j c : Nat, j ≤ N ∧ c ≤ j ∧ v = .int .i64 j ∧ u = .int .i64 c ∧ Hid (c = cnt L3 j) ∧ Hid (Below w6.heap.size w6 wr2)) (fun _ v _ => N - (intOf v).toNat)
            case atStart => exact ⟨0, 0, Nat.zero_le _, Nat.zero_le _, rfl, rfl, rfl, B7⟩
            case round =>
              obtain ⟨j, c, hj, hc, rfl, rfl, HX, HJ⟩ := hrel
              by_cases hjn : j < N
              · have hd1 : decide ((j : Int) < (N : Int)) = true := decide_eq_true (by omega)
                have hcj := HCN.out _ HJ.out j hjn
                have hz0 : (at0 L3 j).key.size = 0 ∨ (at0 L3 j).key.size ≠ 0 := by omega
                obtain ⟨nj, hnj⟩ : ∃ nj, nj = (at0 L3 j).key := ⟨_, rfl⟩
                have HNJ := hide hnj
                rw [← hnj] at hcj hz0
                clear hnj
                rcases hz0 with hz | hz
                all_goals
                  first
                    | (have z1 : (nj.toList == []) = true := by rw [ba_nil]; simp [hz]
                       have z2 : nj.toList.isEmpty = true := by rw [ba_emp]; simp [hz]
                       have HX2 : Hid (∃ c' : Nat, c' = c ∧ c' = cnt L3 (j + 1) ∧ c' ≤ j + 1) := ⟨c, rfl, by rw [HX.out]; simp [cnt, ← HNJ.out, hz], by omega⟩)
                    | (have z1 : (nj.toList == []) = false := by rw [ba_nil]; simp [hz]
                       have z2 : nj.toList.isEmpty = false := by rw [ba_emp]; simp [hz]
                       have HX2 : Hid (∃ c' : Nat, c' = c + 1 ∧ c' = cnt L3 (j + 1) ∧ c' ≤ j + 1) := ⟨c + 1, rfl, by rw [HX.out]; simp [cnt, ← HNJ.out, hz], by omega⟩)
                  have HZ := hide hz
                  clear hz
                  go_wp2_with fail
                  go_loopw [14] (fun v wr3 => ∃ k : Nat, k ≤ j ∧ v = .int .i64 k ∧ Hid (Below w6.heap.size w6 wr3)) (fun v _ => j - (intOf v).toNat)
                  case atStart => exact ⟨0, Nat.zero_le _, rfl, HJ⟩
                  case round =>
                    obtain ⟨k, hk, rfl, HK⟩ := hrel
                    clear hcj
                    by_cases hkj : k < j
                    · have hd2 : decide ((k : Int) < (j : Int)) = true := decide_eq_true (by omega)
                      have hcj := HCN.out _ HK.out j hjn
                      have hck := HCN.out _ HK.out k (by omega)
                      have z3 : Hid (nj.size ≠ 0 → (nj.toList == (at0 L3 k).key.toList) = false) := fun h0 => by
                        rw [eq_ba, HNJ.out]
                        simp [HUQ.out j k hkj hjn (by rw [← HNJ.out]; exact h0)]
                      rw [← HNJ.out] at hcj
                      generalize (at0 L3 k).key = nk at hck z3
                      first
                        | (have z4 := z3.out HZ.out)
                        | skip
                      go_wp2_with fail
                      go_region
                      all_goals go_wp2_with fail
                      go_roundw
                      case rel => exact ⟨k + 1, by omega, by go_num, HK.out.drew⟩
                      case measure => simp [intOf]; omega
                    · have hd2 : decide ((k : Int) < (j : Int)) = false := decide_eq_false (by omega)
                      go_wp2_with fail
                      go_roundw
                      case rel =>
                        obtain ⟨c', e', e2, e3⟩ := HX2.out
                        exact ⟨j + 1, c', by omega, e3, by go_num, by rw [e'] <;> go_num, e2, HK⟩
                      case measure => simp [intOf]; omega
              · have hd1 : decide ((j : Int) < (N : Int)) = false := decide_eq_false (by omega)
                obtain rfl : j = N := by omega
                obtain rfl : c = U := by rw [HX.out, HU.out]
                have w0 : (!(((c : Nat) : Int) == ((c : Nat) : Int))) = false := by simp
                have T8 := hide (T6.out.below HJ.out)
                go_wp2_with fail
                refine (HUs _ T8.out).out.mono ?_
                rintro e w9 ⟨rfl, k9⟩
                have T9 := hide (T8.out.below k9)
                have K9 := hide ((K6.out.trans (HJ.out.mono K6.out.size)).trans (k9.mono (K6.out.trans (HJ.out.mono K6.out.size)).size))
                clear k9
                go_wp2_with fail
                go_roundw
                case rel => exact ⟨i + 1, L3, h2, by omega, by go_num, T9, HL3, K9⟩
                case measure => simp [intOf]; omega
    · have hd : decide ((i : Int) < (len : Int)) = false := decide_eq_false (by omega)
      go_wp2_with fail
      go_ret
      exact ⟨rfl, HB.out⟩
end Go.Proofs.Ytcihkdmndpdmoaa
