/-
  No name has two slots, and there are never more entries than slots: what the statement does; conditions as each theorem has them.
-/
import Derived.Test.YtmolcipbopaniaaT
set_option linter.unusedSimpArgs false
set_option linter.unusedVariables false
namespace Go.Proofs.Ytmolcipbopaniaa
open Go.RowKit
set_option maxRecDepth 100000 in
set_option maxHeartbeats 8000000 in
theorem once_walk (s : Int) (a : Option Addr) (len cap : Nat) (f : Nat → Ac) (now : Int) (w : World) (hA : IsActs w a len cap f) : Calls Try.prog 5 #[.int .i64 s, .slice a len cap, .int .i64 now] w fun e w' => e = .returned (.bool true) ∧ Below w.heap.size w w' := by
  obtain ⟨hlc, hcm, hI⟩ := hA
  have HA := hide hI
  clear hI
  go_enter Try.func5, Try.ntmps5
  go_wp2_with fail
  refine (works_at w).mono ?_
  rintro e w1 ⟨rfl, k1⟩
  have K1 := hide k1
  clear k1
  go_wp2_with fail
  refine (among s 20 (by omega) (by omega) w1).mono ?_
  rintro e w2 ⟨N, hN, rfl, rfl⟩
  go_wp2_with fail
  refine (new_good N w1 (by omega)).mono ?_
  rintro e w3 ⟨rfl, h3, k3⟩
  have K3 := hide (K1.out.trans (k3.mono K1.out.size))
  have H3 := hide h3
  have hw1 : w.heap.size ≤ w1.heap.size := K1.out.size
  clear h3 k3 K1
  obtain ⟨r, hr⟩ : ∃ r, r = w1.heap.size + 1 := ⟨_, rfl⟩
  obtain ⟨g, hg⟩ : ∃ g, g = w1.heap.size := ⟨_, rfl⟩
  rw [← hr, ← hg] at H3
  rw [← hr]
  have hrB : w.heap.size ≤ r := by omega
  have hgB : w.heap.size ≤ g := by omega
  clear hr hg hw1
  go_wp2_with fail
  go_loopw [9] (fun v wr => ∃ (i : Nat) (L : List Sl), i ≤ len ∧ v = .int .i64 i ∧ Hid (IsTab wr r g L) ∧ Hid (Uniq L) ∧ Hid (L.length = N) ∧ Hid (Below w.heap.size w wr)) (fun v _ => len - (intOf v).toNat)
  case atStart => exact ⟨0, _, Nat.zero_le _, rfl, H3, new_uniq N, List.length_replicate, K3⟩
  case round =>
    clear H3 K3
    obtain ⟨i, L, hi, rfl, HT, HU, HN, HB⟩ := hrel
    by_cases hil : i < len
    · have hd : decide ((i : Int) < (len : Int)) = true := decide_eq_true (by omega)
      obtain ⟨b, o, rfl, hb, hx⟩ := HA.out (by omega)
      have hx := (hx i hil)
      have hX := hx.below (w' := wr) ⟨HB.out.os, HB.out.tape, HB.out.output, HB.out.size, fun k hk => HB.out.block k hk⟩ hb
      obtain ⟨x, hxx⟩ : ∃ x, x = f i := ⟨_, rfl⟩
      rw [← hxx] at hX
      clear hx hxx
      obtain ⟨e0, e1, e2, e3, e4, hsrc, hlen, hin1, hin2⟩ := hX
      obtain ⟨xk, xnow, xttl, xname, xa, xn, xc, xads⟩ := x
      simp only at e0 e1 e2 e3 e4 hsrc hlen hin1 hin2
      have SRC := hide hsrc
      clear hsrc hlen hin1 hin2
      have hbx : Below wr.heap.size wr (wr.alloc (.cells #[.int .i64 xk, .int .i64 xnow, .int .i64 xttl, .string xname, .slice xa xn xc] 32)) := (Below.refl _ _).alloc (Nat.le_refl _) _
      have HP := hide (put_at r g L xnow xname xa xn xc xads xttl _ (HT.out.belowS hbx) (SRC.out.below hbx))
      have HBX := hide hbx
      clear hbx
      obtain ⟨C, hC⟩ : ∃ C, C = code L xnow xname xn xttl := ⟨_, rfl⟩
      have hC0 : N = 0 → C = 2 ∨ C = 4 := fun e0 => by
        rw [hC]; unfold code
        split
        · exact Or.inl rfl
        · rw [if_pos (by rw [HN.out]; exact e0)]; exact Or.inr rfl
      rw [← hC] at HP
      have HU2 := hide (put_uniq HU.out xnow xname xads xttl)
      have HN2 := hide ((put_length L xnow xname xads xttl).trans HN.out)
      obtain ⟨L2, hL2⟩ : ∃ L2, L2 = put L xnow xname xads xttl := ⟨_, rfl⟩
      rw [← hL2] at HP HU2 HN2
      clear hC hL2 HU HN SRC
      go_wp2_with fail
      refine HP.out.mono ?_
      rintro e w4 ⟨rfl, h4, k4⟩
      have H4 := hide h4
      have K4 := hide ((HB.out.trans (HBX.out.mono HB.out.size)).trans (k4.below hgB hgB (HB.out.trans (HBX.out.mono HB.out.size)).size))
      clear h4 k4 HP HT HB HBX e0 e1 e2 e3 e4
      have HLi := hide (listT_at r g L2 w4 H4.out)
      rw [HN2.out] at HLi
      have key : (((N : Nat) : Int) == 0) = false ∨ ((((N : Nat) : Int) == 0) = true ∧ C = 2) ∨ ((((N : Nat) : Int) == 0) = true ∧ C = 4) := by
        by_cases hN0 : N = 0
        · rcases hC0 hN0 with rfl | rfl
          · exact Or.inr (Or.inl ⟨by simp [hN0], rfl⟩)
          · exact Or.inr (Or.inr ⟨by simp [hN0], rfl⟩)
        · exact Or.inl (by simp [hN0])
      clear hC0
      have q0 : (!(((N : Nat) : Int) == ((N : Nat) : Int))) = false := by simp
      rcases key with c1 | ⟨c1, rfl⟩ | ⟨c1, rfl⟩
      all_goals
        go_wp2_with fail
        refine HLi.out.mono ?_
        rintro e w5 ⟨rfl, t5, k5⟩
        have H5 := hide (H4.out.belowS k5)
        have T5 : Hid (SrcT w5 (some ⟨w4.heap.size, 0, none⟩) N N (nms L2)) := SrcT.of_block t5 (by simp [nms]; exact HN2.out) (by unfold maxLen; omega)
        have K5 := hide (K4.out.trans (k5.mono K4.out.size))
        clear t5 k5
        have HUs := fun w' h => hide (used_at r g L2 now w' h)
        have hUN : used L2 now ≤ N := by have := used_le L2 now; rw [HN2.out] at this; exact this
        generalize used L2 now = U at HUs hUN
        have u1 : decide ((U : Int) > (N : Int)) = false := decide_eq_false (by omega)
        have u1' : decide ((N : Int) < (U : Int)) = false := decide_eq_false (by omega)
        have u2 : decide ((U : Int) < 0) = false := decide_eq_false (by omega)
        go_wp2_with fail
        refine (HUs _ H5.out).out.mono ?_
        rintro e w6 ⟨rfl, k6⟩
        have H6 := hide (H5.out.belowS k6)
        have T6 := hide (T5.out.below k6)
        have K6 := hide (K5.out.trans (k6.mono K5.out.size))
        clear k6 T5 H5 K5 H4 K4 HLi
        go_wp2_with fail
        refine (HUs _ H6.out).out.mono ?_
        rintro e w7 ⟨rfl, k7⟩
        have H7 := hide (H6.out.belowS k7)
        have T7 := hide (T6.out.below k7)
        have K7 := hide (K6.out.trans (k7.mono K6.out.size))
        clear k7 T6 H6 K6 HUs
        have HC : Hid (∀ wr2 : World, Below w7.heap.size w7 wr2 → ∀ j, j < N → wr2.cell? ⟨w4.heap.size, j, none⟩ = some (.string (at0 L2 j).name)) := fun wr2 kk j hj => by
          obtain ⟨b', o', e', hc⟩ := (T7.out.below kk).at_ hj
          simp only [Option.some.injEq, Addr.mk.injEq, and_true] at e'
          obtain ⟨rfl, rfl⟩ := e'
          rw [Nat.zero_add] at hc
          rw [hc]
          have hjL : j < L2.length := by rw [HN2.out]; exact hj
          simp [nms, at0, hjL]
        have HUQ : Hid (∀ j k, k < j → j < N → (at0 L2 j).name.size ≠ 0 → (at0 L2 j).name ≠ (at0 L2 k).name) := fun j k hkj hj h0 e => by
          have := HU2.out j k _ _ (get_at0 (by rw [HN2.out]; omega)) (get_at0 (by rw [HN2.out]; omega)) e h0
          omega
        clear T7
        go_wp2_with fail
        go_loopw [13] (fun v wr2 => ∃ j : Nat, j ≤ N ∧ v = .int .i64 j ∧ Hid (Below w7.heap.size w7 wr2)) (fun v _ => N - (intOf v).toNat)
        case atStart => exact ⟨0, Nat.zero_le _, rfl, Below.refl _ _⟩
        case round =>
          obtain ⟨j, hj, rfl, HJ⟩ := hrel
          by_cases hjn : j < N
          · have hd1 : decide ((j : Int) < (N : Int)) = true := decide_eq_true (by omega)
            go_wp2_with fail
            go_loopw [14] (fun v wr3 => ∃ k : Nat, k ≤ j ∧ v = .int .i64 k ∧ Hid (Below w7.heap.size w7 wr3)) (fun v _ => j - (intOf v).toNat)
            case atStart => exact ⟨0, Nat.zero_le _, rfl, HJ⟩
            case round =>
              obtain ⟨k, hk, rfl, HK⟩ := hrel
              by_cases hkj : k < j
              · have hd2 : decide ((k : Int) < (j : Int)) = true := decide_eq_true (by omega)
                have hcj := HC.out _ HK.out j hjn
                have hck := HC.out _ HK.out k (by omega)
                have hne := HUQ.out j k hkj hjn
                generalize (at0 L2 j).name = nj at hcj hne
                generalize (at0 L2 k).name = nk at hck hne
                by_cases hz : nj.size = 0
                · have z1 : (nj.toList == []) = true := by rw [ba_nil]; simp [hz]
                  have z2 : nj.toList.isEmpty = true := by rw [ba_emp]; simp [hz]
                  clear hne hz
                  go_wp2_with fail
                  go_region
                  all_goals go_wp2_with fail
                  go_roundw
                  case rel => exact ⟨k + 1, by omega, by go_num, HK.out.drew⟩
                  case measure => simp [intOf]; omega
                · have z1 : (nj.toList == []) = false := by rw [ba_nil]; simp [hz]
                  have z2 : nj.toList.isEmpty = false := by rw [ba_emp]; simp [hz]
                  have z3 : (nj.toList == nk.toList) = false := by rw [eq_ba]; simp [hne hz]
                  clear hne hz
                  go_wp2_with fail
                  go_region
                  all_goals go_wp2_with fail
                  go_roundw
                  case rel => exact ⟨k + 1, by omega, by go_num, HK.out.drew⟩
                  case measure => simp [intOf]; omega
              · have hd2 : decide ((k : Int) < (j : Int)) = false := decide_eq_false (by omega)
                go_wp2_with fail
                go_roundw
                case rel => exact ⟨j + 1, by omega, by go_num, HK⟩
                case measure => simp [intOf]; omega
          · have hd1 : decide ((j : Int) < (N : Int)) = false := decide_eq_false (by omega)
            go_wp2_with fail
            go_roundw
            case rel => exact ⟨i + 1, L2, by omega, by go_num, H7.out.belowS HJ.out, HU2, HN2, K7.out.trans (HJ.out.mono K7.out.size)⟩
            case measure => simp [intOf]; omega
    · have hd : decide ((i : Int) < (len : Int)) = false := decide_eq_false (by omega)
      go_wp2_with fail
      go_ret
      exact ⟨rfl, HB.out⟩
end Go.Proofs.Ytmolcipbopaniaa
