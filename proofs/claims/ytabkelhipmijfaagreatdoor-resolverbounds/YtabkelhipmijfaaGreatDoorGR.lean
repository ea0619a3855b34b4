/-
  No more questions are outstanding than may be, and no two for one name: what the statement does; conditions as each theorem has them.
-/
import Derived.Test.YtabkelhipmijfaaGreatDoorGO
import Derived.Test.YtabkelhipmijfaaGreatDoorGX
set_option linter.unusedSimpArgs false
set_option linter.unusedVariables false
namespace Go.Proofs.YtabkelhipmijfaaGreatDoor
open Go.RowKit

theorem acts_at {w wr : World} {a : Option Addr} {len : Nat} {f : Nat → Ac} (h : 0 < len → ∃ b o, a = some ⟨b, o, none⟩ ∧ b < w.heap.size ∧ ∀ i, i < len → AcAt w b o i (f i)) (k : Below w.heap.size w wr) {i : Nat} (hi : i < len) : ∃ b o, a = some ⟨b, o, none⟩ ∧ AcAt wr b o i (f i) := by
  obtain ⟨b, o, e, hb, hx⟩ := h (by omega)
  exact ⟨b, o, e, (hx i hi).below k hb⟩
set_option maxRecDepth 100000 in
set_option maxHeartbeats 8000000 in
theorem bounds_walk (sl mo : Int) (a : Option Addr) (len cap : Nat) (f : Nat → Ac) (w : World) (hA : IsActs w a len cap f) (hV : Vars w) : Calls Tryz.prog 5 #[.int .i64 sl, .int .i64 mo, .slice a len cap] w fun e w' => e = .returned (.bool true) ∧ Below w.heap.size w w' := by
  obtain ⟨hlc, hcm, hI⟩ := hA
  have HA := hide hI
  obtain ⟨ks, hks, hs2⟩ := among_k sl 6 (by omega) (by omega)
  obtain ⟨km, hkm, hm2⟩ := among_k mo 6 (by omega) (by omega)
  have HKS := hide hs2
  have HKM := hide hm2
  have HW := hide (works_at w hV)
  have HV := hide hV
  have HP0 : Hid (0 < w.heap.size) := vars_pos hV
  clear hI hs2 hm2 hV
  go_enter Tryz.func5, Tryz.ntmps5
  go_wp2_with fail
  refine HW.out.mono ?_
  rintro e w1 ⟨rfl, k1⟩
  have K1 := hide k1
  have HN := hide (new_F (F := fun k => w.heap.size ≤ k) (ks + 1) km w1 (fun k hk => by have := K1.out.size; omega) (by omega) (by omega) (by omega))
  rw [show ((ks + 1 : Nat) : Int) = 1 + (ks : Int) by omega] at HN
  clear k1
  go_wp2_with fail
  refine (HKS.out _).mono ?_
  rintro e w2 ⟨rfl, rfl⟩
  go_wp2_with fail
  refine (HKM.out _).mono ?_
  rintro e w2 ⟨rfl, rfl⟩
  go_wp2_with fail
  refine HN.out.mono ?_
  rintro e w2 ⟨r, rfl, p2, k2⟩
  have P2 := hide p2
  have K2 : Hid (Below w.heap.size w w2) := K1.out.trans (k2.mono K1.out.size)
  have F2 : Hid ((newR (ks + 1) km).Fit (ks + 1) km 0) := Rs.Fit.new _ _
  clear p2 k2 K1
  have hU2 : (ks : Int) < 6 := by omega
  have hks6 : ks + 1 ≤ 6 := by omega
  go_wp2_with fail
  go_loopw [9, 10] (fun u v wr => ∃ (i : Nat) (now : Int) (R : Rs), i ≤ len ∧ 0 ≤ now ∧ now ≤ 20 * i ∧ u = .int .i64 now ∧ v = .int .i64 i ∧ Hid (PF (fun k => w.heap.size ≤ k) wr r R) ∧ Hid (R.Fit (ks + 1) km i) ∧ Hid (Below w.heap.size w wr)) (fun _ v _ => len - (intOf v).toNat)
  case atStart => exact ⟨0, 0, _, Nat.zero_le _, by omega, by omega, rfl, rfl, P2, F2, K2⟩
  case round =>
    clear P2 K2 F2
    obtain ⟨i, now, R, hi, hn0, hn1, rfl, rfl, HPF, HFT, HB⟩ := hrel
    by_cases hil : i < len
    · have hd : decide ((i : Int) < (len : Int)) = true := decide_eq_true (by omega)
      obtain ⟨b, o, rfl, hX⟩ := acts_at HA.out HB.out hil
      obtain ⟨x, hxx⟩ : ∃ x, x = f i := ⟨_, rfl⟩
      rw [← hxx] at hX
      have HX := hide hX.inn
      obtain ⟨xk, xb, xd, xn, xname, ba, bn, bc, bs, xa, xan, xc, ads, xt⟩ := x
      have e0 := hX.cell 0 _ rfl
      have e1 := hX.cell 1 _ rfl
      have e2 := hX.cell 2 _ rfl
      have e3 := hX.cell 3 _ rfl
      have e4 := hX.cell 4 _ rfl
      have e5 := hX.cell 5 _ rfl
      have e6 := hX.cell 6 _ rfl
      have e7 := hX.cell 7 _ rfl
      rw [Nat.add_zero] at e0
      simp only at e0 e1 e2 e3 e4 e5 e6 e7
      obtain ⟨kb, hkb, hb2⟩ := among_k xb 20 (by omega) (by omega)
      obtain ⟨kk, hkk, hk2⟩ := among_k xk 3 (by omega) (by omega)
      have HKB := hide hb2
      have HKK := hide hk2
      have HD0 := hide hd
      clear hxx hX hb2 hk2 hd
      have hbx : Below wr.heap.size wr (wr.alloc (.cells #[.int .i64 xk, .int .i64 xb, .int .i64 xd, .int .i64 xn, .string xname, .slice ba bn bc, .slice xa xan xc, .int .i64 xt] 33)) := (Below.refl _ _).alloc (Nat.le_refl _) _
      obtain ⟨wb, hwb⟩ : ∃ wb, wb = wr.alloc (.cells #[.int .i64 xk, .int .i64 xb, .int .i64 xd, .int .i64 xn, .string xname, .slice ba bn bc, .slice xa xan xc, .int .i64 xt] 33) := ⟨_, rfl⟩
      rw [← hwb] at hbx
      have hrow : wb.heap[wr.heap.size]? = some (.cells #[.int .i64 xk, .int .i64 xb, .int .i64 xd, .int .i64 xn, .string xname, .slice ba bn bc, .slice xa xan xc, .int .i64 xt] 33) := by rw [hwb]; exact alloc_new _ _
      have HRB := hide hrow
      have PB := hide (HPF.out.below hbx)
      have KB : Hid (Below w.heap.size w wb) := HB.out.trans (hbx.mono HB.out.size)
      have VB := hide (HV.out.below KB.out)
      have XB := hide (HX.out.below hbx)
      have HWB := hide hwb.symm
      have hps : R.ps.length ≤ 4000000000000 := by have := HFT.out.ps; omega
      have HF := hide (show ∀ k, wb.heap.size ≤ k → w.heap.size ≤ k from fun k hk => by have := KB.out.size; omega)
      have H0 := hide (show ¬ (w.heap.size ≤ 0) from by have := HP0.out; omega)
      obtain ⟨sb, hsb⟩ : ∃ sb, sb = wr.heap.size := ⟨_, rfl⟩
      rw [← hsb] at HRB
      have HSB := hide hsb.symm
      clear hbx hrow hwb hsb HX HPF HB
      go_wp2_with fail
      refine (HKB.out _).mono ?_
      rintro e w3 ⟨rfl, rfl⟩
      rw [HWB.out, HSB.out]
      have hwn : IntKind.i64.wrap (now + (kb : Int)) = now + (kb : Int) := by rw [IntKind.wrap_i64]; omega
      have r0 : wb.cell? ⟨sb, 0, none⟩ = some (.int .i64 xk) := by simp [World.cell?, HRB.out]
      have r2 : wb.cell? ⟨sb, 2, none⟩ = some (.int .i64 xd) := by simp [World.cell?, HRB.out]
      have r4 : wb.cell? ⟨sb, 4, none⟩ = some (.string xname) := by simp [World.cell?, HRB.out]
      clear e0 e1 e2 e3 e4 e5 e6 e7
      go_wp2_with fail
      refine (HKK.out _).mono ?_
      rintro e w3 ⟨rfl, rfl⟩
      rcases (by omega : kk = 0 ∨ kk = 1 ∨ kk = 2) with rfl | rfl | rfl
      · have HAK := hide (ask_F PB.out HF.out VB.out H0.out (now + (kb : Int)) xd xname (by have := XB.out.nm; simp only at this; unfold maxLen; omega) hps)
        have key : ((askE (now + (kb : Int)) xname == 0) = false) ∨ ((askE (now + (kb : Int)) xname == 0) = true ∧ (askK R (now + (kb : Int)) xname == 3) = false) ∨ ((askE (now + (kb : Int)) xname == 0) = true ∧ (askK R (now + (kb : Int)) xname == 3) = true ∧ (askR R (now + (kb : Int)) xd xname).qs.length = km) := by
          by_cases h1 : askE (now + (kb : Int)) xname = 0
          · by_cases h2 : askK R (now + (kb : Int)) xname = 3
            · exact Or.inr (Or.inr ⟨by simp [h1], by simp [h2], by rw [ask3R h2, ask3 h2]; exact HFT.out.most⟩)
            · exact Or.inr (Or.inl ⟨by simp [h1], by simp [h2]⟩)
          · exact Or.inl (by simp [h1])
        have FT4 := hide (HFT.out.ask (now + (kb : Int)) xd xname)
        generalize askE (now + (kb : Int)) xname = E at HAK key
        generalize askK R (now + (kb : Int)) xname = K at HAK key
        generalize askA R (now + (kb : Int)) xname = LA at HAK
        generalize askR R (now + (kb : Int)) xd xname = R4 at HAK key FT4
        rcases key with q1 | ⟨q1, q2⟩ | ⟨q1, q2, q3⟩
        · go_wp2_with fail
          refine HAK.out.mono ?_
          rintro e w4 ⟨v, rfl, ho, p4, k4⟩
          obtain ⟨va, vc, rfl⟩ := ho.shape
          have P4 := hide p4
          have K4 : Hid (Below w.heap.size w w4) := kept_below KB.out k4 KB.out.size (fun x hx => hx)
          clear ho p4 k4 HAK PB KB VB XB HWB HF r0 r2 r4 HRB HSB
          obtain ⟨N4, hN4⟩ : ∃ N4, N4 = R4.qs.length := ⟨_, rfl⟩
          have HAS := hide (asked_F P4.out)
          have hN4m : N4 ≤ km := by rw [hN4]; have h1 := P4.out.ok.few; have h2 := FT4.out.most; omega
          have HU4 : Hid (NmU R4.qs) := FT4.out.nm
          have HN4 := hide hN4
          rw [← hN4] at HAS
          have dm : decide ((N4 : Int) > (km : Int)) = false := decide_eq_false (by omega)
          have dm' : decide ((km : Int) < (N4 : Int)) = false := decide_eq_false (by omega)
          clear hN4
          go_wp2_with fail
          refine HAS.out.mono ?_
          rintro e w5 ⟨rfl, hq, p5, k5⟩
          obtain ⟨lb, hlb⟩ : ∃ lb, lb = w4.heap.size := ⟨_, rfl⟩
          rw [← hlb] at hq ⊢
          have P5 := hide p5
          have K5 : Hid (Below w.heap.size w w5) := K4.out.trans (k5.mono K4.out.size)
          have HQ5 := hide hq
          have HUS := hide (used_F P5.out (now + (kb : Int)))
          have hU : Nm.used R4.tab (now + (kb : Int)) ≤ ks + 1 := by have h1 := Nm.used_le R4.tab (now + (kb : Int)); have h2 := FT4.out.tab; omega
          generalize Nm.used R4.tab (now + (kb : Int)) = U at HUS hU
          have u1 : decide ((U : Int) > 1 + (ks : Int)) = false := decide_eq_false (by omega)
          have u1' : decide (1 + (ks : Int) < (U : Int)) = false := decide_eq_false (by omega)
          clear hq p5 k5 hlb P4 K4 HAS
          go_wp2_with fail
          refine HUS.out.mono ?_
          rintro e w6 ⟨rfl, p6, k6⟩
          have P6 := hide p6
          have K6 : Hid (Below w.heap.size w w6) := K5.out.trans (k6.mono K5.out.size)
          have HQ6 := hide (HQ5.out.below k6)
          clear p6 k6 P5 K5 HQ5 HUS
          go_wp2_with fail
          go_loopw [16] (fun v ww => ∃ j c : Nat, j ≤ N4 ∧ v = .int .i64 j ∧ Hid (ww = w6.drewN c)) (fun v _ => N4 - (intOf v).toNat)
          case atStart => exact ⟨0, 0, Nat.zero_le _, rfl, rfl⟩
          case round =>
            obtain ⟨j, c, hj, rfl, HWJ⟩ := hrel
            have hwj := HWJ.out
            subst hwj
            by_cases hjl : j < N4
            · have hdj : decide ((j : Int) < (N4 : Int)) = true := decide_eq_true (by omega)
              obtain ⟨j0, j1⟩ := HQ6.out.cells (i := j) (by have := HN4.out; omega)
              generalize (qAt R4.qs j).id = idj at j0
              obtain ⟨nj, hnj⟩ : ∃ nj, nj = (qAt R4.qs j).nm := ⟨_, rfl⟩
              rw [← hnj] at j1
              have HNJ := hide hnj
              clear hnj
              go_wp2_with fail
              go_loopw [17] (fun v ww => ∃ k c : Nat, k ≤ j ∧ v = .int .i64 k ∧ Hid (ww = w6.drewN c)) (fun v _ => j - (intOf v).toNat)
              case atStart => exact ⟨0, c, Nat.zero_le _, rfl, rfl⟩
              case round =>
                obtain ⟨k, c2, hk, rfl, HWK⟩ := hrel
                have hwk := HWK.out
                subst hwk
                by_cases hkl : k < j
                · have hdk : decide ((k : Int) < (j : Int)) = true := decide_eq_true (by omega)
                  obtain ⟨k0, k1⟩ := HQ6.out.cells (i := k) (by have := HN4.out; omega)
                  have hz : (nj.toList == (qAt R4.qs k).nm.toList) = false := by
                    rw [eq_ba, HNJ.out]
                    exact decide_eq_false (HU4.out.ne hkl (by have := HN4.out; omega))
                  generalize (qAt R4.qs k).id = idk at k0
                  generalize (qAt R4.qs k).nm = nk at k1 hz
                  go_wp2_with fail
                  go_quiet (fail)
                  go_wp2_with fail
                  go_roundw
                  case rel => exact ⟨k + 1, _, by omega, by go_num, rfl⟩
                  case measure => simp [intOf]; omega
                · have hdk : decide ((k : Int) < (j : Int)) = false := decide_eq_false (by omega)
                  go_wp2_with fail
                  go_roundw
                  case rel => first | exact ⟨j + 1, c2, by omega, by go_num, rfl⟩ | exact ⟨j + 1, by omega, by go_num, c2, rfl⟩
                  case measure => simp [intOf]; omega
            · have hdj : decide ((j : Int) < (N4 : Int)) = false := decide_eq_false (by omega)
              have P7 : Hid (PF (fun k => w.heap.size ≤ k) (w6.drewN c) r R4) := P6.out.below ⟨rfl, rfl, rfl, Nat.le_refl _, fun _ _ => rfl⟩
              have K7 : Hid (Below w.heap.size w (w6.drewN c)) := ⟨K6.out.os, K6.out.tape, K6.out.output, K6.out.size, K6.out.block⟩
              go_wp2_with fail
              go_roundw
              case rel => exact ⟨i + 1, now + (kb : Int), R4, by omega, by omega, by omega, by first | trivial | rfl, by go_num, P7, FT4, K7⟩
              case measure => simp [intOf]; omega
        · go_wp2_with fail
          refine HAK.out.mono ?_
          rintro e w4 ⟨v, rfl, ho, p4, k4⟩
          obtain ⟨va, vc, rfl⟩ := ho.shape
          have P4 := hide p4
          have K4 : Hid (Below w.heap.size w w4) := kept_below KB.out k4 KB.out.size (fun x hx => hx)
          clear ho p4 k4 HAK PB KB VB XB HWB HF r0 r2 r4 HRB HSB
          obtain ⟨N4, hN4⟩ : ∃ N4, N4 = R4.qs.length := ⟨_, rfl⟩
          have HAS := hide (asked_F P4.out)
          have hN4m : N4 ≤ km := by rw [hN4]; have h1 := P4.out.ok.few; have h2 := FT4.out.most; omega
          have HU4 : Hid (NmU R4.qs) := FT4.out.nm
          have HN4 := hide hN4
          rw [← hN4] at HAS
          have dm : decide ((N4 : Int) > (km : Int)) = false := decide_eq_false (by omega)
          have dm' : decide ((km : Int) < (N4 : Int)) = false := decide_eq_false (by omega)
          clear hN4
          go_wp2_with fail
          refine HAS.out.mono ?_
          rintro e w5 ⟨rfl, hq, p5, k5⟩
          obtain ⟨lb, hlb⟩ : ∃ lb, lb = w4.heap.size := ⟨_, rfl⟩
          rw [← hlb] at hq ⊢
          have P5 := hide p5
          have K5 : Hid (Below w.heap.size w w5) := K4.out.trans (k5.mono K4.out.size)
          have HQ5 := hide hq
          have HUS := hide (used_F P5.out (now + (kb : Int)))
          have hU : Nm.used R4.tab (now + (kb : Int)) ≤ ks + 1 := by have h1 := Nm.used_le R4.tab (now + (kb : Int)); have h2 := FT4.out.tab; omega
          generalize Nm.used R4.tab (now + (kb : Int)) = U at HUS hU
          have u1 : decide ((U : Int) > 1 + (ks : Int)) = false := decide_eq_false (by omega)
          have u1' : decide (1 + (ks : Int) < (U : Int)) = false := decide_eq_false (by omega)
          clear hq p5 k5 hlb P4 K4 HAS
          go_wp2_with fail
          refine HUS.out.mono ?_
          rintro e w6 ⟨rfl, p6, k6⟩
          have P6 := hide p6
          have K6 : Hid (Below w.heap.size w w6) := K5.out.trans (k6.mono K5.out.size)
          have HQ6 := hide (HQ5.out.below k6)
          clear p6 k6 P5 K5 HQ5 HUS
          go_wp2_with fail
          go_loopw [16] (fun v ww => ∃ j c : Nat, j ≤ N4 ∧ v = .int .i64 j ∧ Hid (ww = w6.drewN c)) (fun v _ => N4 - (intOf v).toNat)
          case atStart => exact ⟨0, 0, Nat.zero_le _, rfl, rfl⟩
          case round =>
            obtain ⟨j, c, hj, rfl, HWJ⟩ := hrel
            have hwj := HWJ.out
            subst hwj
            by_cases hjl : j < N4
            · have hdj : decide ((j : Int) < (N4 : Int)) = true := decide_eq_true (by omega)
              obtain ⟨j0, j1⟩ := HQ6.out.cells (i := j) (by have := HN4.out; omega)
              generalize (qAt R4.qs j).id = idj at j0
              obtain ⟨nj, hnj⟩ : ∃ nj, nj = (qAt R4.qs j).nm := ⟨_, rfl⟩
              rw [← hnj] at j1
              have HNJ := hide hnj
              clear hnj
              go_wp2_with fail
              go_loopw [17] (fun v ww => ∃ k c : Nat, k ≤ j ∧ v = .int .i64 k ∧ Hid (ww = w6.drewN c)) (fun v _ => j - (intOf v).toNat)
              case atStart => exact ⟨0, c, Nat.zero_le _, rfl, rfl⟩
              case round =>
                obtain ⟨k, c2, hk, rfl, HWK⟩ := hrel
                have hwk := HWK.out
                subst hwk
                by_cases hkl : k < j
                · have hdk : decide ((k : Int) < (j : Int)) = true := decide_eq_true (by omega)
                  obtain ⟨k0, k1⟩ := HQ6.out.cells (i := k) (by have := HN4.out; omega)
                  have hz : (nj.toList == (qAt R4.qs k).nm.toList) = false := by
                    rw [eq_ba, HNJ.out]
                    exact decide_eq_false (HU4.out.ne hkl (by have := HN4.out; omega))
                  generalize (qAt R4.qs k).id = idk at k0
                  generalize (qAt R4.qs k).nm = nk at k1 hz
                  go_wp2_with fail
                  go_quiet (fail)
                  go_wp2_with fail
                  go_roundw
                  case rel => exact ⟨k + 1, _, by omega, by go_num, rfl⟩
                  case measure => simp [intOf]; omega
                · have hdk : decide ((k : Int) < (j : Int)) = false := decide_eq_false (by omega)
                  go_wp2_with fail
                  go_roundw
                  case rel => first | exact ⟨j + 1, c2, by omega, by go_num, rfl⟩ | exact ⟨j + 1, by omega, by go_num, c2, rfl⟩
                  case measure => simp [intOf]; omega
            · have hdj : decide ((j : Int) < (N4 : Int)) = false := decide_eq_false (by omega)
              have P7 : Hid (PF (fun k => w.heap.size ≤ k) (w6.drewN c) r R4) := P6.out.below ⟨rfl, rfl, rfl, Nat.le_refl _, fun _ _ => rfl⟩
              have K7 : Hid (Below w.heap.size w (w6.drewN c)) := ⟨K6.out.os, K6.out.tape, K6.out.output, K6.out.size, K6.out.block⟩
              go_wp2_with fail
              go_roundw
              case rel => exact ⟨i + 1, now + (kb : Int), R4, by omega, by omega, by omega, by first | trivial | rfl, by go_num, P7, FT4, K7⟩
              case measure => simp [intOf]; omega
        · go_wp2_with fail
          refine HAK.out.mono ?_
          rintro e w3 ⟨v, rfl, ho, p4, k4⟩
          obtain ⟨va, vc, rfl⟩ := ho.shape
          have P3 := hide p4
          have K3 : Hid (Below w.heap.size w w3) := kept_below KB.out k4 KB.out.size (fun x hx => hx)
          have HA3 := hide (asked_F P3.out)
          rw [q3] at HA3
          have qm : ((km : Int) == (km : Int)) = true := by simp
          clear ho p4 k4 HAK PB KB VB XB HWB HF r0 r2 r4 HRB HSB
          go_wp2_with fail
          refine HA3.out.mono ?_
          rintro e w4 ⟨rfl, _, p4, k4⟩
          have P4 := hide p4
          have K4 : Hid (Below w.heap.size w w4) := K3.out.trans (k4.mono K3.out.size)
          clear p4 k4 P3 K3 HA3
          obtain ⟨N4, hN4⟩ : ∃ N4, N4 = R4.qs.length := ⟨_, rfl⟩
          have HAS := hide (asked_F P4.out)
          have hN4m : N4 ≤ km := by rw [hN4]; have h1 := P4.out.ok.few; have h2 := FT4.out.most; omega
          have HU4 : Hid (NmU R4.qs) := FT4.out.nm
          have HN4 := hide hN4
          rw [← hN4] at HAS
          have dm : decide ((N4 : Int) > (km : Int)) = false := decide_eq_false (by omega)
          have dm' : decide ((km : Int) < (N4 : Int)) = false := decide_eq_false (by omega)
          clear hN4
          go_wp2_with fail
          refine HAS.out.mono ?_
          rintro e w5 ⟨rfl, hq, p5, k5⟩
          obtain ⟨lb, hlb⟩ : ∃ lb, lb = w4.heap.size := ⟨_, rfl⟩
          rw [← hlb] at hq ⊢
          have P5 := hide p5
          have K5 : Hid (Below w.heap.size w w5) := K4.out.trans (k5.mono K4.out.size)
          have HQ5 := hide hq
          have HUS := hide (used_F P5.out (now + (kb : Int)))
          have hU : Nm.used R4.tab (now + (kb : Int)) ≤ ks + 1 := by have h1 := Nm.used_le R4.tab (now + (kb : Int)); have h2 := FT4.out.tab; omega
          generalize Nm.used R4.tab (now + (kb : Int)) = U at HUS hU
          have u1 : decide ((U : Int) > 1 + (ks : Int)) = false := decide_eq_false (by omega)
          have u1' : decide (1 + (ks : Int) < (U : Int)) = false := decide_eq_false (by omega)
          clear hq p5 k5 hlb P4 K4 HAS
          go_wp2_with fail
          refine HUS.out.mono ?_
          rintro e w6 ⟨rfl, p6, k6⟩
          have P6 := hide p6
          have K6 : Hid (Below w.heap.size w w6) := K5.out.trans (k6.mono K5.out.size)
          have HQ6 := hide (HQ5.out.below k6)
          clear p6 k6 P5 K5 HQ5 HUS
          go_wp2_with fail
          go_loopw [16] (fun v ww => ∃ j c : Nat, j ≤ N4 ∧ v = .int .i64 j ∧ Hid (ww = w6.drewN c)) (fun v _ => N4 - (intOf v).toNat)
          case atStart => exact ⟨0, 0, Nat.zero_le _, rfl, rfl⟩
          case round =>
            obtain ⟨j, c, hj, rfl, HWJ⟩ := hrel
            have hwj := HWJ.out
            subst hwj
            by_cases hjl : j < N4
            · have hdj : decide ((j : Int) < (N4 : Int)) = true := decide_eq_true (by omega)
              obtain ⟨j0, j1⟩ := HQ6.out.cells (i := j) (by have := HN4.out; omega)
              generalize (qAt R4.qs j).id = idj at j0
              obtain ⟨nj, hnj⟩ : ∃ nj, nj = (qAt R4.qs j).nm := ⟨_, rfl⟩
              rw [← hnj] at j1
              have HNJ := hide hnj
              clear hnj
              go_wp2_with fail
              go_loopw [17] (fun v ww => ∃ k c : Nat, k ≤ j ∧ v = .int .i64 k ∧ Hid (ww = w6.drewN c)) (fun v _ => j - (intOf v).toNat)
              case atStart => exact ⟨0, c, Nat.zero_le _, rfl, rfl⟩
              case round =>
                obtain ⟨k, c2, hk, rfl, HWK⟩ := hrel
                have hwk := HWK.out
                subst hwk
                by_cases hkl : k < j
                · have hdk : decide ((k : Int) < (j : Int)) = true := decide_eq_true (by omega)
                  obtain ⟨k0, k1⟩ := HQ6.out.cells (i := k) (by have := HN4.out; omega)
                  have hz : (nj.toList == (qAt R4.qs k).nm.toList) = false := by
                    rw [eq_ba, HNJ.out]
                    exact decide_eq_false (HU4.out.ne hkl (by have := HN4.out; omega))
                  generalize (qAt R4.qs k).id = idk at k0
                  generalize (qAt R4.qs k).nm = nk at k1 hz
                  go_wp2_with fail
                  go_quiet (fail)
                  go_wp2_with fail
                  go_roundw
                  case rel => exact ⟨k + 1, _, by omega, by go_num, rfl⟩
                  case measure => simp [intOf]; omega
                · have hdk : decide ((k : Int) < (j : Int)) = false := decide_eq_false (by omega)
                  go_wp2_with fail
                  go_roundw
                  case rel => first | exact ⟨j + 1, c2, by omega, by go_num, rfl⟩ | exact ⟨j + 1, by omega, by go_num, c2, rfl⟩
                  case measure => simp [intOf]; omega
            · have hdj : decide ((j : Int) < (N4 : Int)) = false := decide_eq_false (by omega)
              have P7 : Hid (PF (fun k => w.heap.size ≤ k) (w6.drewN c) r R4) := P6.out.below ⟨rfl, rfl, rfl, Nat.le_refl _, fun _ _ => rfl⟩
              have K7 : Hid (Below w.heap.size w (w6.drewN c)) := ⟨K6.out.os, K6.out.tape, K6.out.output, K6.out.size, K6.out.block⟩
              go_wp2_with fail
              go_roundw
              case rel => exact ⟨i + 1, now + (kb : Int), R4, by omega, by omega, by omega, by first | trivial | rfl, by go_num, P7, FT4, K7⟩
              case measure => simp [intOf]; omega
      · have HST := hide (step_F PB.out HF.out VB.out H0.out (now + (kb : Int)) xd hps)
        have FT4 := hide (HFT.out.step (now + (kb : Int)) xd)
        generalize stepT R (now + (kb : Int)) = ST at HST
        generalize stepR R (now + (kb : Int)) xd = R4 at HST FT4
        go_wp2_with fail
        refine HST.out.mono ?_
        rintro e w4 ⟨rfl, p4, k4⟩
        have P4 := hide p4
        have K4 : Hid (Below w.heap.size w w4) := kept_below KB.out k4 KB.out.size (fun x hx => hx)
        clear p4 k4 HST PB KB VB XB HWB HF r0 r2 r4 HRB HSB
        obtain ⟨N4, hN4⟩ : ∃ N4, N4 = R4.qs.length := ⟨_, rfl⟩
        have HAS := hide (asked_F P4.out)
        have hN4m : N4 ≤ km := by rw [hN4]; have h1 := P4.out.ok.few; have h2 := FT4.out.most; omega
        have HU4 : Hid (NmU R4.qs) := FT4.out.nm
        have HN4 := hide hN4
        rw [← hN4] at HAS
        have dm : decide ((N4 : Int) > (km : Int)) = false := decide_eq_false (by omega)
        have dm' : decide ((km : Int) < (N4 : Int)) = false := decide_eq_false (by omega)
        clear hN4
        go_wp2_with fail
        refine HAS.out.mono ?_
        rintro e w5 ⟨rfl, hq, p5, k5⟩
        obtain ⟨lb, hlb⟩ : ∃ lb, lb = w4.heap.size := ⟨_, rfl⟩
        rw [← hlb] at hq ⊢
        have P5 := hide p5
        have K5 : Hid (Below w.heap.size w w5) := K4.out.trans (k5.mono K4.out.size)
        have HQ5 := hide hq
        have HUS := hide (used_F P5.out (now + (kb : Int)))
        have hU : Nm.used R4.tab (now + (kb : Int)) ≤ ks + 1 := by have h1 := Nm.used_le R4.tab (now + (kb : Int)); have h2 := FT4.out.tab; omega
        generalize Nm.used R4.tab (now + (kb : Int)) = U at HUS hU
        have u1 : decide ((U : Int) > 1 + (ks : Int)) = false := decide_eq_false (by omega)
        have u1' : decide (1 + (ks : Int) < (U : Int)) = false := decide_eq_false (by omega)
        clear hq p5 k5 hlb P4 K4 HAS
        go_wp2_with fail
        refine HUS.out.mono ?_
        rintro e w6 ⟨rfl, p6, k6⟩
        have P6 := hide p6
        have K6 : Hid (Below w.heap.size w w6) := K5.out.trans (k6.mono K5.out.size)
        have HQ6 := hide (HQ5.out.below k6)
        clear p6 k6 P5 K5 HQ5 HUS
        go_wp2_with fail
        go_loopw [16] (fun v ww => ∃ j c : Nat, j ≤ N4 ∧ v = .int .i64 j ∧ Hid (ww = w6.drewN c)) (fun v _ => N4 - (intOf v).toNat)
        case atStart => exact ⟨0, 0, Nat.zero_le _, rfl, rfl⟩
        case round =>
          obtain ⟨j, c, hj, rfl, HWJ⟩ := hrel
          have hwj := HWJ.out
          subst hwj
          by_cases hjl : j < N4
          · have hdj : decide ((j : Int) < (N4 : Int)) = true := decide_eq_true (by omega)
            obtain ⟨j0, j1⟩ := HQ6.out.cells (i := j) (by have := HN4.out; omega)
            generalize (qAt R4.qs j).id = idj at j0
            obtain ⟨nj, hnj⟩ : ∃ nj, nj = (qAt R4.qs j).nm := ⟨_, rfl⟩
            rw [← hnj] at j1
            have HNJ := hide hnj
            clear hnj
            go_wp2_with fail
            go_loopw [17] (fun v ww => ∃ k c : Nat, k ≤ j ∧ v = .int .i64 k ∧ Hid (ww = w6.drewN c)) (fun v _ => j - (intOf v).toNat)
            case atStart => exact ⟨0, c, Nat.zero_le _, rfl, rfl⟩
            case round =>
              obtain ⟨k, c2, hk, rfl, HWK⟩ := hrel
              have hwk := HWK.out
              subst hwk
              by_cases hkl : k < j
              · have hdk : decide ((k : Int) < (j : Int)) = true := decide_eq_true (by omega)
                obtain ⟨k0, k1⟩ := HQ6.out.cells (i := k) (by have := HN4.out; omega)
                have hz : (nj.toList == (qAt R4.qs k).nm.toList) = false := by
                  rw [eq_ba, HNJ.out]
                  exact decide_eq_false (HU4.out.ne hkl (by have := HN4.out; omega))
                generalize (qAt R4.qs k).id = idk at k0
                generalize (qAt R4.qs k).nm = nk at k1 hz
                go_wp2_with fail
                go_quiet (fail)
                go_wp2_with fail
                go_roundw
                case rel => exact ⟨k + 1, _, by omega, by go_num, rfl⟩
                case measure => simp [intOf]; omega
              · have hdk : decide ((k : Int) < (j : Int)) = false := decide_eq_false (by omega)
                go_wp2_with fail
                go_roundw
                case rel => first | exact ⟨j + 1, c2, by omega, by go_num, rfl⟩ | exact ⟨j + 1, by omega, by go_num, c2, rfl⟩
                case measure => simp [intOf]; omega
          · have hdj : decide ((j : Int) < (N4 : Int)) = false := decide_eq_false (by omega)
            have P7 : Hid (PF (fun k => w.heap.size ≤ k) (w6.drewN c) r R4) := P6.out.below ⟨rfl, rfl, rfl, Nat.le_refl _, fun _ _ => rfl⟩
            have K7 : Hid (Below w.heap.size w (w6.drewN c)) := ⟨K6.out.os, K6.out.tape, K6.out.output, K6.out.size, K6.out.block⟩
            go_wp2_with fail
            go_roundw
            case rel => exact ⟨i + 1, now + (kb : Int), R4, by omega, by omega, by omega, by first | trivial | rfl, by go_num, P7, FT4, K7⟩
            case measure => simp [intOf]; omega
      · have hbd : Below wb.heap.size wb wb.drew := ⟨rfl, rfl, rfl, Nat.le_refl _, fun _ _ => rfl⟩
        have HAS0 := hide (asked_F (PB.out.below hbd))
        have HKD : Hid (Below w.heap.size w wb.drew) := KB.out.trans (hbd.mono KB.out.size)
        have HXD := hide (XB.out.below hbd)
        have hfew : R.qs.length ≤ 64 := by have h1 := PB.out.ok.few; have h2 := PB.out.ok.most; omega
        have hqok := hide PB.out.ok.q
        have r1 : wb.cell? ⟨sb, 1, none⟩ = some (.int .i64 xb) := by simp [World.cell?, HRB.out]
        have r3 : wb.cell? ⟨sb, 3, none⟩ = some (.int .i64 xn) := by simp [World.cell?, HRB.out]
        have r5 : wb.cell? ⟨sb, 5, none⟩ = some (.slice ba bn bc) := by simp [World.cell?, HRB.out]
        have r6 : wb.cell? ⟨sb, 6, none⟩ = some (.slice xa xan xc) := by simp [World.cell?, HRB.out]
        have r7 : wb.cell? ⟨sb, 7, none⟩ = some (.int .i64 xt) := by simp [World.cell?, HRB.out]
        have hlt : sb < wb.drew.heap.size := lt_of_cell r0
        have HR0 := hide (And.intro r0 (And.intro r1 (And.intro r2 (And.intro r3 (And.intro r4 (And.intro r5 (And.intro r6 r7)))))))
        have HFQ := hide (And.intro hfew hps)
        have HLT := hide hlt
        clear hbd hlt hfew hps PB KB VB XB HWB HF
        go_wp2_with fail
        go_region_with (first
          | (go_at_call 16; refine HAS0.out.mono ?_; rintro e wq ⟨rfl, hq, p3, k3⟩; have HQ3 := hide hq; have P3 := hide p3; have K3 : Hid (Below w.heap.size w wq) := HKD.out.trans (k3.mono HKD.out.size); have X3 := hide (HXD.out.below k3); have V3 := hide (HV.out.below K3.out); have s0 := (k3.cell (p := ⟨sb, 0, none⟩) HLT.out).trans HR0.out.1; have s1 := (k3.cell (p := ⟨sb, 1, none⟩) HLT.out).trans HR0.out.2.1; have s2 := (k3.cell (p := ⟨sb, 2, none⟩) HLT.out).trans HR0.out.2.2.1; have s3 := (k3.cell (p := ⟨sb, 3, none⟩) HLT.out).trans HR0.out.2.2.2.1; have s4 := (k3.cell (p := ⟨sb, 4, none⟩) HLT.out).trans HR0.out.2.2.2.2.1; have s5 := (k3.cell (p := ⟨sb, 5, none⟩) HLT.out).trans HR0.out.2.2.2.2.2.1; have s6 := (k3.cell (p := ⟨sb, 6, none⟩) HLT.out).trans HR0.out.2.2.2.2.2.2.1; have s7 := (k3.cell (p := ⟨sb, 7, none⟩) HLT.out).trans HR0.out.2.2.2.2.2.2.2; clear hq p3 k3)
          | (go_at_call 15; refine (lanswer_at ⟨xk, xb, xd, xn, xname, ba, bn, bc, bs, xa, xan, xc, ads, xt⟩ wb.drew.heap.size R.qs _ X3.out V3.out HQ3.out HFQ.out.1 hqok.out).mono ?_; rintro e w3 ⟨ta, tc, tl, rfl, hst, htl, k3⟩; have K5 : Hid (Below w.heap.size w w3) := K3.out.trans (k3.mono K3.out.size); have HTK := hide (take_F (F := fun k => w.heap.size ≤ k) (P3.out.below k3) (fun k hk => by have := K5.out.size; omega) (HV.out.below K5.out) (now + (kb : Int)) ta tl.length tc tl hst htl); clear hst htl k3)
          | (go_at_call 18; refine HTK.out.mono ?_; rintro e w4 ⟨rfl, p4, k4⟩; have P4 := hide p4; have K4 : Hid (Below w.heap.size w w4) := kept_below K5.out k4 K5.out.size (fun x hx => hx); have FT3 := hide (HFT.out.take (now + (kb : Int)) tl); have FT4 := hide (FT3.out.psmono (j := i + 1) (by omega)); clear p4 k4))
        all_goals
          generalize takT R (now + (kb : Int)) tl = ST at HTK
          generalize takR R (now + (kb : Int)) tl = R4 at HTK FT4 FT3 P4
          clear HTK FT3 K5 P3 X3 V3 HQ3 K3 HAS0 HR0 HRB HSB r0 r1 r2 r3 r4 r5 r6 r7 s0 s1 s2 s3 s4 s5 s6 s7 HKD HXD hqok HFQ HLT
          obtain ⟨N4, hN4⟩ : ∃ N4, N4 = R4.qs.length := ⟨_, rfl⟩
          have HAS := hide (asked_F P4.out)
          have hN4m : N4 ≤ km := by rw [hN4]; have h1 := P4.out.ok.few; have h2 := FT4.out.most; omega
          have HU4 : Hid (NmU R4.qs) := FT4.out.nm
          have HN4 := hide hN4
          rw [← hN4] at HAS
          have dm : decide ((N4 : Int) > (km : Int)) = false := decide_eq_false (by omega)
          have dm' : decide ((km : Int) < (N4 : Int)) = false := decide_eq_false (by omega)
          clear hN4
          go_wp2_with fail
          refine HAS.out.mono ?_
          rintro e w5 ⟨rfl, hq, p5, k5⟩
          obtain ⟨lb, hlb⟩ : ∃ lb, lb = w4.heap.size := ⟨_, rfl⟩
          rw [← hlb] at hq ⊢
          have P5 := hide p5
          have K5 : Hid (Below w.heap.size w w5) := K4.out.trans (k5.mono K4.out.size)
          have HQ5 := hide hq
          have HUS := hide (used_F P5.out (now + (kb : Int)))
          have hU : Nm.used R4.tab (now + (kb : Int)) ≤ ks + 1 := by have h1 := Nm.used_le R4.tab (now + (kb : Int)); have h2 := FT4.out.tab; omega
          generalize Nm.used R4.tab (now + (kb : Int)) = U at HUS hU
          have u1 : decide ((U : Int) > 1 + (ks : Int)) = false := decide_eq_false (by omega)
          have u1' : decide (1 + (ks : Int) < (U : Int)) = false := decide_eq_false (by omega)
          clear hq p5 k5 hlb P4 K4 HAS
          go_wp2_with fail
          refine HUS.out.mono ?_
          rintro e w6 ⟨rfl, p6, k6⟩
          have P6 := hide p6
          have K6 : Hid (Below w.heap.size w w6) := K5.out.trans (k6.mono K5.out.size)
          have HQ6 := hide (HQ5.out.below k6)
          clear p6 k6 P5 K5 HQ5 HUS
          go_wp2_with fail
          go_loopw [16] (fun v ww => ∃ j c : Nat, j ≤ N4 ∧ v = .int .i64 j ∧ Hid (ww = w6.drewN c)) (fun v _ => N4 - (intOf v).toNat)
          case atStart => exact ⟨0, 0, Nat.zero_le _, rfl, rfl⟩
          case round =>
            obtain ⟨j, c, hj, rfl, HWJ⟩ := hrel
            have hwj := HWJ.out
            subst hwj
            by_cases hjl : j < N4
            · have hdj : decide ((j : Int) < (N4 : Int)) = true := decide_eq_true (by omega)
              obtain ⟨j0, j1⟩ := HQ6.out.cells (i := j) (by have := HN4.out; omega)
              generalize (qAt R4.qs j).id = idj at j0
              obtain ⟨nj, hnj⟩ : ∃ nj, nj = (qAt R4.qs j).nm := ⟨_, rfl⟩
              rw [← hnj] at j1
              have HNJ := hide hnj
              clear hnj
              go_wp2_with fail
              go_loopw [17] (fun v ww => ∃ k c : Nat, k ≤ j ∧ v = .int .i64 k ∧ Hid (ww = w6.drewN c)) (fun v _ => j - (intOf v).toNat)
              case atStart => exact ⟨0, c, Nat.zero_le _, rfl, rfl⟩
              case round =>
                obtain ⟨k, c2, hk, rfl, HWK⟩ := hrel
                have hwk := HWK.out
                subst hwk
                by_cases hkl : k < j
                · have hdk : decide ((k : Int) < (j : Int)) = true := decide_eq_true (by omega)
                  obtain ⟨k0, k1⟩ := HQ6.out.cells (i := k) (by have := HN4.out; omega)
                  have hz : (nj.toList == (qAt R4.qs k).nm.toList) = false := by
                    rw [eq_ba, HNJ.out]
                    exact decide_eq_false (HU4.out.ne hkl (by have := HN4.out; omega))
                  generalize (qAt R4.qs k).id = idk at k0
                  generalize (qAt R4.qs k).nm = nk at k1 hz
                  go_wp2_with fail
                  go_quiet (fail)
                  go_wp2_with fail
                  go_roundw
                  case rel => exact ⟨k + 1, _, by omega, by go_num, rfl⟩
                  case measure => simp [intOf]; omega
                · have hdk : decide ((k : Int) < (j : Int)) = false := decide_eq_false (by omega)
                  go_wp2_with fail
                  go_roundw
                  case rel => first | exact ⟨j + 1, c2, by omega, by go_num, rfl⟩ | exact ⟨j + 1, by omega, by go_num, c2, rfl⟩
                  case measure => simp [intOf]; omega
            · have hdj : decide ((j : Int) < (N4 : Int)) = false := decide_eq_false (by omega)
              have P7 : Hid (PF (fun k => w.heap.size ≤ k) (w6.drewN c) r R4) := P6.out.below ⟨rfl, rfl, rfl, Nat.le_refl _, fun _ _ => rfl⟩
              have K7 : Hid (Below w.heap.size w (w6.drewN c)) := ⟨K6.out.os, K6.out.tape, K6.out.output, K6.out.size, K6.out.block⟩
              go_wp2_with fail
              go_roundw
              case rel => exact ⟨i + 1, now + (kb : Int), R4, by omega, by omega, by omega, by first | trivial | rfl, by go_num, P7, FT4, K7⟩
              case measure => simp [intOf]; omega
    · have hd : decide ((i : Int) < (len : Int)) = false := decide_eq_false (by omega)
      go_wp2_with fail
      go_ret
      exact ⟨rfl, HB.out⟩

end Go.Proofs.YtabkelhipmijfaaGreatDoor
