/-
  PortPlays' walk; conditions as each theorem has them.
-/
import Derived.Test.YtjojhnkibgkleaaJoinedZK
set_option linter.unusedSimpArgs false
set_option linter.unusedVariables false
set_option maxRecDepth 8000
namespace Go.Proofs.Ytjojhnkibgkleaa
open Go.RowKit Go.Lib

set_option maxRecDepth 100000 in
set_option maxHeartbeats 4000000 in
theorem plays_walk (x0 x1 x2 : Int) (a : Option Addr) (len cap : Nat) (f : Nat → Ac) (w : World) (hA : IsActs w a len cap f) : Calls Try.prog 3 #[.int .i64 x0, .int .i64 x1, .int .i64 x2, .slice a len cap] w fun e w' => e = .returned (.bool true) ∧ Below w.heap.size w w' := by
  obtain ⟨hlc, hcm, hI⟩ := hA
  have HA := hide hI
  clear hI
  by_cases hs : badNew x0 x1 x2
  · have HN := fun w' => hide (pnew_bad x0 x1 x2 w' hs)
    have HR := fun w' => hide (rnew_bad x0 x1 x2 w' hs)
    clear hs
    go_enter Try.func3, Try.ntmps3
    go_wp2_with fail
    refine (HN _).out.mono ?_
    rintro e w1 ⟨rfl, rfl⟩
    go_wp2_with fail
    refine (HR _).out.mono ?_
    rintro e w1 ⟨rfl, rfl⟩
    go_wp2_with fail
    go_ret
    exact ⟨rfl, Below.refl _ _⟩
  · unfold badNew at hs
    obtain ⟨c, hc, rfl⟩ : ∃ N : Nat, N ≤ 64 ∧ x0 = N := ⟨x0.toNat, by omega, by omega⟩
    obtain ⟨s, hs', rfl⟩ : ∃ N : Nat, N ≤ 64 ∧ x1 = N := ⟨x1.toNat, by omega, by omega⟩
    obtain ⟨n, hn, rfl⟩ : ∃ N : Nat, (1 ≤ N ∧ N ≤ 65536) ∧ x2 = N := ⟨x2.toNat, by omega, by omega⟩
    have HN := fun w' => hide (pnew_at c s n w' hc hs' hn.1 hn.2)
    have HR := fun w' => hide (rnew_at c s n w' hc hs' hn.1 hn.2)
    clear hs
    go_enter Try.func3, Try.ntmps3
    go_wp2_with fail
    refine (HN _).out.mono ?_
    rintro e w1 ⟨b0, rfl, h1, k1⟩
    have H1 := hide h1
    have K1 := hide k1
    clear h1 k1
    go_wp2_with fail
    refine (HR _).out.mono ?_
    rintro e w2 ⟨y, rfl, h2, k2⟩
    have HT := hide (Two.made H1.out K1.out h2 k2)
    have HB := hide (K1.out.trans (k2.mono K1.out.size))
    have h0 : (newP c s n).ou.length ≤ 0 := Nat.le_refl 0
    generalize newP c s n = P0 at HT h0
    clear h2 k2 H1 K1 HN HR
    go_wp2_with fail
    go_loopw [9, 13] (fun vp vi wr => ∃ (k b : Nat) (P : Pt), k ≤ len ∧ vp = .pointer (some ⟨b, 0, none⟩) ∧ vi = .int .i64 k ∧ Hid (Two nob nob w.heap.size wr b y P P) ∧ P.ou.length ≤ k ∧ Hid (Below w.heap.size w wr)) (fun _ vi _ => len - (RowKit.intOf vi).toNat)
    case atStart => exact ⟨0, b0, P0, Nat.zero_le _, rfl, rfl, HT, h0, HB⟩
    case round =>
      clear HT HB
      obtain ⟨k, b, P, hk, rfl, rfl, HT, hou, HB⟩ := hrel
      by_cases hkl : k < len
      · obtain ⟨ab, ao, rfl, hab, hat⟩ := HA.out (by omega)
        have hd : decide ((k : Int) < (len : Int)) = true := decide_eq_true (by omega)
        have hW := (hat k hkl).below HB.out hab
        obtain ⟨X, hX⟩ : ∃ X, X = f k := ⟨_, rfl⟩
        rw [← hX] at hW
        have HX : Hid (∀ W, Below w.heap.size w W → AcAt W ab ao k X) := fun W q => by
          rw [hX]; exact (hat k hkl).below q hab
        obtain ⟨c0, c2⟩ := act_cells hW
        obtain ⟨am, ham, AM0⟩ := among_k X.k 15 (by omega) (by omega)
        have AM := hide AM0
        have HIN := hide hW.inn
        clear hat hW AM0 hX
        have hlen : P.ou.length ≤ 1900000000000 := by omega
        go_wp2_with fail
        refine (AM.out _).mono ?_
        rintro e wa ⟨rfl, rfl⟩
        by_cases h14 : am = 14
        · subst h14
          go_wp2_with fail
          refine (HT.out.clone HB.out.size hlen).mono ?_
          rintro e v1 ⟨cb, rfl, kb1, F, pf1, hF1, hFB, hTC⟩
          have K1 := hide (HB.out.trans (kb1.mono HB.out.size))
          have PF1 := hide pf1
          have HF1 := hide hF1
          have HFB := hide hFB
          have HTC := hide hTC
          clear kb1 pf1 hF1 hFB hTC c0 c2
          go_wp2_with fail
          refine (event_F PF1.out HF1.out 1 0 0 emp (by omega) (by decide) none 0 0).mono ?_
          rintro e v2 ⟨rfl, pf2, ks2⟩
          have PF2 := hide pf2
          have HF2 := hide (fun k q => HF1.out k (Nat.le_trans ks2.size q))
          have K2 := hide (K1.out.trans (ks2.below K1.out.size HFB.out))
          have KS2 := hide ks2
          obtain ⟨d0, d2⟩ := act_cells (HX.out _ K2.out)
          have hl2 : (evP P 1 0 0 emp).ou.length ≤ 1800000000000 := by rw [(evP_sz P 1 0 0 emp).2.2.2]; omega
          generalize evP P 1 0 0 emp = P2 at PF2 hl2
          clear pf2 ks2 d0
          go_wp2_with fail
          refine (takeFF PF2.out HF2.out X.e.e 2).mono ?_
          rintro e v3 ⟨⟨tv, rfl⟩, pf3, ks3⟩
          have PF3 := hide pf3
          have HF3 := hide (fun k q => HF2.out k (Nat.le_trans ks3.size q))
          have K3 := hide (K2.out.trans (ks3.below K2.out.size HFB.out))
          have KS3 := hide (KS2.out.trans ks3 (fun _ => Or.inl))
          obtain ⟨d0, d3⟩ := act_cells (HX.out _ K3.out)
          have hl3 : (takeP P2 X.e.e 2).ou.length ≤ 1800000000000 := by unfold takeP; split <;> exact hl2
          generalize takeP P2 X.e.e 2 = P3 at PF3 hl3
          clear pf3 ks3 d0 d2
          go_wp2_with fail
          refine (close_FF PF3.out HF3.out X.e.e (by omega)).mono ?_
          rintro e v4 ⟨⟨tc, rfl⟩, pf4, ks4⟩
          have PF4 := hide pf4
          have HF4 := hide (fun k q => HF3.out k (Nat.le_trans ks4.size q))
          have K4 := hide (K3.out.trans (ks4.below K3.out.size HFB.out))
          have KS4 := hide (KS3.out.trans ks4 (fun _ => Or.inl))
          have hl4 : (closeP P3 X.e.e).ou.length ≤ 1900000000000 := by have := close_ou P3 X.e.e; unfold Next at this; omega
          generalize closeP P3 X.e.e = P4 at PF4 hl4
          clear pf4 ks4 d3
          go_wp2_with fail
          refine (post_FF PF4.out HF4.out hl4).mono ?_
          rintro e v5 ⟨⟨tp, rfl⟩, pf5, ks5⟩
          have HT5 := hide (HTC.out _ (KS4.out.trans ks5 (fun _ => Or.inl)))
          have HB5 := hide (K4.out.trans (ks5.below K4.out.size HFB.out))
          have hou2 : P.ou.length ≤ k + 1 := by omega
          clear pf5 ks5 PF1 PF2 PF3 PF4 HF1 HF2 HF3 HF4 K1 K2 K3 K4 KS2 KS3 KS4 HTC HFB hl2 hl3 hl4 HT HB AM HX
          obtain ⟨NL, hNL⟩ : ∃ NL, NL = P.L.length := ⟨_, rfl⟩
          have HE : Hid (∀ W, Two nob nob w.heap.size W cb y P P → ∃ ea ec, W.cell? ⟨y, 2, none⟩ = some (.slice ea NL ec) ∧ NL ≤ ec ∧ ec ≤ maxLen) := fun W q => by
            obtain ⟨ea, ec, q1, q2, q3, _⟩ := q.ends
            rw [hNL]; exact ⟨ea, ec, q1, q2, q3⟩
          have hN8 : NL ≤ 128 := by
            obtain ⟨ea, ec, _, _, _, q4⟩ := HT5.out.ends
            rw [hNL]; exact q4
          clear hNL
          go_wp2_with fail
          go_loopw [15] (fun vk wq => ∃ m : Nat, m ≤ 10 ∧ vk = .int .i64 ((m : Int) - 1) ∧ Hid (Two nob nob w.heap.size wq cb y P P) ∧ Hid (Below w.heap.size w wq)) (fun v _ => (10 - RowKit.intOf v).toNat)
          case atStart => exact ⟨0, by omega, rfl, HT5, HB5⟩
          case round =>
            clear HT5 HB5
            obtain ⟨m, hm, rfl, HTq, HBq⟩ := hrel
            obtain ⟨ea, ec, y2, ye, yc⟩ := HE.out _ HTq.out
            unfold maxLen at yc
            obtain ⟨e, he⟩ : ∃ e, e = (m : Int) - 1 := ⟨_, rfl⟩
            rw [← he]
            have HEE := hide he
            obtain ⟨mn, hmn⟩ : ∃ mn : Int, mn = min (NL : Int) 8 := ⟨_, rfl⟩
            have hmin : min (NL : Int) 8 = mn := hmn.symm
            have hmn8 : mn ≤ 8 := by omega
            have e1 : -1 ≤ e := by omega
            have e2 : e ≤ 9 := by omega
            by_cases hcm2 : e ≤ mn
            · have q0 : decide (e ≤ mn) = true := decide_eq_true hcm2
              clear he hmn
              go_wp2_with fail
              refine (same_at HTq.out e).mono ?_
              rintro x wz ⟨rfl, bz⟩
              have HTz := hide (HTq.out.below bz)
              have HBz := hide (HBq.out.trans (bz.mono HBq.out.size))
              clear bz y2
              go_wp2_with fail
              go_roundw
              case rel => exact ⟨m + 1, by have := HEE.out; omega, by have := HEE.out; go_num, HTz, HBz⟩
              case measure => simp [RowKit.intOf]; have := HEE.out; omega
            · have q0 : decide (e ≤ mn) = false := decide_eq_false hcm2
              clear he hmn
              go_wp2_with fail
              refine (HTq.out.usedp).mono ?_
              rintro x wy ⟨rfl, by_⟩
              have HTy := hide (HTq.out.below by_)
              have HBy := hide (HBq.out.trans (by_.mono HBq.out.size))
              clear by_ y2
              go_wp2_with fail
              refine (HTy.out.usedr).mono ?_
              rintro x wy2 ⟨rfl, rfl⟩
              go_wp2_with fail
              go_roundw
              case rel => exact ⟨k + 1, cb, P, by omega, rfl, by go_num, HTy, hou2, HBy⟩
              case measure => simp [RowKit.intOf]; omega
        · have q14 : ((am : Int) == 14) = false := by simp; omega
          have RNG := hide (act_mid (HX.out _ HB.out))
          clear c0 c2
          go_wp2_with (first | (refine wpList_load_mid rfl 41 _ rfl ab (ao + k * 12) rfl X.cs _ RNG.out Try.underlying41 rfl infoAct ?_))
          refine (play_at HT.out HB.out.size X HIN.out hlen).mono ?_
          rintro e v1 ⟨rfl, Q, t1, n1, k1⟩
          have HT5 := hide t1
          have HB5 := hide (HB.out.trans k1)
          have hou2 : Q.ou.length ≤ k + 1 := by unfold Next at n1; omega
          clear t1 n1 k1 RNG HT HB AM HX
          obtain ⟨NL, hNL⟩ : ∃ NL, NL = Q.L.length := ⟨_, rfl⟩
          have HE : Hid (∀ W, Two nob nob w.heap.size W b y Q Q → ∃ ea ec, W.cell? ⟨y, 2, none⟩ = some (.slice ea NL ec) ∧ NL ≤ ec ∧ ec ≤ maxLen) := fun W q => by
            obtain ⟨ea, ec, q1, q2, q3, _⟩ := q.ends
            rw [hNL]; exact ⟨ea, ec, q1, q2, q3⟩
          have hN8 : NL ≤ 128 := by
            obtain ⟨ea, ec, _, _, _, q4⟩ := HT5.out.ends
            rw [hNL]; exact q4
          clear hNL
          go_wp2_with fail
          go_loopw [15] (fun vk wq => ∃ m : Nat, m ≤ 10 ∧ vk = .int .i64 ((m : Int) - 1) ∧ Hid (Two nob nob w.heap.size wq b y Q Q) ∧ Hid (Below w.heap.size w wq)) (fun v _ => (10 - RowKit.intOf v).toNat)
          case atStart => exact ⟨0, by omega, rfl, HT5, HB5⟩
          case round =>
            clear HT5 HB5
            obtain ⟨m, hm, rfl, HTq, HBq⟩ := hrel
            obtain ⟨ea, ec, y2, ye, yc⟩ := HE.out _ HTq.out
            unfold maxLen at yc
            obtain ⟨e, he⟩ : ∃ e, e = (m : Int) - 1 := ⟨_, rfl⟩
            rw [← he]
            have HEE := hide he
            obtain ⟨mn, hmn⟩ : ∃ mn : Int, mn = min (NL : Int) 8 := ⟨_, rfl⟩
            have hmin : min (NL : Int) 8 = mn := hmn.symm
            have hmn8 : mn ≤ 8 := by omega
            have e1 : -1 ≤ e := by omega
            have e2 : e ≤ 9 := by omega
            by_cases hcm2 : e ≤ mn
            · have q0 : decide (e ≤ mn) = true := decide_eq_true hcm2
              clear he hmn
              go_wp2_with fail
              refine (same_at HTq.out e).mono ?_
              rintro x wz ⟨rfl, bz⟩
              have HTz := hide (HTq.out.below bz)
              have HBz := hide (HBq.out.trans (bz.mono HBq.out.size))
              clear bz y2
              go_wp2_with fail
              go_roundw
              case rel => exact ⟨m + 1, by have := HEE.out; omega, by have := HEE.out; go_num, HTz, HBz⟩
              case measure => simp [RowKit.intOf]; have := HEE.out; omega
            · have q0 : decide (e ≤ mn) = false := decide_eq_false hcm2
              clear he hmn
              go_wp2_with fail
              refine (HTq.out.usedp).mono ?_
              rintro x wy ⟨rfl, by_⟩
              have HTy := hide (HTq.out.below by_)
              have HBy := hide (HBq.out.trans (by_.mono HBq.out.size))
              clear by_ y2
              go_wp2_with fail
              refine (HTy.out.usedr).mono ?_
              rintro x wy2 ⟨rfl, rfl⟩
              go_wp2_with fail
              go_roundw
              case rel => exact ⟨k + 1, b, Q, by omega, rfl, by go_num, HTy, hou2, HBy⟩
              case measure => simp [RowKit.intOf]; omega
      · have hd : decide ((k : Int) < (len : Int)) = false := decide_eq_false (by omega)
        go_wp2_with fail
        refine (outs_p2 HT.out HB.out.size (fun _ q => q.elim)).mono ?_
        rintro e v1 ⟨oa, oc, rfl, s1, t1, k1⟩
        have hz := s1.ltZ (Z := nob) (fun _ q => q.elim)
        have B1 := hide (HB.out.trans (k1.frm HB.out.size))
        have T1 := hide t1
        have S1 := hide s1
        have HZ := hide hz
        clear s1 t1 k1 hz
        go_wp2_with fail
        refine (outs_r2 T1.out B1.out.size HZ.out).mono ?_
        rintro e v2 ⟨ra, rc, rfl, s2, t2, k2⟩
        have B2 := hide (B1.out.trans (k2.frm B1.out.size))
        have T2 := hide t2.mono
        have S1' := hide (S1.out.keepS k2 frm_blk)
        have S2 := hide s2
        clear s2 t2 k2
        go_wp2_with fail
        refine (same_outs _ _ _ _ _ _ _ _ S1'.out S2.out).mono ?_
        rintro e v3 ⟨rfl, k3⟩
        have B3 := hide (B2.out.trans (k3.mono B2.out.size))
        have T3 := hide (T2.out.below k3)
        clear k3
        go_wp2_with fail
        refine (outs_p2 T3.out B3.out.size (fun _ q => q.elim)).mono ?_
        rintro e v4 ⟨oa', oc', rfl, s4, t4, k4⟩
        have B4 := hide (B3.out.trans (k4.frm B3.out.size))
        rw [show (outsP P).ou.length = 0 from rfl]
        clear s4 t4 k4
        go_wp2_with fail
        refine (works_at _).mono ?_
        rintro e v5 ⟨rfl, k5⟩
        have B5 := hide (B4.out.trans (k5.mono B4.out.size))
        clear k5
        go_wp2_with fail
        go_ret
        exact ⟨by first | rfl | simp, B5.out⟩
end Go.Proofs.Ytjojhnkibgkleaa
