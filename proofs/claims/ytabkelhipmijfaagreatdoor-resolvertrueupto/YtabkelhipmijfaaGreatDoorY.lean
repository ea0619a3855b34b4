/-
  A walk along a name: a step, its end, and Name; conditions as each theorem has them.
-/
import Derived.Test.YtabkelhipmijfaaGreatDoorX
import Derived.Deep.LoopGhost
set_option linter.unusedSimpArgs false
set_option linter.unusedVariables false
namespace Go.Proofs.YtabkelhipmijfaaGreatDoor
open Go.RowKit

/-- How far a walk may still go. -/
def mea (n q p : Nat) : Nat := q * (n + 1) + (n - p)
theorem mea_led {n q p z : Nat} (h : z < q) : mea n z z < mea n q p := by
  unfold mea
  have : (z + 1) * (n + 1) ≤ q * (n + 1) := Nat.mul_le_mul_right _ h
  have e : (z + 1) * (n + 1) = z * (n + 1) + (n + 1) := by rw [Nat.add_mul, Nat.one_mul]
  omega
theorem mea_lab {n q p k : Nat} (h : p < n) (hk : 0 < k) : mea n q (p + k) < mea n q p := by unfold mea; omega
/-- What a step makes of a walk. -/
def StepQ (w : World) (B g A : Nat) (a : Option Addr) (n c : Nat) (b : List Nat) (q p bh : Nat) (t : List Nat) (w' : World) : Prop :=
  ∃ q' p' bh' t' o' e', Wlk w' B g A a n c b q' p' bh' t' o' e' ∧ Below B w w' ∧ (e' ≠ .ok → nm b A q p t bh = ([], 0, e')) ∧ (e' = .ok → o' = true → nm b A q p t bh = if (name t').2 = .ok then ((name t').1, bh', .ok) else ([], 0, .one A 63)) ∧
    (e' = .ok → o' = false → t'.length ≤ 253 ∧ nm b A q p t bh = nm b A q' p' t' bh' ∧ mea n q' p' < mea n q p)
theorem andNot_i64 (x : Nat) (h : x < 65536) : bits .andNot .i64 (x : Int) 49152 = ((x % 16384 : Nat) : Int) := by
  have h1 : (BitVec.ofInt 64 (x : Int)).toNat = x := by
    rw [BitVec.ofInt_natCast, BitVec.toNat_ofNat]; exact Nat.mod_eq_of_lt (by omega)
  have h2 : (~~~ BitVec.ofInt 64 49152).toNat = 18446744073709502463 := by decide
  have hx : x &&& 65535 = x := by
    have := Nat.and_two_pow_sub_one_eq_mod x 16
    rw [show (2 : Nat) ^ 16 - 1 = 65535 from rfl] at this
    rw [this]; omega
  have ho : x &&& 18446744073709502463 = x % 16384 := by
    have e : x &&& 18446744073709502463 = x &&& (65535 &&& 18446744073709502463) := by
      rw [← Nat.and_assoc, hx]
    have := Nat.and_two_pow_sub_one_eq_mod x 14
    rw [e, show 65535 &&& 18446744073709502463 = 2 ^ 14 - 1 from rfl, this]
  show IntKind.i64.wrap ((BitVec.ofInt 64 (x : Int) &&& ~~~ BitVec.ofInt 64 49152).toNat : Int) = _
  rw [BitVec.toNat_and, h1, h2, IntKind.wrap_i64, ho]
  omega
set_option maxRecDepth 100000 in
set_option maxHeartbeats 4000000 in
theorem step_at (B g A : Nat) (a : Option Addr) (n c : Nat) (b : List Nat) (q p bh : Nat) (t : List Nat) (w : World) (h : Wlk w B g A a n c b q p bh t false .ok) (htl : t.length ≤ 253) :
    Calls Tryz.prog 125 #[.pointer (some ⟨g, 0, none⟩)] w fun x w' => x = .returned (.tuple #[]) ∧ StepQ w B g A a n c b q p bh t w' := by
  have H := hide h
  have hln := h.src.hlen
  obtain ⟨v, u0, h1, _⟩ := h.row
  have c1 : w.cell? ⟨g, 1, none⟩ = some (.int .i64 (p : Nat)) := h1.cell 1
  have hgs := h1.lt
  obtain ⟨u, rd, ow⟩ := h.rdr
  have HT := hide (take_at g 215 _ a n c b (p, .ok) 1 w rd (by omega))
  have HOW := hide ow
  have HBY := hide h.src.byte
  have HTL := hide htl
  have HLN := hide hln
  have hrp := h.rp
  clear h h1 rd ow htl hln
  go_enter Tryz.func125, Tryz.ntmps125
  go_wp2_with fail
  refine HT.out.mono ?_
  rintro e w1 ⟨x, l, y, rfl, rd1, k1, z1, z2⟩
  have hw := H.out.of_rdr HOW.out rd1 k1
  have RD1 := hide rd1
  obtain ⟨⟨v1, p1, p2⟩, _⟩ := rd1
  have d2 : w1.cell? ⟨g, 2, none⟩ = some v1 := p1.cell 2
  by_cases hok : p < n
  · have et : tk b 1 (p, .ok) = (p + 1, .ok) := tk_in (by rw [HLN.out]; omega)
    rw [et] at hw z1 p1 p2
    obtain ⟨rfl, s1, _⟩ := z1 rfl
    obtain rfl := p2.nil rfl
    obtain ⟨xb, xo, rfl, hxl, hc⟩ := s1.lies (by omega)
    have hc0 := hc 0 (by omega)
    rw [pc_getD (by omega), Nat.add_zero, Nat.add_zero] at hc0
    have hlt := getD_lt HBY.out p
    have hy := s1.hcap
    obtain ⟨C, hC⟩ : ∃ C, C = b.getD p 0 := ⟨_, rfl⟩
    rw [← hC] at hlt
    replace hc0 : w1.cell? ⟨xb, xo, none⟩ = some (.int .u8 (C : Nat)) := by rw [hC]; exact hc0
    have d1 : w1.frozen? ⟨g, 1, none⟩ = false := p1.frozen 1
    have d1' : w1.cell? ⟨g, 1, none⟩ = some (.int .i64 ((p + 1 : Nat) : Nat)) := p1.cell 1
    have hg1 := p1.lt
    have HW := hide hw
    have HC := hide hC
    have HOK := hide hok
    clear hw p1 p2 k1 z1 z2 s1 hc HT hok hC c1 RD1 et
    by_cases h192 : 192 ≤ C
    · have t3 : ((C : Int) / 64 == 3) = true := by simp; omega
      have H192 := hide h192
      obtain ⟨rw2, rk2⟩ := HW.out.1.upd ((Kept.refl g g w1).set 1 (.int .i64 (p : Nat))) q p bh false (fun v u r => by simpa using r.set 1 (.int .i64 (p : Nat))) H.out.rp H.out.rq H.out.rbh
      obtain ⟨w2, hw2⟩ : ∃ w2, w2 = w1.setCell ⟨g, 1, none⟩ (.int .i64 (p : Nat)) := ⟨_, rfl⟩
      rw [← hw2] at rw2 rk2
      have HW2 := hide hw2.symm
      obtain ⟨u2, rd2, ow2⟩ := rw2.rdr
      have RW2 := hide rw2
      have RK2 := hide (HW.out.2.trans rk2)
      have OW2 := hide ow2
      have HN := hide (number_at g 215 _ a n c b (p, .ok) w2 rd2)
      obtain ⟨z, hz⟩ : ∃ z, z = nu b (p, .ok) := ⟨_, rfl⟩
      rw [← hz] at HN
      have HZ := hide hz
      have hzl : z < 65536 := by rw [hz]; exact nu_lt HBY.out _
      have han := andNot_i64 z hzl
      clear h192 rw2 rk2 hw2 rd2 ow2 hz
      go_wp2_with fail
      rw [HW2.out]
      refine HN.out.mono ?_
      rintro e w3 ⟨rfl, rd3, k3⟩
      have hw3 := RW2.out.of_rdr OW2.out rd3 k3
      have HL := hide (lead_at B g A a n c b q _ bh t false _ (z % 16384) w3 hw3.1 (by omega) (fun ho => by have := (tk_ok ho).2.2; rw [this]; show 2 ≤ p + 2; omega))
      have K3 := hide (RK2.out.trans hw3.2)
      clear rd3 k3 hw3 HN
      go_wp2_with fail
      refine HL.out.mono ?_
      rintro e w4 ⟨rfl, r4, k4⟩
      have HQ : Hid (StepQ w B g A a n c b q p bh t w4) := by
        refine ⟨_, _, _, _, _, _, r4, K3.out.trans k4, ?_⟩
        have hC := HC.out
        have h192 : 192 ≤ b.getD p 0 := by rw [← hC]; exact H192.out
        have hp : p < b.length := by rw [HLN.out]; exact HOK.out
        by_cases hs : p + 2 ≤ b.length
        · have et : tk b 2 (p, .ok) = (p + 2, .ok) := tk_in hs
          have ez : z % 16384 = led b p := by rw [HZ.out, nu_in hs]; rfl
          rw [et, ez]
          dsimp only
          by_cases hq : q ≤ led b p
          · have e1 : ldE q (p + 2) (led b p) .ok = .one p 100 := by unfold ldE; rw [if_pos hq]; rfl
            rw [e1]
            exact ⟨fun _ => nm_led2 h192 hs hq, (fun e => by cases e), (fun e => by cases e)⟩
          · have e1 : ldE q (p + 2) (led b p) .ok = .ok := by unfold ldE; rw [if_neg hq]
            rw [e1]
            exact ⟨fun e => absurd rfl e, (fun _ e => by cases e), fun _ _ => ⟨HTL.out, nm_led h192 hs (by omega), mea_led (by omega)⟩⟩
        · have et : tk b 2 (p, .ok) = (p, .one b.length 6) := by unfold tk; rw [if_pos rfl, if_neg hs]
          rw [et]
          have e1 : ∀ z, ldE q p z (.one b.length 6) = .one b.length 6 := fun z => by unfold ldE; split; rfl; rfl
          simp only [e1]
          exact ⟨fun _ => nm_led1 hp h192 (by omega), (fun e => by cases e), (fun e => by cases e)⟩
      clear r4 k4
      go_wp2_with fail
      go_end0
      exact ⟨rfl, HQ.out⟩
    · have t3 : ((C : Int) / 64 == 3) = false := by simp; omega
      by_cases h64 : 64 ≤ C
      · have HST := hide (HW.out.1.stop (p : Int) p 61 (fun _ => rfl))
        rw [show ((61 : Nat) : Int) = 61 from rfl] at HST
        have HQ : Hid (∀ w2, Wlk w2 B g A a n c b q (p + 1) bh t false (stp p 61 (p + 1, .ok)).2 → Below B w1 w2 → StepQ w B g A a n c b q p bh t w2) := fun w2 r k => by
          refine ⟨_, _, _, _, _, _, r, HW.out.2.trans k, ?_⟩
          rw [show (stp p 61 (p + 1, Er.ok)).2 = .one p 61 from rfl]
          exact ⟨fun _ => nm_mid (by rw [HLN.out]; exact HOK.out) (by rw [← HC.out]; omega) (by rw [← HC.out]; exact h64), (fun e => by cases e), (fun e => by cases e)⟩
        by_cases h2 : ((C : Int) / 64 == 2) = true
        · clear h192 h64
          go_wp2_with fail
          refine HST.out.mono ?_
          rintro e w2 ⟨rfl, r2, k2⟩
          have HQ2 := hide (HQ.out w2 r2 k2)
          clear r2 k2
          go_wp2_with fail
          go_end0
          exact ⟨rfl, HQ2.out⟩
        · have t2 : ((C : Int) / 64 == 2) = false := by simpa using h2
          have t1 : ((C : Int) / 64 == 1) = true := by simp at t2 ⊢; omega
          clear h192 h64 h2
          go_wp2_with fail
          refine HST.out.mono ?_
          rintro e w2 ⟨rfl, r2, k2⟩
          have HQ2 := hide (HQ.out w2 r2 k2)
          clear r2 k2
          go_wp2_with fail
          go_end0
          exact ⟨rfl, HQ2.out⟩
      · have t2 : ((C : Int) / 64 == 2) = false := by simp; omega
        have t1 : ((C : Int) / 64 == 1) = false := by simp; omega
        by_cases h0 : C = 0
        · subst h0
          have HL := hide (label0_at B g A a n c b q (p + 1) bh t p w1 HW.out.1)
          have HQ : Hid (∀ w2, Wlk w2 B g A a n c b q (p + 1) (if q = A then p + 1 else bh) t true .ok → Below B w1 w2 → StepQ w B g A a n c b q p bh t w2) := fun w2 r k => by
            refine ⟨_, _, _, _, _, _, r, HW.out.2.trans k, fun e => absurd rfl e, fun _ _ => ?_, (fun _ e => by cases e)⟩
            exact nm_end (by rw [HLN.out]; exact HOK.out) HC.out.symm
          obtain ⟨bh', hbh⟩ : ∃ x, x = if q = A then p + 1 else bh := ⟨_, rfl⟩
          rw [← hbh] at HL HQ
          clear h192 h64 hbh
          go_wp2_with fail
          refine HL.out.mono ?_
          rintro e w2 ⟨rfl, r2, k2⟩
          have HQ2 := hide (HQ.out w2 r2 k2)
          clear r2 k2
          go_wp2_with fail
          go_end0
          exact ⟨rfl, HQ2.out⟩
        · have HL := hide (label_at B g A a n c b q (p + 1) bh t p C w1 HW.out.1 (by omega) (by omega) HTL.out)
          have HQ : Hid (∀ w2, Wlk w2 B g A a n c b q (tk b C (p + 1, .ok)).1 bh (tx t (lbB b (p + 1) C)) false (lbE b A p (p + 1) C t) → Below B w1 w2 → StepQ w B g A a n c b q p bh t w2) := fun w2 r k => by
            refine ⟨_, _, _, _, _, _, r, HW.out.2.trans k, ?_⟩
            have hC := HC.out
            have g0 : 0 < b.getD p 0 := by omega
            have g64 : b.getD p 0 < 64 := by omega
            have hp : p < b.length := by rw [HLN.out]; exact HOK.out
            by_cases hs : p + 1 + C ≤ b.length
            · have et : tk b C (p + 1, .ok) = (p + 1 + C, .ok) := tk_in hs
              have eb : lbB b (p + 1) C = lbl b p := by unfold lbB; rw [et, if_pos rfl, hC]; rfl
              by_cases hl : labB (lbl b p) = true
              · have e2 : lbE2 b p (p + 1) C = .ok := by unfold lbE2; rw [eb, if_pos hl, et]
                by_cases hb : 253 < (tx t (lbl b p)).length
                · have e3 : lbE b A p (p + 1) C t = .one A 63 := by unfold lbE; rw [eb, if_pos hb, e2]; rfl
                  rw [e3]
                  exact ⟨fun _ => nm_lab3 g0 g64 (by omega) hl hb, (fun e => by cases e), (fun e => by cases e)⟩
                · have e3 : lbE b A p (p + 1) C t = .ok := by unfold lbE; rw [eb, if_neg hb, e2]
                  rw [e3, et, eb]
                  refine ⟨fun e => absurd rfl e, (fun _ e => by cases e), fun _ _ => ⟨by omega, ?_, ?_⟩⟩
                  · rw [nm_lab g0 g64 (by omega) hl (by omega), ← hC]
                  · show mea n q (p + 1 + C) < _
                    rw [Nat.add_assoc]
                    exact mea_lab HOK.out (by omega)
              · have e2 : lbE2 b p (p + 1) C = .one p 61 := by unfold lbE2; rw [eb, if_neg hl, et]; rfl
                have e3 : lbE b A p (p + 1) C t = .one p 61 := by unfold lbE; rw [e2]; split; rfl; rfl
                rw [e3]
                exact ⟨fun _ => nm_lab2 g0 g64 (by omega) hl, (fun e => by cases e), (fun e => by cases e)⟩
            · have et : tk b C (p + 1, .ok) = (p + 1, .one b.length 6) := by unfold tk; rw [if_pos rfl, if_neg (by exact hs)]
              have e2 : lbE2 b p (p + 1) C = .one b.length 6 := by unfold lbE2; rw [et]; split; rfl; rfl
              have e3 : lbE b A p (p + 1) C t = .one b.length 6 := by unfold lbE; rw [e2]; split; rfl; rfl
              rw [e3]
              exact ⟨fun _ => nm_lab1 hp g0 g64 (by omega), (fun e => by cases e), (fun e => by cases e)⟩
          have tz : ((C : Int) == 0) = false := by simp; omega
          clear h192 h64 h0
          go_wp2_with fail
          refine HL.out.mono ?_
          rintro e w2 ⟨rfl, r2, k2⟩
          have HQ2 := hide (HQ.out w2 r2 k2)
          clear r2 k2
          go_wp2_with fail
          go_end0
          exact ⟨rfl, HQ2.out⟩
  · have et : tk b 1 (p, .ok) = (p, .one b.length 6) := by unfold tk; rw [if_pos rfl, if_neg (by rw [HLN.out]; omega)]
    rw [et] at hw p2
    obtain ⟨x1, rfl⟩ := p2.ptr (by simp)
    have HQ : Hid (StepQ w B g A a n c b q p bh t w1) := ⟨_, _, _, _, _, _, hw.1, hw.2, fun _ => nm_out (by rw [HLN.out]; omega), fun e => (by cases e), fun e => (by cases e)⟩
    obtain ⟨rfl, rfl, rfl⟩ := z2 (by rw [et]; simp)
    clear hw p1 p2 k1 z1 z2 HT hok c1 RD1 et
    go_wp2_with fail
    refine bodyPost_ret (results_none rfl _ _ _) rfl ⟨rfl, HQ.out⟩
end Go.Proofs.YtabkelhipmijfaaGreatDoor
