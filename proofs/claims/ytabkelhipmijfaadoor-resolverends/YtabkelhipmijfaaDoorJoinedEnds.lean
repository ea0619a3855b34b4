/-
  A question without an answer is sent so many times and given up: what the statement does; ResolverEnds: for all arguments the call answers true and its arguments read as before, where the two listed tables of Go's own library are as the program's text lays them; no other conditions.; conditions as each theorem has them.
-/
import Derived.Test.YtabkelhipmijfaaDoorJoinedGV
import Derived.Test.YtabkelhipmijfaaDoorGX
import Derived.Test.YtabkelhipmijfaaDoorCards
import Derived.Test.YtabkelhipmijfaaDoorTie
import Derived.Test.YtabkelhipmijfaaDoorT
import Derived.WalkKit
import Derived.ProofKit
import Derived.ShutString
import Derived.SizedLaws
import Derived.ChangeOld
import Derived.ChangeMaps5
import Derived.Below
import Derived.SevenTiedAt
set_option linter.unusedSimpArgs false
set_option linter.unusedVariables false
namespace Go.Proofs.YtabkelhipmijfaaDoor
open Go.RowKit

theorem posts_n {F : Nat → Prop} {w : World} {r : Nat} {R R' : Rs} (h : PF F w r R) (n : Nat) (hn : R.ps.length = n) (hR : { R with ps := [] } = R') : Calls Tryd.prog 8 #[.pointer (some ⟨r, 0, none⟩)] w fun e w' => ∃ a c, e = .returned (.slice a n c) ∧ PF F w' r R' ∧ KeptS F w w' := by
  subst hn hR
  refine (posts_F h).mono ?_
  rintro e w' ⟨a, c, e1, _, e3, e4⟩
  exact ⟨a, c, e1, PF.mono (R := { R with ps := [] }) e3 (fun k _ hk => hk.1), e4⟩
/-- What a Step makes of the question. -/
theorem e_step (id : Int) (s : Nat) (now t draw : Int) (h : nowOk t) (h1 : t ≤ now + 4 * s) (hs : t < now + 12) : ∃ (ST : Bool) (n : Nat) (i2 : Int), stepT (eR id s now) t = ST ∧ (stepR (eR id s now) t draw).ps.length = n ∧ { stepR (eR id s now) t draw with ps := [] } = eR i2 (s + n) now ∧ n ≤ 1 ∧ t + 1 ≤ now + 4 * ((s + n : Nat) : Int) ∧ (s ≤ 3 → s + n ≤ 3) := by
  by_cases hd : t = now + 4 * s
  · have e := e_again id s now t draw h hd (by omega)
    exact ⟨_, 1, draw % 65536, rfl, by rw [e]; rfl, by rw [e]; rfl, by omega, by omega, fun _ => by omega⟩
  · obtain ⟨e1, e2⟩ := e_wait id s now t draw (by omega)
    exact ⟨_, 0, id, e1, by rw [e2]; rfl, by rw [e2]; rfl, by omega, by omega, fun h => h⟩
set_option maxRecDepth 100000 in
set_option maxHeartbeats 1500000 in
theorem ends_walk (now draw : Int) (w : World) (hV : Vars w) : Calls Tryd.prog 3 #[.int .i64 now, .int .i64 draw] w fun e w' => e = .returned (.bool true) ∧ Below w.heap.size w w' := by
  obtain ⟨k, hk, hk2⟩ := among_k now 1073741824 (by omega) (by omega)
  have HK := hide hk2
  have HW := hide (works_at w hV)
  have HV := hide hV
  have HP0 : Hid (0 < w.heap.size) := vars_pos hV
  have H0 := hide (show ¬ (w.heap.size ≤ 0) from by have := HP0.out; omega)
  have hnk : nowOk (k : Int) := by unfold nowOk; omega
  have HNK := hide hnk
  clear hk2 hV hnk
  go_enter Tryd.func3, Tryd.ntmps3
  go_wp2_with fail
  refine HW.out.mono ?_
  rintro e w1 ⟨rfl, k1⟩
  have K1 := hide k1
  have HN := hide (new_F (F := fun k => w.heap.size ≤ k) 1 1 w1 (fun k hk => by have := K1.out.size; omega) (by omega) (by omega) (by omega))
  rw [show ((1 : Nat) : Int) = 1 from rfl] at HN
  clear k1
  go_wp2_with fail
  refine (HK.out _).mono ?_
  rintro e w2 ⟨rfl, rfl⟩
  go_wp2_with fail
  refine HN.out.mono ?_
  rintro e w2 ⟨r, rfl, p2, k2⟩
  have P2 := hide p2
  have K2 : Hid (Below w.heap.size w w2) := K1.out.trans (k2.mono K1.out.size)
  have HA := hide (ask_F P2.out (fun k hk => by have := K2.out.size; omega) (HV.out.below K2.out) H0.out (k : Int) draw ab (by decide) (by simp [newR]))
  obtain ⟨a1, a2, a3⟩ := e_first (k : Int) draw HNK.out
  rw [a1, a2, a3] at HA
  generalize askA (newR 1 1) (k : Int) ab = LA at HA
  generalize (putQr (draw % 65536) (byt ab)).1 = PX at HA
  clear a1 a2 a3 p2 k2 K1
  go_wp2_with fail
  refine HA.out.mono ?_
  rintro e w3 ⟨v, rfl, ho, p3, k3⟩
  obtain ⟨va, vc, rfl⟩ := ho.shape
  have K3 : Hid (Below w.heap.size w w3) := kept_below K2.out k3 K2.out.size (fun x hx => hx)
  have HPO := hide (posts_n (R' := eR (draw % 65536) 1 (k : Int)) p3 1 rfl rfl)
  clear ho p3 k3 HA P2 K2
  go_wp2_with fail
  refine HPO.out.mono ?_
  rintro e w4 ⟨pa, pc, rfl, p4, k4⟩
  have P4 := hide p4
  have K4 : Hid (Below w.heap.size w w4) := kept_below K3.out k4 K3.out.size (fun x hx => hx)
  obtain ⟨L, hL⟩ : ∃ L : Int, L = (k : Int) + 12 := ⟨_, rfl⟩
  have hw12 : IntKind.i64.wrap ((k : Int) + 12) = L := by rw [IntKind.wrap_i64]; omega
  have HL := hide hL
  clear hL
  clear p4 k4 HPO K3
  go_wp2_with fail
  go_loopw [9, 10] (fun u v wr => ∃ (t : Int) (s : Nat) (id : Int), (k : Int) ≤ t ∧ t ≤ L ∧ t ≤ (k : Int) + 4 * s ∧ s ≤ 3 ∧ u = .int .i64 s ∧ v = .int .i64 t ∧ Hid (PF (fun k => w.heap.size ≤ k) wr r (eR id s k)) ∧ Hid (Below w.heap.size w wr)) (fun _ v _ => k + 12 - (intOf v).toNat)
  case atStart => exact ⟨k, 1, _, by omega, by have := HL.out; omega, by omega, by omega, rfl, rfl, P4, K4⟩
  case round =>
    clear P4 K4
    obtain ⟨t, s, id, ht0, ht1, hts, hs3, rfl, rfl, HPF, HB⟩ := hrel
    have hnt : nowOk t := by have := HL.out; unfold nowOk; omega
    have HNT := hide hnt
    have HA := hide (ask_F HPF.out (fun k hk => by have := HB.out.size; omega) (HV.out.below HB.out) H0.out t 1 ab (by decide) (by simp [eR]))
    by_cases htl : t < L
    · have hd : decide (t < L) = true := decide_eq_true htl
      have htl2 : t < (k : Int) + 12 := by have := HL.out; omega
      obtain ⟨a1, a2, a3⟩ := e_ask id s k t hnt
      rw [a1, a2, a3] at HA
      generalize askA (eR id s k) t ab = LA at HA
      obtain ⟨ST, n, i2, q1, q2, q3, q4, q5, q6⟩ := e_step id s k t (t - (k : Int)) hnt hts htl2
      have q6' := q6 hs3
      have Q2 := hide q2
      have Q3 := hide q3
      have Q1 := hide q1
      have hw1 : IntKind.i64.wrap (t - (k : Int)) = t - (k : Int) := by rw [IntKind.wrap_i64]; omega
      have hw2 : IntKind.i64.wrap (t + 1) = t + 1 := by rw [IntKind.wrap_i64]; omega
      have hw3 : IntKind.i64.wrap ((s : Int) + (n : Int)) = (s : Int) + (n : Int) := by rw [IntKind.wrap_i64]; omega
      have hr1 : t + 1 ≤ L := by omega
      have hm : k + 12 - (t + 1).toNat < k + 12 - t.toNat := by have := HL.out; omega
      clear a1 a2 a3 q1 q2 q3 q6 hnt htl2
      go_wp2_with fail
      refine HA.out.mono ?_
      rintro e w5 ⟨v, rfl, ho, p5, k5⟩
      obtain ⟨va2, vc2, rfl⟩ := ho.shape
      have P5 := hide p5
      have K5 : Hid (Below w.heap.size w w5) := kept_below HB.out k5 HB.out.size (fun x hx => hx)
      have HST := hide (step_F P5.out (fun k hk => by have := K5.out.size; omega) (HV.out.below K5.out) H0.out t (t - (k : Int)) (by simp [eR]))
      rw [Q1.out] at HST
      generalize hR4 : stepR (eR id s k) t (t - (k : Int)) = R4 at HST
      rw [hR4] at Q2 Q3
      clear ho p5 k5 HA HPF HB hR4
      go_wp2_with fail
      refine HST.out.mono ?_
      rintro e w6 ⟨rfl, p6, k6⟩
      have K6 : Hid (Below w.heap.size w w6) := kept_below K5.out k6 K5.out.size (fun x hx => hx)
      have HPO := hide (posts_n p6 n Q2.out Q3.out)
      clear p6 k6 HST P5 K5
      go_wp2_with fail
      refine HPO.out.mono ?_
      rintro e w7 ⟨ya, yc, rfl, p7, k7⟩
      have P7 := hide p7
      have K7 : Hid (Below w.heap.size w w7) := kept_below K6.out k7 K6.out.size (fun x hx => hx)
      clear p7 k7 HPO K6
      go_wp2_with fail
      go_roundw
      case rel => exact ⟨t + 1, s + n, i2, by omega, by omega, by omega, by omega, by go_num, by first | trivial | rfl, P7, K7⟩
      case measure => simpa [intOf] using hm
    · have hd : decide (t < L) = false := decide_eq_false htl
      obtain rfl : s = 3 := by have := HL.out; omega
      obtain rfl : t = L := by omega
      have hL := HL.out
      have hnt : nowOk t := by unfold nowOk; omega
      have hn4 : nowOk (t + 4) := by unfold nowOk; omega
      have HST := hide (step_F HPF.out (fun k hk => by have := HB.out.size; omega) (HV.out.below HB.out) H0.out t 1 (by simp [eR]))
      obtain ⟨d1, d2⟩ := e_due id 3 k t hnt (by rw [hL]; rfl)
      have d3 := e_end id k t hnt (by rw [hL]; rfl)
      have d4 : nowE t = 0 := by unfold nowE; rw [if_pos hnt]
      rw [d1, d3, d4] at HST
      have hw4 : IntKind.i64.wrap (t + 4) = t + 4 := by rw [IntKind.wrap_i64]; omega
      obtain ⟨g1, g2, g3, g4⟩ := g_known t hnt
      obtain ⟨o1, o2⟩ := g_over t hnt hn4
      have G1 := hide g1
      have G2 := hide g2
      have G3 := hide g3
      have G4 := hide g4
      have O1 := hide o1
      have O2 := hide o2
      clear hL HA d1 d2 d3 d4 g1 g2 g3 g4 o1 o2 hnt hn4 HNT
      go_wp2_with fail
      refine HST.out.mono ?_
      rintro e w5 ⟨rfl, p5, k5⟩
      have P5 := hide p5
      have K5 : Hid (Below w.heap.size w w5) := kept_below HB.out k5 HB.out.size (fun x hx => hx)
      have HA1 := hide (ask_F P5.out (fun k hk => by have := K5.out.size; omega) (HV.out.below K5.out) H0.out t 1 ab (by decide) (by simp [eG]))
      rw [G1.out, G2.out, G3.out, G4.out] at HA1
      clear p5 k5 HST HPF HB
      go_wp2_with fail
      refine HA1.out.mono ?_
      rintro e w6 ⟨v, rfl, ho, p6, k6⟩
      obtain ⟨ya, yc, rfl⟩ := ho.shape
      have P6 := hide p6
      have K6 : Hid (Below w.heap.size w w6) := kept_below K5.out k6 K5.out.size (fun x hx => hx)
      have HA2 := hide (ask_F P6.out (fun k hk => by have := K6.out.size; omega) (HV.out.below K6.out) H0.out (t + 4) 2 ab (by decide) (by simp [eG]))
      rw [O1.out, O2.out] at HA2
      generalize askA (eG t) (t + 4) ab = LB at HA2
      rw [List.length_nil]
      clear ho p6 k6 HA1 P5 K5
      go_wp2_with fail
      refine HA2.out.mono ?_
      rintro e w7 ⟨v, rfl, ho, p7, k7⟩
      obtain ⟨za, zc, rfl⟩ := ho.shape
      have K7 : Hid (Below w.heap.size w w7) := kept_below K6.out k7 K6.out.size (fun x hx => hx)
      clear ho p7 k7 HA2 P6 K6
      go_wp2_with fail
      go_ret
      exact ⟨rfl, K7.out⟩

end Go.Proofs.YtabkelhipmijfaaDoor

set_option maxRecDepth 100000
set_option linter.constructorNameAsVariable false
namespace Go.Proofs.YtabkelhipmijfaaDoor.resolverEnds
open Go.ChangeShapes Go.WideShapes Go.ChangeAt Go.RowKit
set_option linter.unusedVariables false
set_option linter.unusedSimpArgs false

theorem own : ownKnob Tryd.prog.godebug = none := by kernel_rfl
theorem laidOut : laidOutB Tryd.prog = true := by kernel_rfl

theorem lifted (os : Os) (started : os.Started) (H : Type) (enc : TypeId × Value → H) :
    ReturnsInHanded {} Tryd.checked os 3 .any (fun w args => (Rows.resolverEndsSpec.pre enc Tryd.prog Tryd.f3 [] false w args ∧ laidMetH Tryd.prog laidL w) ∧ sizedMet enc Tryd.prog Tryd.f3 (OpenSpec.ofChange Rows.resolverEndsSpec) false w args)
      (Rows.resolverEndsSpec.post enc Tryd.prog Tryd.f3 false true false false) := by
  refine lift_shaped (C := Tryd.checked) (X := fun w _ => laidMetH Tryd.prog laidL w) (fun _ _ _ hh h => h.of_heap hh) own started (by kernel_rfl) Tryd.func3
    (ChangeSpec.witness_shaped (enc := enc) (C := Tryd.checked) (os := os) (X := fun w _ => laidMetH Tryd.prog laidL w) false (laidW os) #[.int .i64 0, .int .i64 0] 8 rfl (World.shaped_of_RefB (by kernel_rfl) (by kernel_rfl)) (by kernel_rfl) (by kernel_rfl) (by kernel_rfl) (door_met os _)) ?_
  intro W base args ds gs before hval0 hW hsz0 hL hsh
  have hval : ∀ (j : Nat) t v, Tryd.f3.params[j]? = some t → args[j]? = some v → Value.okWide Tryd.prog W .any base t v := hval0
  have hW' := hW
  obtain ⟨p, q, hA0, hV, rfl, hfz, hnd⟩ := hW
  have hA : DataW.TrodAll enc Tryd.prog W 0 (fun _ => true) true Tryd.f3.params.toList args.toList ds p := hA0
  rw [Tryd.params3] at hA hval
  obtain ⟨v0, vs0, d0, ds0, p0, q0, hargs, rfl, rfl, h0, r0⟩ := trodAll_cons hA
  obtain ⟨v1, vs1, d1, ds1, p1, q1, rfl, rfl, rfl, h1, r1⟩ := trodAll_cons r0
  obtain ⟨rfl, rfl, rfl⟩ := trodAll_nil r1
  obtain rfl : args = #[v0, v1] := by cases args; simp_all
  obtain ⟨rfl, rfl⟩ := trodVars_none hV
  obtain ⟨s0, rfl, rfl, rfl, w0⟩ := open_int Tryd.underlying3 (hval 0 3 v0 rfl rfl) h0
  obtain ⟨s1, rfl, rfl, rfl, w1⟩ := open_int Tryd.underlying3 (hval 1 3 v1 rfl rfl) h1
  clear hA0 hval0 hsz0
  refine (ends_walk s0 s1 W (of_laid hL hsh)).mono fun e W' ⟨he, bel⟩ => ?_
  subst he
  exact ⟨_, rfl, _, _, _, [], _, [], hW', trodAll_mk1 (shut_bool Tryd.underlying4 _), (trodAll_cons_mk (shut_int Tryd.underlying3 w0) (trodAll_cons_mk (shut_int Tryd.underlying3 w1) trodAll_mk0)), rfl, bel.frame _, fun h => by cases h⟩

theorem over : Rows.ResolverEndsSaid :=
  OpenClaim.holds_of_wide 3 Tryd.f3 rfl rfl rfl rfl rfl rfl rfl ⟨rfl, rfl, rfl, rfl, rfl⟩ rfl rfl rfl rfl rfl (by kernel_rfl) Tryd.func3 (by kernel_rfl)
    (of_decide_eq_true (by kernel_rfl)) (by unfold Func.isWrapper; first | (rw [if_pos (by decide +kernel)]; kernel_rfl) | (rw [if_neg (by decide +kernel)]; exact ⟨rfl, rfl⟩))
    (fun os started H enc _ => lifted os started H enc)

theorem proved : Rows.ResolverEndsCardSaid :=
  Claim7.holds_tied_plain_at .later [] [.data, .pinned] true (true, "b7ec8b3df2b5e51ac7da159829b09e2696088d59bce3e7a26ec0d82ae93c1d7c") false
    over (fun _ h => by cases h) (by kernel_rfl) (fun _ h => by cases h) resolverEnds_row_tie rfl ⟨rfl, rfl⟩ (by kernel_rfl) rfl
    (fun f fn hf hfn => by
      obtain rfl : f = 3 := Option.some.inj ((show Tryd.prog.funcNamed "sallyport/sallyportlaw16.ResolverEnds" = some 3 by kernel_rfl).symm.trans hf) |>.symm
      obtain rfl : fn = Tryd.f3 := (Option.some.inj (Tryd.func3.symm.trans hfn)).symm
      exact ⟨by kernel_rfl, fun j t ht => by
        rw [Tryd.params3] at ht
        have hm : t ∈ [3, 3] := by simpa using Array.mem_of_getElem? ht
        have hall : ([3, 3].all fun u => !Tryd.prog.wantsStandIn u) = true := by kernel_rfl
        exact (show Tryd.prog.wantsStandIn t = false by simpa using List.all_eq_true.1 hall t hm)⟩)
    (by kernel_rfl)
end Go.Proofs.YtabkelhipmijfaaDoor.resolverEnds

namespace Go.Proofs.YtabkelhipmijfaaDoor
theorem resolverEnds_holds : Rows.ResolverEndsCardSaid := resolverEnds.proved
end Go.Proofs.YtabkelhipmijfaaDoor
