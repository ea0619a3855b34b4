/-
  The reference's Put; conditions as each theorem has them.
-/
import Derived.Test.YtiejandeoopiiaaGreatDoorSM
import Derived.Test.YtiejandeoopiiaaGreatDoorRK
set_option linter.unusedSimpArgs false
set_option linter.unusedVariables false
namespace Go.Proofs.YtiejandeoopiiaaGreatDoor
open Go.RowKit
/-- An append of rules as one step. -/
def apOk (P : Program) (v u : Value) (w : World) : Bool := match (Builtin.append_ #[22, 22] 22 #[v, u]).run P w with
  | .ok _ _ => true
  | _ => false
def apV (P : Program) (v u : Value) (w : World) : Value := match (Builtin.append_ #[22, 22] 22 #[v, u]).run P w with
  | .ok x _ => x
  | _ => undef
def apW (P : Program) (v u : Value) (w : World) : World := match (Builtin.append_ #[22, 22] 22 #[v, u]).run P w with
  | .ok _ y => y
  | _ => w
theorem run_ap {v u : Value} {w : World} (h : apOk Tryz.prog v u w = true) : (Builtin.append_ #[22, 22] 22 #[v, u]).run Tryz.prog w = .ok (apV Tryz.prog v u w) (apW Tryz.prog v u w) := by
  unfold apOk at h
  unfold apV apW
  cases e : (Builtin.append_ #[22, 22] 22 #[v, u]).run Tryz.prog w with
  | ok x y => rfl
  | _ => simp [e] at h
theorem ap_of {v u v' : Value} {w w' : World} (h : (Builtin.append_ #[22, 22] 22 #[v, u]).run Tryz.prog w = .ok v' w') : apOk Tryz.prog v u w = true ∧ apV Tryz.prog v u w = v' ∧ apW Tryz.prog v u w = w' := by
  unfold apOk apV apW
  rw [h]
  exact ⟨rfl, rfl, rfl⟩
theorem run_opap (ρ : Operand → Value) (dst : Option Tmp) (x y : Operand) (pos : String) (after : Array Edge) (guard : Option (Nat × Bool)) (w : World) (h : apOk Tryz.prog (ρ x) (ρ y) w = true) :
    (execOp ρ { dst, op := .call { callee := .builtin .append, args := #[x, y], argTypes := #[22, 22] }, type := 22, pos, after, guard }).run Tryz.prog w = .ok (.value (apV Tryz.prog (ρ x) (ρ y) w)) (apW Tryz.prog (ρ x) (ρ y) w) := by
  unfold execOp
  simp only [resolve, invoke, builtin, Sem.run_bind, Sem.run_pure, Result.andThen_ok, List.map_toArray, List.map_cons, List.map_nil, run_ap h]
attribute [local go_sem ↓] run_opsl run_opap Go.wp_at_zero Go.wp_at_succ
set_option maxRecDepth 100000 in
set_option maxHeartbeats 2000000 in
theorem rput_at (a : Option Addr) (n c : Nat) (l : List Ru) (at_ : Int) (a2 : Option Addr) (n2 c2 : Nat) (l2 : List Ru) (w : World) (h : SrcR w a n c l) (h2 : SrcR w a2 n2 c2 l2) (hz : n * 48 ≤ 140737488351232) (hz2 : n2 * 48 ≤ 140737488351232) : Calls Tryz.prog 20 #[.slice a n c, .int .i64 at_, .slice a2 n2 c2] w fun e w' => ∃ v, e = .returned (.tuple #[v, .int .i64 (putE l at_ l2 : Nat)]) ∧ OwnR w' w.heap.size v (putL l at_ l2) ∧ Below w.heap.size w w' := by
  obtain ⟨E, hE⟩ : ∃ E, E = putE l at_ l2 := ⟨_, rfl⟩
  obtain ⟨L, hL⟩ : ∃ L, L = putL l at_ l2 := ⟨_, rfl⟩
  rw [← hE, ← hL]
  have HL0 : Hid (E ≠ 0 → L = []) := fun hh => by rw [hL, putL, ← hE, if_neg hh]
  have HL1 : Hid (E = 0 → L = l.take at_.toNat ++ (l2 ++ l.drop at_.toNat)) := fun hh => by rw [hL, putL, ← hE, if_pos hh]
  unfold putE at hE
  rw [h.hlen, h2.hlen] at hE
  have HE := hide hE
  have C1 := hide (fun W hs => rCheck_at a n c l W hs)
  have C2 := hide (fun W hs => rCheck_at a2 n2 c2 l2 W hs)
  have hn64 : chkL l = 0 → n ≤ 64 := fun e => by
    rw [chkL, h.hlen] at e
    by_cases h64 : 64 < n
    · rw [if_pos h64] at e; cases e
    · omega
  have hn642 : chkL l2 = 0 → n2 ≤ 64 := fun e => by
    rw [chkL, h2.hlen] at e
    by_cases h64 : 64 < n2
    · rw [if_pos h64] at e; cases e
    · omega
  obtain ⟨k1, hk1⟩ : ∃ k1, k1 = chkL l := ⟨_, rfl⟩
  obtain ⟨k2, hk2⟩ : ∃ k2, k2 = chkL l2 := ⟨_, rfl⟩
  rw [← hk1] at C1 HE hn64
  rw [← hk2] at C2 HE hn642
  have H1 := hide h
  have H2 := hide h2
  have hc := h.hcap
  have hm := h.hmax
  have hc2 := h2.hcap
  have hm2 := h2.hmax
  unfold maxLen at hm hm2
  clear h h2 hE hL hk1 hk2
  go_enter Tryz.func20, Tryz.ntmps20
  go_wp2_with fail
  refine (C1.out _ H1.out).mono ?_
  rintro e w1 ⟨rfl, hb⟩
  have B1 := hide hb
  have S1 := hide (H1.out.below hb)
  have T1 := hide (H2.out.below hb)
  clear hb
  by_cases hz1 : k1 = 0
  · have hn := hn64 hz1
    subst hz1
    go_wp2_with fail
    refine (C2.out _ T1.out).mono ?_
    rintro e w2 ⟨rfl, hb⟩
    have B2 := hide (B1.out.trans (hb.mono B1.out.size))
    have S2 := hide (S1.out.below hb)
    have T2 := hide (T1.out.below hb)
    clear hb
    by_cases hz2 : k2 = 0
    · have hn2 := hn642 hz2
      subst hz2
      by_cases ha0 : at_ < 0
      · have HX : Hid (E = 2) := by show _ = _; rw [HE.out]; simp [ha0]
        have HY := hide (HL0.out (by rw [HX.out]; decide))
        go_wp2_with fail
        go_ret2
        rw [HX.out, HY.out]
        exact ⟨_, rfl, OwnR.nil _ _, B2.out⟩
      by_cases ha1 : (n : Int) < at_
      · have HX : Hid (E = 2) := by show _ = _; rw [HE.out]; simp [ha1]
        have HY := hide (HL0.out (by rw [HX.out]; decide))
        go_wp2_with fail
        go_ret2
        rw [HX.out, HY.out]
        exact ⟨_, rfl, OwnR.nil _ _, B2.out⟩
      obtain ⟨t, rfl⟩ : ∃ t : Nat, at_ = t := ⟨at_.toNat, by omega⟩
      by_cases h64 : 64 < n + n2
      · have HX : Hid (E = 3) := by show _ = _; rw [HE.out, if_neg (by simp), if_neg (by simp), if_neg (by omega), if_pos h64]
        have HY := hide (HL0.out (by rw [HX.out]; decide))
        have hd : decide (64 < (n : Int) + (n2 : Int)) = true := decide_eq_true (by omega)
        go_wp2_with fail
        go_ret2
        rw [HX.out, HY.out]
        exact ⟨_, rfl, OwnR.nil _ _, B2.out⟩
      have HX : Hid (E = 0) := by show _ = _; rw [HE.out, if_neg (by simp), if_neg (by simp), if_neg (by omega), if_neg h64]
      have HY := hide (HL1.out HX.out)
      have hd : decide (64 < (n : Int) + (n2 : Int)) = false := decide_eq_false (by omega)
      have htn : t ≤ n := by omega
      clear HL0 HL1 HE hn64 hn642 ha0 ha1 h64
      obtain ⟨q1, s1⟩ := slTo S2.out htn
      obtain ⟨q3, s3⟩ := slFrom S2.out htn
      have HS1 := hide s1
      have HS3 := hide s3
      have HQ1 := hide q1
      clear q1 q3 s1 s3
      by_cases hct : c = t
      · subst hct
        rw [if_pos rfl, show n - c = 0 by omega, Nat.sub_self] at HS3
        have o1 : ∀ W, slOk Tryz.prog (.slice a n c) none (some (.int .i64 (c : Int))) W = true := fun W => (sl_of (HQ1.out W)).1
        have o2 : ∀ W, slV Tryz.prog (.slice a n c) none (some (.int .i64 (c : Int))) W = .slice a c c := fun W => (sl_of (HQ1.out W)).2.1
        have o3 : ∀ W, slW Tryz.prog (.slice a n c) none (some (.int .i64 (c : Int))) W = W := fun W => (sl_of (HQ1.out W)).2.2
        have k0 : Below w2.heap.size w2 (w2.alloc (.cells #[] 37)).drew := ((Below.refl _ _).alloc (Nat.le_refl _) _).drew
        have hn0 : OwnR (w2.alloc (.cells #[] 37)).drew w2.heap.size (.slice (some ⟨w2.heap.size, 0, none⟩) 0 0) [] := own_newR w2
        obtain ⟨v1, W1, r1, n1, k1⟩ := run_appR hn0 (HS1.out.below k0) (by simp; omega) (by simp)
        have K1 := k0.trans k1
        obtain ⟨v2, W2, r2, n2', k2⟩ := run_appR n1 (T2.out.below K1) (by simp [HS1.out.hlen]; omega) (by have := K1.size; omega)
        have K2 := K1.trans k2
        obtain ⟨v3, W3, r3, n3, k3⟩ := run_appR n2' (HS3.out.below K2) (by simp [HS1.out.hlen, T2.out.hlen]; omega) (by have := K2.size; omega)
        have K3 := hide (K2.trans k3)
        obtain ⟨p1, p2, p3⟩ := ap_of r1
        obtain ⟨p4, p5, p6⟩ := ap_of r2
        obtain ⟨p7, p8, p9⟩ := ap_of r3
        have HO : Hid (OwnR W3 w.heap.size v3 L) := by
          show OwnR _ _ _ _
          rw [HY.out, Int.toNat_natCast]
          have := n3.lower (B' := w.heap.size) B2.out.size
          simpa [List.append_assoc] using this
        have B3 := hide (B2.out.trans (K3.out.mono B2.out.size))
        clear k0 k1 k2 k3 K1 K2 r1 r2 r3 n1 n2' n3 hn0 HQ1
        go_wp2_with fail
        go_region
        all_goals go_wp2_with fail
        all_goals go_ret2
        all_goals (rw [HX.out]; exact ⟨_, rfl, HO.out, B3.out⟩)
      · rw [if_neg hct] at HS3
        cases a with
        | none =>
          have := S2.out.nil rfl
          omega
        | some x =>
          simp only [Option.map_some] at HS3
          have o1 : ∀ W, slOk Tryz.prog (.slice (some x) n c) none (some (.int .i64 (t : Int))) W = true := fun W => (sl_of (HQ1.out W)).1
          have o2 : ∀ W, slV Tryz.prog (.slice (some x) n c) none (some (.int .i64 (t : Int))) W = .slice (some x) t c := fun W => (sl_of (HQ1.out W)).2.1
          have o3 : ∀ W, slW Tryz.prog (.slice (some x) n c) none (some (.int .i64 (t : Int))) W = W := fun W => (sl_of (HQ1.out W)).2.2
          have k0 : Below w2.heap.size w2 (w2.alloc (.cells #[] 37)).drew := ((Below.refl _ _).alloc (Nat.le_refl _) _).drew
          have hn0 : OwnR (w2.alloc (.cells #[] 37)).drew w2.heap.size (.slice (some ⟨w2.heap.size, 0, none⟩) 0 0) [] := own_newR w2
          obtain ⟨v1, W1, r1, n1, k1⟩ := run_appR hn0 (HS1.out.below k0) (by simp; omega) (by simp)
          have K1 := k0.trans k1
          obtain ⟨v2, W2, r2, n2', k2⟩ := run_appR n1 (T2.out.below K1) (by simp [HS1.out.hlen]; omega) (by have := K1.size; omega)
          have K2 := K1.trans k2
          obtain ⟨v3, W3, r3, n3, k3⟩ := run_appR n2' (HS3.out.below K2) (by simp [HS1.out.hlen, T2.out.hlen]; omega) (by have := K2.size; omega)
          have K3 := hide (K2.trans k3)
          obtain ⟨p1, p2, p3⟩ := ap_of r1
          obtain ⟨p4, p5, p6⟩ := ap_of r2
          obtain ⟨p7, p8, p9⟩ := ap_of r3
          have HO : Hid (OwnR W3 w.heap.size v3 L) := by
            show OwnR _ _ _ _
            rw [HY.out, Int.toNat_natCast]
            have := n3.lower (B' := w.heap.size) B2.out.size
            simpa [List.append_assoc] using this
          have B3 := hide (B2.out.trans (K3.out.mono B2.out.size))
          clear k0 k1 k2 k3 K1 K2 r1 r2 r3 n1 n2' n3 hn0 HQ1
          go_wp2_with fail
          go_region
          all_goals go_wp2_with fail
          all_goals go_ret2
          all_goals (rw [HX.out]; exact ⟨_, rfl, HO.out, B3.out⟩)
    · have hk2 : E = k2 := by rw [HE.out, if_neg (by simp), if_pos hz2]
      have HX := hide hk2
      have HY := hide (HL0.out (by rw [hk2]; exact hz2))
      have hq : ((k2 : Int) == 0) = false := by simp; omega
      have hq2 : ((k2 : Int) != 0) = true := by simp; omega
      clear hz2 hk2
      go_wp2_with fail
      go_ret2
      rw [HX.out, HY.out]
      exact ⟨_, rfl, OwnR.nil _ _, B2.out⟩
  · have hk1 : E = k1 := by rw [HE.out, if_pos hz1]
    have HX := hide hk1
    have HY := hide (HL0.out (by rw [hk1]; exact hz1))
    have hq : ((k1 : Int) == 0) = false := by simp; omega
    have hq2 : ((k1 : Int) != 0) = true := by simp; omega
    clear hz1 hk1
    go_wp2_with fail
    go_ret2
    rw [HX.out, HY.out]
    exact ⟨_, rfl, OwnR.nil _ _, B1.out⟩


end Go.Proofs.YtiejandeoopiiaaGreatDoor
