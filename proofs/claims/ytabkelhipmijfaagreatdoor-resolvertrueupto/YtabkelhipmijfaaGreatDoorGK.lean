/-
  Ask of package resolver; conditions as each theorem has them.
-/
import Derived.Test.YtabkelhipmijfaaGreatDoorJoinedGI
import Derived.Deep.DrawnRows
set_option linter.unusedSimpArgs false
set_option linter.unusedVariables false
namespace Go.Proofs.YtabkelhipmijfaaGreatDoor
open Go.RowKit

variable {w : World} {S : Nat → Prop} {r t g : Nat} {qv pv : Value} {V : List Value} {R : Rs} {nm : ByteArray}
theorem run_gQ2 (ρ : Operand → Value) (dst : Option Tmp) (x y : Operand) (pos : String) (after : Array Edge) (guard : Option (Nat × Bool)) (w : World) (h : gOk Tryz.prog 72 (ρ x) (ρ y) w = true) :
    (execOp ρ { dst, op := .call { callee := .builtin .append, args := #[x, y], argTypes := #[72, 72] }, type := 72, pos, after, guard }).run Tryz.prog w = .ok (.value (gV Tryz.prog 72 (ρ x) (ρ y) w)) (gW Tryz.prog 72 (ρ x) (ρ y) w) := g_step 72 ρ dst x y pos after guard w h
/-- A question behind the others. -/
theorem addq_step (h : IsRs w S r t g qv pv V R) (nm : ByteArray) (hs : nm.size ≤ 253) (hl : R.qs.length ≠ R.most) (W : World) (k : Below w.heap.size w W) :
    W.cell? ⟨r, 2, none⟩ = some qv ∧ (W.alloc (.cells #[.int .i64 0, .string nm, .int .i64 0, .int .i64 0] 87)).cell? ⟨r, 2, none⟩ = some qv ∧
    ∃ av cv w3 W6, gOk Tryz.prog 72 qv (.slice (some ⟨W.heap.size, 0, none⟩) 1 1) (W.alloc (.cells #[.int .i64 0, .string nm, .int .i64 0, .int .i64 0] 87)) = true ∧ gV Tryz.prog 72 qv (.slice (some ⟨W.heap.size, 0, none⟩) 1 1) (W.alloc (.cells #[.int .i64 0, .string nm, .int .i64 0, .int .i64 0] 87)) = .slice av (R.qs.length + 1) cv ∧ gW Tryz.prog 72 qv (.slice (some ⟨W.heap.size, 0, none⟩) 1 1) (W.alloc (.cells #[.int .i64 0, .string nm, .int .i64 0, .int .i64 0] 87)) = w3 ∧
      w3.cell? ⟨r, 2, none⟩ = some qv ∧ w3.frozen? ⟨r, 2, none⟩ = false ∧ w3.setCell ⟨r, 2, none⟩ (.slice av (R.qs.length + 1) cv) = W6 ∧ IsRs W6 (grow S w W6) r t g (.slice av (R.qs.length + 1) cv) pv V (addQ R nm) ∧ KeptS S w W6 := by
  obtain ⟨c0, c1, c2, c3⟩ := h.cells
  have hrl := Nm.lt_of_some h.head
  have b2 : Below w.heap.size w (W.alloc (.cells #[.int .i64 0, .string nm, .int .i64 0, .int .i64 0] 87)) := k.alloc k.size _
  have hown : (W.alloc (.cells #[.int .i64 0, .string nm, .int .i64 0, .int .i64 0] 87)).ownsRow 0 87 4 qv R.qs.length (qCs R.qs) := own_keep h.qs (fun x hx => b2.block x (h.lt x (h.sq x hx)))
  have hN64 : R.qs.length ≤ 64 := by have := h.ok.few; have := h.ok.most; omega
  obtain ⟨qv', w3, hr, ho3, hg3, hn3⟩ := app_gen 72 87 _ 4 40 undQ infQ rfl (by omega) hown ⟨W.heap.size, 0, none⟩ 1 1 (qC ⟨0, nm, 0, 0⟩) rfl (fun j x hx => by
    rw [Nm.add_none, Nat.zero_add, show (W.alloc (.cells #[.int .i64 0, .string nm, .int .i64 0, .int .i64 0] 87)).cell? ⟨W.heap.size, j, none⟩ = _ from World.cell?_alloc_new W _ _ j]
    simpa [qC] using hx) (qC_one _) (by unfold maxLen; omega) (by omega) (by omega)
  obtain ⟨av, cv, rfl⟩ := own_shape ho3
  obtain ⟨q1, q2, q3⟩ := g_of hr
  have k3 : KeptS S w w3 := ⟨hg3.os.trans b2.os, hg3.tape.trans b2.tape, hg3.output.trans b2.output, Nat.le_trans b2.size hg3.size, fun x hx hn => (hg3.block x (Nat.lt_of_lt_of_le hx b2.size) (fun e => hn (h.sq x e.symm))).trans (b2.block x hx)⟩
  have nb : ∀ (x : Nat) (cs : Array Value) (ty : TypeId) (f : Nat × Nat), w.heap[x]? = some (Obj.cells cs ty f) → ty ≠ 87 → w3.heap[x]? = w.heap[x]? := fun x cs ty f hx hne => by
    rw [hg3.block x (Nat.lt_of_lt_of_le (Nm.lt_of_some hx) b2.size) (fun e => by
      obtain ⟨cur, hc⟩ := own_block h.qs e.symm
      rw [hx] at hc
      simp at hc
      exact hne hc.2.1), b2.block x (Nm.lt_of_some hx)]
  have hr3 := nb _ _ _ _ h.head (by decide)
  have ho : OwnQ w3 (.slice av (R.qs.length + 1) cv) (R.qs ++ [⟨0, nm, 0, 0⟩]) := by
    unfold OwnQ
    rw [List.length_append, qCs_append, show qCs [⟨0, nm, 0, 0⟩] = qC ⟨0, nm, 0, 0⟩ by simp [qCs]]
    exact ho3
  obtain ⟨t1, t2⟩ := h.turnQV (w3 := w3) (.slice av (R.qs.length + 1) cv) (R.qs ++ [⟨0, nm, 0, 0⟩]) k3 nb ho (fun x hx => by
    rcases hn3 x hx with h1 | h1
    · exact Or.inl (h.sq x h1)
    · have := b2.size; right; omega) (by have := addQ_ok h.ok hs hl; exact this)
  exact ⟨(k.cell (p := ⟨r, 2, none⟩) hrl).trans c2, (b2.cell (p := ⟨r, 2, none⟩) hrl).trans c2, av, cv, w3, _, q1, q2, q3, by rw [World.cell?_of_block hr3]; exact c2, by rw [World.frozen?_of_block hr3]; exact h.frozen 2, rfl, t1, t2⟩
theorem send_from {w3 W6 : World} (h : IsRs W6 (grow S w3 W6) r t g qv pv V (addQ R nm)) (k : KeptS S w3 W6) (hV : Vars w3) (h0 : ¬ S 0) (N : Nat) (hN : N = R.qs.length) (now draw : Int) (hn : nowOk now) (hlen : R.ps.length ≤ 4000000000000) :
    W6.cell? ⟨r, 2, none⟩ = some qv ∧ (addQ R nm).qs.length = N + 1 ∧ Calls Tryz.prog 37 #[.pointer (some ⟨r, 0, none⟩), .int .i64 N, .int .i64 now, .int .i64 draw] W6 fun e w' => e = .returned (.tuple #[]) ∧ Res w' (grow S w3 w') r (snd (addQ R nm) N now draw) ∧ KeptS S w3 w' := by
  subst hN
  refine ⟨h.cells.2.2.1, by simp [addQ], (send_at h (Vars.keptS hV k h0) (grow_zero hV h0) (i := R.qs.length) (by simp [addQ]) now draw hn (by show (qAt (R.qs ++ _) R.qs.length).sent < 3; rw [qAt_new]; show (0 : Int) < 3; omega) hlen).mono ?_⟩
  rintro e w' ⟨rfl, t7, k7⟩
  exact ⟨rfl, grow2 k.size k7.size t7, KeptS.grow2 k k7⟩
theorem nowOk_nm {now : Int} (h : nowOk now) : ¬ Nm.badNow now := by unfold nowOk at h; unfold Nm.badNow; omega
/-- What Ask answers. -/
abbrev AskR (w : World) (S : Nat → Prop) (r : Nat) (R : Rs) (now draw : Int) (nm : ByteArray) (e : Ending) (w' : World) : Prop :=
  ∃ v, e = .returned (.tuple #[.int .i64 (askK R now nm), v, .int .i64 (askE now nm)]) ∧ Nm.OwnA w' w.heap.size v (askA R now nm) ∧ Res w' (grow S w w') r (askR R now draw nm) ∧ KeptS S w w' ∧ (askK R now nm = 1 → Below w.heap.size w w')
attribute [local go_sem ↓] run_gQ2 Go.wp_at_zero Go.wp_at_succ
set_option maxRecDepth 100000 in
set_option maxHeartbeats 2000000 in
theorem pAsk_at (h : IsRs w S r t g qv pv V R) (hV : Vars w) (h0 : ¬ S 0) (now draw : Int) (nm : ByteArray) (hnm : nm.size ≤ maxLen) (hlen : R.ps.length ≤ 4000000000000) :
    Calls Tryz.prog 10 #[.pointer (some ⟨r, 0, none⟩), .int .i64 now, .int .i64 draw, .string nm] w (AskR w S r R now draw nm) := by
  obtain ⟨c0, c1, c2, c3⟩ := h.cells
  have HM := hide (isMade_at h)
  have HN := hide (isNow_at now w)
  have HNA := hide (isName_at nm w hnm hV)
  have H := hide h
  unfold AskR
  by_cases hb : askBad now nm
  · have e1 : askK R now nm = 0 := by unfold askK; rw [if_pos hb]
    have e2 : askE now nm = 2 := by unfold askE; rw [if_pos hb]
    have e3 : askA R now nm = [] := by unfold askA; rw [if_pos hb]
    have e4 : askR R now draw nm = R := by unfold askR; rw [if_pos hb]
    rw [e1, e2, e3, e4]
    by_cases hn : nowOk now
    · rw [decide_eq_true hn] at HN
      have hq : nameOk nm = false := by
        cases hq : nameOk nm
        · rfl
        · exact absurd ⟨hn, hq⟩ hb
      rw [hq] at HNA
      clear e1 e2 e3 e4 hb hn hq h hV
      go_enter Tryz.func10, Tryz.ntmps10
      go_wp2_with fail
      refine HM.out.mono ?_
      rintro e w1 ⟨rfl, rfl⟩
      go_wp2_with fail
      refine HN.out.mono ?_
      rintro e w1 ⟨rfl, rfl⟩
      go_wp2_with fail
      refine HNA.out.mono ?_
      rintro e w1 ⟨rfl, k1⟩
      have K1 := hide k1
      clear k1
      go_wp2_with fail
      go_ret3
      exact ⟨_, rfl, Nm.OwnA.nil _ _, (H.out.stay K1.out).1, (H.out.stay K1.out).2, fun e => by cases e⟩
    · rw [decide_eq_false hn] at HN
      clear e1 e2 e3 e4 hb hn h hV
      go_enter Tryz.func10, Tryz.ntmps10
      go_wp2_with fail
      refine HM.out.mono ?_
      rintro e w1 ⟨rfl, rfl⟩
      go_wp2_with fail
      refine HN.out.mono ?_
      rintro e w1 ⟨rfl, rfl⟩
      go_wp2_with fail
      go_ret3
      exact ⟨_, rfl, Nm.OwnA.nil _ _, (H.out.stay (Below.refl _ _)).1, (H.out.stay (Below.refl _ _)).2, fun e => by cases e⟩
  · have hb2 : nowOk now ∧ nameOk nm = true := Classical.not_not.1 hb
    obtain ⟨hn, hq⟩ := hb2
    rw [decide_eq_true hn] at HN
    rw [hq] at HNA
    have hsz := nameOk_size hq
    have e2 : askE now nm = 0 := by unfold askE; rw [if_neg hb]
    have e3 : askA R now nm = Nm.getA R.tab now nm := by unfold askA; rw [if_neg hb]
    rw [e2, e3]
    have HG := hide (fun W (k : Below w.heap.size w W) => Nm.get_at t g R.tab now nm W ((h.below k).tab))
    have hgb : ¬ Nm.badNow now := nowOk_nm hn
    cases hg : Nm.got R.tab now nm with
    | some s =>
      have e1 : askK R now nm = 1 := by unfold askK; rw [if_neg hb, hg]
      have e4 : askR R now draw nm = R := by unfold askR; rw [if_neg hb, hg]
      have e5 : Nm.getC R.tab now nm = 0 := by unfold Nm.getC; rw [if_neg hgb, hg]
      rw [e5] at HG
      rw [e1, e4]
      obtain ⟨LA, hLA⟩ : ∃ LA, LA = Nm.getA R.tab now nm := ⟨_, rfl⟩
      obtain ⟨TA, hTA⟩ : ∃ TA, TA = Nm.getT R.tab now nm := ⟨_, rfl⟩
      rw [← hLA, ← hTA] at HG
      rw [← hLA]
      have HLB : Hid (w.heap.size ≤ w.heap.size) := Nat.le_refl _
      clear e1 e2 e3 e4 e5 hb hn hq hg hgb h hV hLA hTA
      go_enter Tryz.func10, Tryz.ntmps10
      go_wp2_with fail
      refine HM.out.mono ?_
      rintro e w1 ⟨rfl, rfl⟩
      go_wp2_with fail
      refine HN.out.mono ?_
      rintro e w1 ⟨rfl, rfl⟩
      go_wp2_with fail
      refine HNA.out.mono ?_
      rintro e w1 ⟨rfl, k1⟩
      have K1 := hide k1
      obtain ⟨d0, d1, d2, d3⟩ := (H.out.below k1).cells
      clear k1
      go_wp2_with fail
      refine (HG.out w1 K1.out).mono ?_
      rintro e w2 ⟨v, rfl, ho, k2⟩
      obtain ⟨va, vc, rfl⟩ := ho.shape
      have HO := hide ho
      have K2 := hide (K1.out.trans (k2.mono K1.out.size))
      clear ho k2
      obtain ⟨NL, hNL⟩ : ∃ NL, NL = LA.length := ⟨_, rfl⟩
      rw [← hNL] at HO
      rw [← hNL]
      clear hNL
      go_wp2_with fail
      go_ret3
      exact ⟨_, rfl, ⟨HO.out.1, by
        rcases HO.out.2 with h0 | ⟨x, cap, cur, hv, hx, hrest⟩
        · exact Or.inl h0
        · exact Or.inr ⟨x, cap, cur, hv, Nat.le_trans K1.out.size hx, hrest⟩⟩, (H.out.stay K2.out).1, (H.out.stay K2.out).2, fun _ => K2.out⟩
    | none =>
      have e5 : Nm.getC R.tab now nm = 5 := by unfold Nm.getC; rw [if_neg hgb, hg]
      have e6 : Nm.getA R.tab now nm = [] := by unfold Nm.getA; rw [hg]
      rw [e5] at HG
      rw [e6] at HG ⊢
      obtain ⟨TA, hTA⟩ : ∃ TA, TA = Nm.getT R.tab now nm := ⟨_, rfl⟩
      rw [← hTA] at HG
      have hN64 : R.qs.length ≤ 64 := by have := h.ok.few; have := h.ok.most; omega
      have HCF := hide (fun W (k : Below w.heap.size w W) => containsFunc_at 35 (.string nm) (hasN nm) qv R.qs W (own_keep h.qs (fun x hx => k.block x (h.lt x (h.sq x hx)))) hN64 (enters_of Tryz.func35 (by kernel_rfl) rfl) (fun W2 q _ => isNameOf_at nm q W2))
      obtain ⟨RX, hRX⟩ : ∃ RX, RX = askR R now draw nm := ⟨_, rfl⟩
      obtain ⟨KX, hKX⟩ : ∃ KX, KX = askK R now nm := ⟨_, rfl⟩
      rw [← hRX, ← hKX]
      have e4 : askR R now draw nm = if fnd (hasN nm) R.qs < R.qs.length then R else if R.qs.length = R.most then R else snd (addQ R nm) R.qs.length now draw := by unfold askR; rw [if_neg hb, hg]
      have e1 : askK R now nm = if fnd (hasN nm) R.qs < R.qs.length then 2 else if R.qs.length = R.most then 3 else 2 := by unfold askK; rw [if_neg hb, hg]
      rw [e4] at hRX
      rw [e1] at hKX
      have hpre : Hid (nm.size ≤ 253) := hsz
      by_cases hf : fnd (hasN nm) R.qs < R.qs.length
      · rw [if_pos hf] at hRX hKX
        rw [decide_eq_true hf] at HCF
        subst hRX
        subst hKX
        clear e1 e2 e3 e4 e5 e6 hb hn hq hg hgb h hV hTA hsz hf hN64
        go_enter Tryz.func10, Tryz.ntmps10
        go_wp2_with fail
        refine HM.out.mono ?_
        rintro e w1 ⟨rfl, rfl⟩
        go_wp2_with fail
        refine HN.out.mono ?_
        rintro e w1 ⟨rfl, rfl⟩
        go_wp2_with fail
        refine HNA.out.mono ?_
        rintro e w1 ⟨rfl, k1⟩
        have K1 := hide k1
        obtain ⟨d0, d1, d2, d3⟩ := (H.out.below k1).cells
        clear k1
        go_wp2_with fail
        refine (HG.out w1 K1.out).mono ?_
        rintro e w2 ⟨v, rfl, ho, k2⟩
        obtain ⟨va, vc, rfl⟩ := ho.shape
        have K2 := hide (K1.out.trans (k2.mono K1.out.size))
        obtain ⟨f0, f1, f2, f3⟩ := (H.out.below K2.out).cells
        clear ho k2
        go_wp2_with fail
        refine (HCF.out w2 K2.out).mono ?_
        rintro e w3 ⟨rfl, k3⟩
        have K3 := hide (K2.out.trans (k3.mono K2.out.size))
        clear k3
        go_wp2_with fail
        go_ret3
        exact ⟨_, rfl, Nm.OwnA.nil _ _, (H.out.stay K3.out).1, (H.out.stay K3.out).2, fun e => by cases e⟩
      · rw [if_neg hf] at hRX hKX
        rw [decide_eq_false hf] at HCF
        have HMOST := hide h.ok.most
        obtain ⟨N, hNe⟩ : ∃ N, N = R.qs.length := ⟨_, rfl⟩
        obtain ⟨aq, cq, hqv⟩ := own_shape h.qs
        rw [← hNe] at hqv
        obtain ⟨MM, hMM⟩ : ∃ MM, MM = R.most := ⟨_, rfl⟩
        by_cases hl : R.qs.length = R.most
        · rw [if_pos hl] at hRX hKX
          subst hRX
          subst hKX
          subst hqv
          have hcmp : ((N : Int) == (MM : Int)) = true := by simp; omega
          have HMM := hide hMM
          clear e1 e2 e3 e4 e5 e6 hb hn hq hg hgb h hV hTA hsz hf hN64 hl hNe hMM
          go_enter Tryz.func10, Tryz.ntmps10
          go_wp2_with fail
          refine HM.out.mono ?_
          rintro e w1 ⟨rfl, rfl⟩
          go_wp2_with fail
          refine HN.out.mono ?_
          rintro e w1 ⟨rfl, rfl⟩
          go_wp2_with fail
          refine HNA.out.mono ?_
          rintro e w1 ⟨rfl, k1⟩
          have K1 := hide k1
          obtain ⟨d0, d1, d2, d3⟩ := (H.out.below k1).cells
          clear k1
          go_wp2_with fail
          refine (HG.out w1 K1.out).mono ?_
          rintro e w2 ⟨v, rfl, ho, k2⟩
          obtain ⟨va, vc, rfl⟩ := ho.shape
          have K2 := hide (K1.out.trans (k2.mono K1.out.size))
          obtain ⟨f0, f1, f2, f3⟩ := (H.out.below K2.out).cells
          clear ho k2
          go_wp2_with fail
          refine (HCF.out w2 K2.out).mono ?_
          rintro e w3 ⟨rfl, k3⟩
          have K3 := hide (K2.out.trans (k3.mono K2.out.size))
          obtain ⟨g0, g1, g2, g3⟩ := (H.out.below K3.out).cells
          rw [← HMM.out] at g0
          clear k3
          go_wp2_with fail
          go_region
          all_goals
            go_wp2_with fail
            go_ret3
            exact ⟨_, rfl, Nm.OwnA.nil _ _, (H.out.stay K3.out.drew).1, (H.out.stay K3.out.drew).2, fun e => by cases e⟩
        · rw [if_neg hl] at hRX hKX
          subst hKX
          subst hqv
          have hcmp : ((N : Int) == (MM : Int)) = false := by simp; omega
          have HMM := hide hMM
          have HRX := hide hRX
          have HADD := hide (fun w3 (k3 : Below w.heap.size w w3) W (k : Below w3.heap.size w3 W) => addq_step (h.below k3) nm hsz hl W k)
          have HVV := hide hV
          have H00 := hide h0
          have HLN := hide hlen
          have HNO := hide hn
          have HNE := hide hNe
          rw [← hNe] at HADD
          have hN64' : N ≤ 64 := by omega
          clear e1 e2 e3 e4 e5 e6 hb hn hq hg hgb h hV hTA hf hN64 hl hMM hRX h0 hlen hNe
          go_enter Tryz.func10, Tryz.ntmps10
          go_wp2_with fail
          refine HM.out.mono ?_
          rintro e w1 ⟨rfl, rfl⟩
          go_wp2_with fail
          refine HN.out.mono ?_
          rintro e w1 ⟨rfl, rfl⟩
          go_wp2_with fail
          refine HNA.out.mono ?_
          rintro e w1 ⟨rfl, k1⟩
          have K1 := hide k1
          obtain ⟨d0, d1, d2, d3⟩ := (H.out.below k1).cells
          clear k1
          go_wp2_with fail
          refine (HG.out w1 K1.out).mono ?_
          rintro e w2 ⟨v, rfl, ho, k2⟩
          obtain ⟨va, vc, rfl⟩ := ho.shape
          have K2 := hide (K1.out.trans (k2.mono K1.out.size))
          obtain ⟨f0, f1, f2, f3⟩ := (H.out.below K2.out).cells
          clear ho k2
          go_wp2_with fail
          refine (HCF.out w2 K2.out).mono ?_
          rintro e w3 ⟨rfl, k3⟩
          have K3 := hide (K2.out.trans (k3.mono K2.out.size))
          obtain ⟨g0, g1, g2, g3⟩ := (H.out.below K3.out).cells
          rw [← HMM.out] at g0
          clear k3
          go_wp2_with fail
          go_region
          all_goals
            go_wp2_with fail
            go_region_with (go_at_call 36; refine (Nm.clone_at nm _ hsz).mono ?_; rintro x w4 ⟨rfl, k4⟩; obtain ⟨j1, j2, av, cv, w5, W6, q1, q2, q3, q4, q5, q8, q6, q7⟩ := HADD.out w3 K3.out w4 ((Below.refl _ _).drew.drew.trans k4); have HQ6 := hide q6; have HQ7 := hide q7; clear k4 q6 q7)
            all_goals
              obtain ⟨l2, hcl, hsd⟩ := send_from HQ6.out HQ7.out (HVV.out.below K3.out) H00.out N HNE.out now draw HNO.out HLN.out
              have HSD := hide hsd
              clear hsd hcl
              go_wp2_with fail
              refine HSD.out.mono ?_
              rintro e w7 ⟨rfl, t7, k7⟩
              have HT7 := hide t7
              have HK7 := hide k7
              clear t7 k7
              go_wp2_with fail
              go_ret3
              exact ⟨_, rfl, Nm.OwnA.nil _ _, by rw [HRX.out, ← HNE.out]; exact grow_from K3.out.size HT7.out, (KeptS.of_below K3.out).trans HK7.out (fun _ => Or.inl), fun e => by cases e⟩

end Go.Proofs.YtabkelhipmijfaaGreatDoor
