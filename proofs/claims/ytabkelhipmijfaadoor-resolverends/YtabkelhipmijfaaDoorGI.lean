/-
  Step and Take of package resolver; conditions as each theorem has them.
-/
import Derived.Test.YtabkelhipmijfaaDoorJoinedGG
set_option linter.unusedSimpArgs false
set_option linter.unusedVariables false
namespace Go.Proofs.YtabkelhipmijfaaDoor
open Go.RowKit

theorem more_okA {l : List Ad} (h : okA l) {a : Ad} (ha : a.ok) : okA (more l a) := by
  unfold more
  split
  · exact h
  · intro x hx
    rcases List.mem_append.1 hx with h1 | h1
    · exact h x h1
    · simp at h1; subst h1; exact ha
theorem adAt_ok {b : List Nat} (hb : ∀ x ∈ b, x < 256) (p : Nat) : (adAt b p).ok := by
  have : ∀ k, b.getD k 0 < 256 := fun k => by
    rw [List.getD_eq_getElem?_getD]
    cases e : b[k]? with
    | none => simp
    | some x => exact hb x (List.mem_of_getElem? e)
  exact ⟨this _, this _, this _, this _⟩
theorem rstep_okA {b : List Nat} (hb : ∀ x ∈ b, x < 256) {x : Sr × Ls} (h : okA x.2.2.1) : okA (rstep b x).2.2.1 := by
  unfold rstep
  split
  · exact h
  · split
    · exact h
    · split
      · exact more_okA h (adAt_ok hb _)
      · exact h
theorem rloop_okA {b : List Nat} (hb : ∀ x ∈ b, x < 256) : ∀ (n : Nat) (x : Sr × Ls), okA x.2.2.1 → okA (rloop b n x).2.2.1
  | 0, x, h => h
  | n + 1, x, h => by
    unfold rloop
    split
    · exact rloop_okA hb n _ (rstep_okA hb h)
    · exact h
theorem ans_okA {b : List Nat} (hb : ∀ x ∈ b, x < 256) : okA (ans b).1.ad := by
  have h0 : okA [] := by intro x hx; simp at hx
  unfold ans
  split
  · show okA (aL b).2.2.1
    unfold aL
    split
    · exact rloop_okA hb _ _ h0
    · exact h0
  · exact h0
theorem mat_okA {b : List Nat} (hb : ∀ x ∈ b, x < 256) (id : Int) (n : List Nat) : okA (mat id n b).1.ad := by
  have h0 : okA An.none.ad := by intro x hx; simp [An.none] at hx
  unfold mat
  split
  · split
    · split
      · exact ans_okA hb
      · exact h0
    · exact h0
  · exact h0
theorem mat_bound {b : List Nat} (hb : ∀ x ∈ b, x < 256) (id : Int) (n : List Nat) : (mat id n b).1.ad.length ≤ 16 ∧ (mat id n b).1.tl ≤ 1048576 := by
  obtain ⟨h1, h2⟩ := ans_bound hb
  unfold mat
  split
  · rename_i ho
    obtain ⟨_, z1, z2, _⟩ := h2 ho
    split
    · split
      · exact ⟨z1, z2⟩
      · simp [An.none]
    · simp [An.none]
  · simp [An.none]

variable {w : World} {S : Nat → Prop} {r t g : Nat} {qv pv : Value} {V : List Value} {R : Rs}
set_option maxRecDepth 100000 in
set_option maxHeartbeats 1000000 in
theorem pStep_at (h : IsRs w S r t g qv pv V R) (hV : Vars w) (h0 : ¬ S 0) (now draw : Int) (hlen : R.ps.length ≤ 4000000000000) :
    Calls Tryd.prog 9 #[.pointer (some ⟨r, 0, none⟩), .int .i64 now, .int .i64 draw] w fun e w' => e = .returned (.tuple #[.bool (stepT R now), .int .i64 (nowE now)]) ∧ Res w' (grow S w w') r (stepR R now draw) ∧ KeptS S w w' := by
  obtain ⟨c0, c1, c2, c3⟩ := h.cells
  have HM := hide (isMade_at h)
  have HN := hide (isNow_at now w)
  have H := hide h
  by_cases hn : nowOk now
  · rw [decide_eq_true hn] at HN
    have hN64 : R.qs.length ≤ 64 := by have := h.ok.few; have := h.ok.most; omega
    have HI := hide (indexFunc_at 21 (.int .i64 now) (isT now) qv R.qs w h.qs hN64 (enters_of Tryd.func21 (by kernel_rfl) rfl) (fun W q _ => isTimeOf_at now q W))
    have hE : nowE now = 0 := by unfold nowE; rw [if_pos hn]
    rw [hE]
    by_cases hf : fnd (isT now) R.qs < R.qs.length
    · have hT : stepT R now = true := decide_eq_true ⟨hn, hf⟩
      have hR : stepR R now draw = if (qAt R.qs (fnd (isT now) R.qs)).sent < 3 then snd R (fnd (isT now) R.qs) now draw else stl R (fnd (isT now) R.qs) now [] 4 := by
        unfold stepR; rw [hT, if_neg (by simp)]
      rw [hT]
      obtain ⟨RX, hRX⟩ : ∃ RX, RX = stepR R now draw := ⟨_, rfl⟩
      rw [← hRX]
      rw [hR] at hRX
      unfold fndI at HI
      rw [if_pos hf] at HI
      obtain ⟨i, hi⟩ : ∃ i, i = fnd (isT now) R.qs := ⟨_, rfl⟩
      rw [← hi] at HI hf hRX
      have HRX := hide hRX
      have HF := hide hf
      have HNO := hide hn
      have HVV := hide hV
      have HL := hide hlen
      have H00 := hide h0
      have hN64' := hide hN64
      clear hi hT hR hE h hV hlen hn h0 hN64 hRX
      go_enter Tryd.func9, Tryd.ntmps9
      go_wp2_with fail
      refine HM.out.mono ?_
      rintro e w1 ⟨rfl, rfl⟩
      go_wp2_with fail
      refine HN.out.mono ?_
      rintro e w1 ⟨rfl, rfl⟩
      go_wp2_with fail
      refine HI.out.mono ?_
      rintro e w1 ⟨rfl, k1⟩
      have HT := hide (H.out.below k1)
      have HV1 := hide (HVV.out.below k1)
      have K1 := hide k1
      obtain ⟨e0, e1, e2, e3⟩ := HT.out.cells
      obtain ⟨b, c, hqv, eb, hc1, hc2, _, dd⟩ := own_q HT.out.qs HF.out
      have d2 := dd 2 (by omega)
      have hc9 : R.qs.length ≤ c ∧ c ≤ 9223372036854775807 := by unfold maxLen at hc2; omega
      have hif := HF.out
      have hN64 := hN64'.out
      rw [hqv] at e2
      obtain ⟨N, hN⟩ : ∃ N, N = R.qs.length := ⟨_, rfl⟩
      rw [← hN] at e2 hc9 hif hN64
      by_cases h3 : (qAt R.qs i).sent < 3
      · have HRE : Hid (RX = snd R i now draw) := by show _ = _; rw [HRX.out, if_pos h3]
        have HSD := hide (send_at HT.out HV1.out H00.out HF.out now draw HNO.out h3 HL.out)
        have hlt : decide ((qAt R.qs i).sent < 3) = true := decide_eq_true h3
        generalize qAt R.qs i = q at d2 hlt h3
        obtain ⟨id, nm, sent, again⟩ := q
        simp only [qC] at d2 hlt
        clear k1 dd eb hc1 hc2 hqv hN HF h3
        go_wp2_with fail
        refine HSD.out.mono ?_
        rintro e w2 ⟨rfl, t2, k2⟩
        have T2 := hide t2
        have K2 := hide k2
        clear t2 k2
        go_wp2_with fail
        go_ret2
        exact ⟨rfl, by rw [HRE.out]; exact grow_from K1.out.size T2.out, (KeptS.of_below K1.out).trans K2.out (fun _ => Or.inl)⟩
      · have HRE : Hid (RX = stl R i now [] 4) := by show _ = _; rw [HRX.out, if_neg h3]
        have HSD := hide (settle_at HT.out HF.out now none 0 0 [] 4 (Nm.SrcA.nilS w1))
        have hlt : decide ((qAt R.qs i).sent < 3) = false := decide_eq_false h3
        generalize qAt R.qs i = q at d2 hlt h3
        obtain ⟨id, nm, sent, again⟩ := q
        simp only [qC] at d2 hlt
        clear k1 dd eb hc1 hc2 hqv hN HF h3
        go_wp2_with fail
        refine HSD.out.mono ?_
        rintro e w2 ⟨rfl, t2, k2⟩
        have T2 := hide t2
        have K2 := hide k2
        clear t2 k2
        go_wp2_with fail
        go_ret2
        exact ⟨rfl, by rw [HRE.out]; exact grow_from K1.out.size T2.out, (KeptS.of_below K1.out).trans K2.out (fun _ => Or.inl)⟩
    · have hT : stepT R now = false := decide_eq_false (fun e => hf e.2)
      have hR : stepR R now draw = R := by unfold stepR; rw [hT, if_pos rfl]
      rw [hT, hR]
      unfold fndI at HI
      rw [if_neg hf] at HI
      clear hT hR hE h hV hlen hn h0 hN64 hf
      go_enter Tryd.func9, Tryd.ntmps9
      go_wp2_with fail
      refine HM.out.mono ?_
      rintro e w1 ⟨rfl, rfl⟩
      go_wp2_with fail
      refine HN.out.mono ?_
      rintro e w1 ⟨rfl, rfl⟩
      go_wp2_with fail
      refine HI.out.mono ?_
      rintro e w1 ⟨rfl, k1⟩
      have K1 := hide k1
      clear k1
      go_wp2_with fail
      go_ret2
      exact ⟨rfl, H.out.stay K1.out⟩
  · rw [decide_eq_false hn] at HN
    have hE : nowE now = 2 := by unfold nowE; rw [if_neg hn]
    have hT : stepT R now = false := decide_eq_false (fun e => hn e.1)
    have hR : stepR R now draw = R := by unfold stepR; rw [hT, if_pos rfl]
    rw [hE, hT, hR]
    clear hT hR hE h hV hlen hn h0
    go_enter Tryd.func9, Tryd.ntmps9
    go_wp2_with fail
    refine HM.out.mono ?_
    rintro e w1 ⟨rfl, rfl⟩
    go_wp2_with fail
    refine HN.out.mono ?_
    rintro e w1 ⟨rfl, rfl⟩
    go_wp2_with fail
    go_ret2
    exact ⟨rfl, H.out.stay (Below.refl _ _)⟩

end Go.Proofs.YtabkelhipmijfaaDoor
