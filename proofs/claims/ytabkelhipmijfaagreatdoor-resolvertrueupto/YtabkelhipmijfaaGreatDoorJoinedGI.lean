/-
  Step and Take of package resolver; Take of package resolver; conditions as each theorem has them.
-/
import Derived.Test.YtabkelhipmijfaaGreatDoorJoined12
set_option linter.unusedSimpArgs false
set_option linter.unusedVariables false
namespace Go.Proofs.YtabkelhipmijfaaGreatDoor
open Go.RowKit

theorem more_okA {l : List Ad} (h : okA l) {a : Ad} (ha : a.ok) : okA (more l a) := by
  unfold more
  split
  · exact h
  · intro x hx
    rcases List.mem_append.1 hx with h1 | h1
    · exact h x h1
    · simp at h1; subst h1; exact ha
theorem adAt_ok {b : List Nat} (hb : ∀ x ∈ b, x < 256) (p : Nat) : (adAt b p).ok := by
  have : ∀ k, b.getD k 0 < 256 := fun k => by
    rw [List.getD_eq_getElem?_getD]
    cases e : b[k]? with
    | none => simp
    | some x => exact hb x (List.mem_of_getElem? e)
  exact ⟨this _, this _, this _, this _⟩
theorem rstep_okA {b : List Nat} (hb : ∀ x ∈ b, x < 256) {x : Sr × Ls} (h : okA x.2.2.1) : okA (rstep b x).2.2.1 := by
  unfold rstep
  split
  · exact h
  · split
    · exact h
    · split
      · exact more_okA h (adAt_ok hb _)
      · exact h
theorem rloop_okA {b : List Nat} (hb : ∀ x ∈ b, x < 256) : ∀ (n : Nat) (x : Sr × Ls), okA x.2.2.1 → okA (rloop b n x).2.2.1
  | 0, x, h => h
  | n + 1, x, h => by
    unfold rloop
    split
    · exact rloop_okA hb n _ (rstep_okA hb h)
    · exact h
theorem ans_okA {b : List Nat} (hb : ∀ x ∈ b, x < 256) : okA (ans b).1.ad := by
  have h0 : okA [] := by intro x hx; simp at hx
  unfold ans
  split
  · show okA (aL b).2.2.1
    unfold aL
    split
    · exact rloop_okA hb _ _ h0
    · exact h0
  · exact h0
theorem mat_okA {b : List Nat} (hb : ∀ x ∈ b, x < 256) (id : Int) (n : List Nat) : okA (mat id n b).1.ad := by
  have h0 : okA An.none.ad := by intro x hx; simp [An.none] at hx
  unfold mat
  split
  · split
    · split
      · exact ans_okA hb
      · exact h0
    · exact h0
  · exact h0
theorem mat_bound {b : List Nat} (hb : ∀ x ∈ b, x < 256) (id : Int) (n : List Nat) : (mat id n b).1.ad.length ≤ 16 ∧ (mat id n b).1.tl ≤ 1048576 := by
  obtain ⟨h1, h2⟩ := ans_bound hb
  unfold mat
  split
  · rename_i ho
    obtain ⟨_, z1, z2, _⟩ := h2 ho
    split
    · split
      · exact ⟨z1, z2⟩
      · simp [An.none]
    · simp [An.none]
  · simp [An.none]

variable {w : World} {S : Nat → Prop} {r t g : Nat} {qv pv : Value} {V : List Value} {R : Rs}
set_option maxRecDepth 100000 in
set_option maxHeartbeats 1000000 in
theorem pStep_at (h : IsRs w S r t g qv pv V R) (hV : Vars w) (h0 : ¬ S 0) (now draw : Int) (hlen : R.ps.length ≤ 4000000000000) :
    Calls Tryz.prog 13 #[.pointer (some ⟨r, 0, none⟩), .int .i64 now, .int .i64 draw] w fun e w' => e = .returned (.tuple #[.bool (stepT R now), .int .i64 (nowE now)]) ∧ Res w' (grow S w w') r (stepR R now draw) ∧ KeptS S w w' := by
  obtain ⟨c0, c1, c2, c3⟩ := h.cells
  have HM := hide (isMade_at h)
  have HN := hide (isNow_at now w)
  have H := hide h
  by_cases hn : nowOk now
  · rw [decide_eq_true hn] at HN
    have hN64 : R.qs.length ≤ 64 := by have := h.ok.few; have := h.ok.most; omega
    have HI := hide (indexFunc_at 43 (.int .i64 now) (isT now) qv R.qs w h.qs hN64 (enters_of Tryz.func43 (by kernel_rfl) rfl) (fun W q _ => isTimeOf_at now q W))
    have hE : nowE now = 0 := by unfold nowE; rw [if_pos hn]
    rw [hE]
    by_cases hf : fnd (isT now) R.qs < R.qs.length
    · have hT : stepT R now = true := decide_eq_true ⟨hn, hf⟩
      have hR : stepR R now draw = if (qAt R.qs (fnd (isT now) R.qs)).sent < 3 then snd R (fnd (isT now) R.qs) now draw else stl R (fnd (isT now) R.qs) now [] 4 := by
        unfold stepR; rw [hT, if_neg (by simp)]
      rw [hT]
      obtain ⟨RX, hRX⟩ : ∃ RX, RX = stepR R now draw := ⟨_, rfl⟩
      rw [← hRX]
      rw [hR] at hRX
      unfold fndI at HI
      rw [if_pos hf] at HI
      obtain ⟨i, hi⟩ : ∃ i, i = fnd (isT now) R.qs := ⟨_, rfl⟩
      rw [← hi] at HI hf hRX
      have HRX := hide hRX
      have HF := hide hf
      have HNO := hide hn
      have HVV := hide hV
      have HL := hide hlen
      have H00 := hide h0
      have hN64' := hide hN64
      clear hi hT hR hE h hV hlen hn h0 hN64 hRX
      go_enter Tryz.func13, Tryz.ntmps13
      go_wp2_with fail
      refine HM.out.mono ?_
      rintro e w1 ⟨rfl, rfl⟩
      go_wp2_with fail
      refine HN.out.mono ?_
      rintro e w1 ⟨rfl, rfl⟩
      go_wp2_with fail
      refine HI.out.mono ?_
      rintro e w1 ⟨rfl, k1⟩
      have HT := hide (H.out.below k1)
      have HV1 := hide (HVV.out.below k1)
      have K1 := hide k1
      obtain ⟨e0, e1, e2, e3⟩ := HT.out.cells
      obtain ⟨b, c, hqv, eb, hc1, hc2, _, dd⟩ := own_q HT.out.qs HF.out
      have d2 := dd 2 (by omega)
      have hc9 : R.qs.length ≤ c ∧ c ≤ 9223372036854775807 := by unfold maxLen at hc2; omega
      have hif := HF.out
      have hN64 := hN64'.out
      rw [hqv] at e2
      obtain ⟨N, hN⟩ : ∃ N, N = R.qs.length := ⟨_, rfl⟩
      rw [← hN] at e2 hc9 hif hN64
      by_cases h3 : (qAt R.qs i).sent < 3
      · have HRE : Hid (RX = snd R i now draw) := by show _ = _; rw [HRX.out, if_pos h3]
        have HSD := hide (send_at HT.out HV1.out H00.out HF.out now draw HNO.out h3 HL.out)
        have hlt : decide ((qAt R.qs i).sent < 3) = true := decide_eq_true h3
        generalize qAt R.qs i = q at d2 hlt h3
        obtain ⟨id, nm, sent, again⟩ := q
        simp only [qC] at d2 hlt
        clear k1 dd eb hc1 hc2 hqv hN HF h3
        go_wp2_with fail
        refine HSD.out.mono ?_
        rintro e w2 ⟨rfl, t2, k2⟩
        have T2 := hide t2
        have K2 := hide k2
        clear t2 k2
        go_wp2_with fail
        go_ret2
        exact ⟨rfl, by rw [HRE.out]; exact grow_from K1.out.size T2.out, (KeptS.of_below K1.out).trans K2.out (fun _ => Or.inl)⟩
      · have HRE : Hid (RX = stl R i now [] 4) := by show _ = _; rw [HRX.out, if_neg h3]
        have HSD := hide (settle_at HT.out HF.out now none 0 0 [] 4 (Nm.SrcA.nilS w1))
        have hlt : decide ((qAt R.qs i).sent < 3) = false := decide_eq_false h3
        generalize qAt R.qs i = q at d2 hlt h3
        obtain ⟨id, nm, sent, again⟩ := q
        simp only [qC] at d2 hlt
        clear k1 dd eb hc1 hc2 hqv hN HF h3
        go_wp2_with fail
        refine HSD.out.mono ?_
        rintro e w2 ⟨rfl, t2, k2⟩
        have T2 := hide t2
        have K2 := hide k2
        clear t2 k2
        go_wp2_with fail
        go_ret2
        exact ⟨rfl, by rw [HRE.out]; exact grow_from K1.out.size T2.out, (KeptS.of_below K1.out).trans K2.out (fun _ => Or.inl)⟩
    · have hT : stepT R now = false := decide_eq_false (fun e => hf e.2)
      have hR : stepR R now draw = R := by unfold stepR; rw [hT, if_pos rfl]
      rw [hT, hR]
      unfold fndI at HI
      rw [if_neg hf] at HI
      clear hT hR hE h hV hlen hn h0 hN64 hf
      go_enter Tryz.func13, Tryz.ntmps13
      go_wp2_with fail
      refine HM.out.mono ?_
      rintro e w1 ⟨rfl, rfl⟩
      go_wp2_with fail
      refine HN.out.mono ?_
      rintro e w1 ⟨rfl, rfl⟩
      go_wp2_with fail
      refine HI.out.mono ?_
      rintro e w1 ⟨rfl, k1⟩
      have K1 := hide k1
      clear k1
      go_wp2_with fail
      go_ret2
      exact ⟨rfl, H.out.stay K1.out⟩
  · rw [decide_eq_false hn] at HN
    have hE : nowE now = 2 := by unfold nowE; rw [if_neg hn]
    have hT : stepT R now = false := decide_eq_false (fun e => hn e.1)
    have hR : stepR R now draw = R := by unfold stepR; rw [hT, if_pos rfl]
    rw [hE, hT, hR]
    clear hT hR hE h hV hlen hn h0
    go_enter Tryz.func13, Tryz.ntmps13
    go_wp2_with fail
    refine HM.out.mono ?_
    rintro e w1 ⟨rfl, rfl⟩
    go_wp2_with fail
    refine HN.out.mono ?_
    rintro e w1 ⟨rfl, rfl⟩
    go_wp2_with fail
    go_ret2
    exact ⟨rfl, H.out.stay (Below.refl _ _)⟩

end Go.Proofs.YtabkelhipmijfaaGreatDoor

set_option linter.unusedSimpArgs false
set_option linter.unusedVariables false
namespace Go.Proofs.YtabkelhipmijfaaGreatDoor
open Go.RowKit

variable {w : World} {S : Nat → Prop} {r t g : Nat} {qv pv : Value} {V : List Value} {R : Rs}
theorem max_tl (n : Nat) (h : n ≤ 1048576) : (max (n : Int) 1) = ((max n 1 : Nat) : Int) := by omega
set_option maxRecDepth 100000 in
set_option maxHeartbeats 2000000 in
theorem pTake_at (h : IsRs w S r t g qv pv V R) (hV : Vars w) (now : Int) (a : Option Addr) (n c : Nat) (bs : List Nat) (hs : Src w a n c bs) (hn : n ≤ 140737488351232) :
    Calls Tryz.prog 18 #[.pointer (some ⟨r, 0, none⟩), .int .i64 now, .slice a n c] w fun e w' => e = .returned (.tuple #[.bool (takT R now bs), .int .i64 (nowE now)]) ∧ Res w' (grow S w w') r (takR R now bs) ∧ KeptS S w w' := by
  obtain ⟨c0, c1, c2, c3⟩ := h.cells
  have HM := hide (isMade_at h)
  have HN := hide (isNow_at now w)
  have H := hide h
  by_cases ho : nowOk now
  · rw [decide_eq_true ho] at HN
    have hN64 : R.qs.length ≤ 64 := by have := h.ok.few; have := h.ok.most; omega
    have HI := hide (indexFunc_at 48 (.slice a n c) (noOth bs) qv R.qs w h.qs hN64 (enters_of Tryz.func48 (by kernel_rfl) rfl) (fun W q k => isForNoOther_at a n c bs q W (hs.below k) (hV.below k) hn))
    have hE : nowE now = 0 := by unfold nowE; rw [if_pos ho]
    rw [hE]
    unfold fndI at HI
    by_cases hf : fnd (noOth bs) R.qs < R.qs.length
    · rw [if_pos hf] at HI
      have hT : takT R now bs = isOk (takM R bs).2 := by unfold takT; rw [decide_eq_true ⟨ho, hf⟩, Bool.true_and]
      have hR : takR R now bs = if isOk (takM R bs).2 = false then R else if (takM R bs).1.ad.length = 0 then stl R (fnd (noOth bs) R.qs) now [] 8 else stl R (fnd (noOth bs) R.qs) now (takM R bs).1.ad (max ((takM R bs).1.tl : Nat) 1 : Int) := by
        unfold takR; rw [hT]
      obtain ⟨RX, hRX⟩ : ∃ RX, RX = takR R now bs := ⟨_, rfl⟩
      rw [← hRX, hT]
      rw [hR] at hRX
      unfold takM at hRX ⊢
      obtain ⟨i, hi⟩ : ∃ i, i = fnd (noOth bs) R.qs := ⟨_, rfl⟩
      rw [← hi] at HI hf hRX ⊢
      obtain ⟨q, hq⟩ : ∃ q, q = qAt R.qs i := ⟨_, rfl⟩
      rw [← hq] at hRX ⊢
      obtain ⟨A, hA⟩ : ∃ A, A = mat q.id (byt q.nm) bs := ⟨_, rfl⟩
      rw [← hA] at hRX ⊢
      have HRX := hide hRX
      obtain ⟨bo, hbo⟩ : ∃ bo, bo = isOk A.2 := ⟨_, rfl⟩
      rw [← hbo]
      have HBO := hide hbo
      have hAok : okA A.1.ad := by rw [hA]; exact mat_okA hs.byte _ _
      have hAb : A.1.ad.length ≤ 16 ∧ A.1.tl ≤ 1048576 := by rw [hA]; exact mat_bound hs.byte _ _
      have HMT := hide (fun W (k : Below w.heap.size w W) => match_at q.id q.nm a n c bs W (hs.below k) (hV.below k) hn)
      rw [← hA] at HMT
      have HF := hide hf
      have HAO := hide hAok
      have HAB := hide hAb
      have HQ := hide hq
      have hN64' := hide hN64
      clear hi hT hR hE h hV ho hN64 hs hA hAok hAb hRX hbo
      go_enter Tryz.func18, Tryz.ntmps18
      go_wp2_with fail
      refine HM.out.mono ?_
      rintro e w1 ⟨rfl, rfl⟩
      go_wp2_with fail
      refine HN.out.mono ?_
      rintro e w1 ⟨rfl, rfl⟩
      go_wp2_with fail
      refine HI.out.mono ?_
      rintro e w1 ⟨rfl, k1⟩
      have HT := hide (H.out.below k1)
      have K1 := hide k1
      obtain ⟨e0, e1, e2, e3⟩ := HT.out.cells
      obtain ⟨b, cq, hqv, eb, hc1, hc2, _, dd⟩ := own_q HT.out.qs HF.out
      rw [← HQ.out] at dd
      have d0 := dd 0 (by omega)
      have d1 := dd 1 (by omega)
      rw [Nat.add_zero] at d0
      have hc9 : R.qs.length ≤ cq ∧ cq ≤ 9223372036854775807 := by unfold maxLen at hc2; omega
      have hif := HF.out
      have hN64 := hN64'.out
      rw [hqv] at e2
      obtain ⟨N, hN⟩ : ∃ N, N = R.qs.length := ⟨_, rfl⟩
      rw [← hN] at e2 hc9 hif hN64
      obtain ⟨id, nm, sent, again⟩ := q
      simp only [qC] at d0 d1 HMT
      clear k1 dd eb hc1 hc2 hqv hN hf hq HQ
      go_wp2_with fail
      refine (HMT.out w1 K1.out).mono ?_
      rintro e w2 ⟨v, er, rfl, hoo, hii, k2⟩
      obtain ⟨va, vc, rfl, hsa, _⟩ := hoo.src HAO.out
      obtain ⟨NA, hNA⟩ : ∃ NA, NA = A.1.ad.length := ⟨_, rfl⟩
      obtain ⟨I, hI⟩ : ∃ I, I = A.1.id := ⟨_, rfl⟩
      obtain ⟨TL, hTL⟩ : ∃ TL, TL = A.1.tl := ⟨_, rfl⟩
      obtain ⟨CD, hCD⟩ : ∃ CD, CD = A.1.cd := ⟨_, rfl⟩
      obtain ⟨X, hX⟩ : ∃ X, X = strN A.1.nm := ⟨_, rfl⟩
      have hNA16 : NA ≤ 16 := by rw [hNA]; exact HAB.out.1
      have hTL2 : TL ≤ 1048576 := by rw [hTL]; exact HAB.out.2
      rw [← hNA] at hsa
      rw [← hI, ← hTL, ← hCD, ← hX, ← hNA]
      obtain ⟨W3, hW3⟩ : ∃ W3, W3 = w2.alloc (.cells #[.int .i64 (I : Nat), .string X, .int .i64 (CD : Nat), .slice va NA vc, .int .i64 (TL : Nat)] 65) := ⟨_, rfl⟩
      have kb : Below w2.heap.size w2 W3 := by rw [hW3]; exact (Below.refl _ _).alloc (Nat.le_refl _) _
      have z3 : W3.cell? ⟨w2.heap.size, 3, none⟩ = some (.slice va NA vc) := by rw [hW3, World.cell?_alloc_new w2 _ _ 3]; rfl
      have z4 : W3.cell? ⟨w2.heap.size, 4, none⟩ = some (.int .i64 (TL : Nat)) := by rw [hW3, World.cell?_alloc_new w2 _ _ 4]; rfl
      have k13 : Below w1.heap.size w1 W3 := k2.trans (kb.mono k2.size)
      have HT3 := hide (HT.out.below k13)
      have HSA := hide (srcA_nm (hsa.below kb))
      have HK3 : Hid (Below w.heap.size w W3) := K1.out.trans (k13.mono K1.out.size)
      have HW3 := hide hW3.symm
      obtain ⟨MX, hMX⟩ : ∃ MX : Int, MX = max (TL : Int) 1 := ⟨_, rfl⟩
      have hmx : max (TL : Int) 1 = MX := hMX.symm
      by_cases hok : A.2 = .ok
      · obtain rfl := hii.nil hok
        have hb1 : bo = true := by rw [HBO.out, hok]; rfl
        subst hb1
        by_cases hna : NA = 0
        · have HRE : Hid (RX = stl R i now [] 8) := by show _ = _; rw [HRX.out, if_neg (by rw [hok]; simp [isOk]), if_pos (by rw [← hNA]; exact hna)]
          have HSD := hide (settle_at HT3.out HF.out now none 0 0 [] 8 (Nm.SrcA.nilS W3))
          have hna' : ((NA : Int) == 0) = true := by simp [hna]
          clear hna hoo hii k2 hsa hNA hI hTL hCD hX hW3 kb k13 hok hMX
          go_wp2_with (first | rw [HW3.out])
          refine HSD.out.mono ?_
          rintro e w4 ⟨rfl, t2, k4⟩
          have T2 := hide t2
          have K2 := hide k4
          clear t2 k4
          go_wp2_with fail
          go_ret2
          exact ⟨rfl, by rw [HRE.out]; exact grow_from HK3.out.size T2.out, (KeptS.of_below HK3.out).trans K2.out (fun _ => Or.inl)⟩
        · have HRE : Hid (RX = stl R i now A.1.ad MX) := by show _ = _; rw [HRX.out, if_neg (by rw [hok]; simp [isOk]), if_neg (by rw [← hNA]; exact hna), ← hTL, hMX]
          have HSD := hide (settle_at HT3.out HF.out now va NA vc A.1.ad MX HSA.out)
          have hna' : ((NA : Int) == 0) = false := by simp [hna]
          clear hoo hii k2 hsa hNA hI hTL hCD hX hW3 kb k13 hok hMX
          go_wp2_with (first | rw [HW3.out])
          refine HSD.out.mono ?_
          rintro e w4 ⟨rfl, t2, k4⟩
          have T2 := hide t2
          have K2 := hide k4
          clear t2 k4
          go_wp2_with fail
          go_ret2
          exact ⟨rfl, by rw [HRE.out]; exact grow_from HK3.out.size T2.out, (KeptS.of_below HK3.out).trans K2.out (fun _ => Or.inl)⟩
      · obtain ⟨eb', rfl⟩ := hii.ptr hok
        have hb1 : bo = false := by rw [HBO.out]; cases hA2 : A.2 <;> simp_all [isOk]
        have HRE : Hid (RX = R) := by show _ = _; rw [HRX.out, ← HBO.out, hb1, if_pos rfl]
        subst hb1
        clear hoo hii k2 hsa hNA hI hTL hCD hX hW3 kb k13 hok hMX
        go_wp2_with (first | rw [HW3.out])
        go_ret2
        exact ⟨rfl, by rw [HRE.out]; exact H.out.stay HK3.out⟩
    · rw [if_neg hf] at HI
      have hT : takT R now bs = false := by unfold takT; rw [decide_eq_false (fun e => hf e.2)]; rfl
      have hR : takR R now bs = R := by unfold takR; rw [hT, if_pos rfl]
      rw [hT, hR]
      clear hT hR hE h hV ho hN64 hf hs
      go_enter Tryz.func18, Tryz.ntmps18
      go_wp2_with fail
      refine HM.out.mono ?_
      rintro e w1 ⟨rfl, rfl⟩
      go_wp2_with fail
      refine HN.out.mono ?_
      rintro e w1 ⟨rfl, rfl⟩
      go_wp2_with fail
      refine HI.out.mono ?_
      rintro e w1 ⟨rfl, k1⟩
      have K1 := hide k1
      clear k1
      go_wp2_with fail
      go_ret2
      exact ⟨rfl, H.out.stay K1.out⟩
  · rw [decide_eq_false ho] at HN
    have hE : nowE now = 2 := by unfold nowE; rw [if_neg ho]
    have hT : takT R now bs = false := by unfold takT; rw [decide_eq_false (fun e => ho e.1)]; rfl
    have hR : takR R now bs = R := by unfold takR; rw [hT, if_pos rfl]
    rw [hE, hT, hR]
    clear hT hR hE h hV ho hs
    go_enter Tryz.func18, Tryz.ntmps18
    go_wp2_with fail
    refine HM.out.mono ?_
    rintro e w1 ⟨rfl, rfl⟩
    go_wp2_with fail
    refine HN.out.mono ?_
    rintro e w1 ⟨rfl, rfl⟩
    go_wp2_with fail
    go_ret2
    exact ⟨rfl, H.out.stay (Below.refl _ _)⟩

end Go.Proofs.YtabkelhipmijfaaGreatDoor
