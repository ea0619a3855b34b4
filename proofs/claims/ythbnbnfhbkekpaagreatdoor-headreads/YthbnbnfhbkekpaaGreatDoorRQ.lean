/-
  The reference's readers: Request; conditions as each theorem has them.
-/
import Derived.Test.YthbnbnfhbkekpaaGreatDoorRZ
import Derived.Test.YthbnbnfhbkekpaaGreatDoorRG
import Derived.Test.YthbnbnfhbkekpaaGreatDoorRF
set_option linter.unusedSimpArgs false
set_option linter.unusedVariables false
namespace Go.Proofs.YthbnbnfhbkekpaaGreatDoor
open Go.RowKit
attribute [local go_sem ↓] run_op32 run_opst32 run_opst44 run_opst53 Go.wp_at_zero Go.wp_at_succ
attribute [local go_sem] rowOf_drew isRow_drew arrAt_ptr isAt_ptr putAt_ptr canPut_drew setRow_drew
set_option maxRecDepth 100000 in
set_option maxHeartbeats 64000000 in
theorem rrequest_at (a : Option Addr) (n c : Nat) (l : List Nat) (w : World) (h : Src w a n c l) : Calls Tryz.prog 14 #[.slice a n c] w fun e w' => ∃ ad cap, e = .returned (.tuple #[.agg (rqC (request l).1.1 (.slice ad (request l).1.2.length cap)), .int .i64 ((request l).2.1 : Nat), .agg (badG (request l).2.2)]) ∧ SrcF w' ad (request l).1.2.length cap (request l).1.2 ∧ Below w.heap.size w w' ∧ (∀ b o, ad = some ⟨b, o, none⟩ → w.heap.size ≤ b) := by
  have b0 : Below w.heap.size w ((w.alloc (.cells z9 44)).alloc (.cells (badC .ok) 32)) := ((Below.refl _ _).alloc (Nat.le_refl _) _).alloc (by simp) _
  have s0 := h.below b0
  obtain ⟨W0, hW0⟩ : ∃ W0, W0 = (w.alloc (.cells z9 44)).alloc (.cells (badC .ok) 32) := ⟨_, rfl⟩
  rw [← hW0] at b0 s0
  have R00 : Hid (W0.heap[w.heap.size]? = some (.cells z9 44)) := by rw [hW0]; exact alloc_old _ (alloc_new _ _)
  have R01 : Hid (W0.heap[w.heap.size + 1]? = some (.cells (badC .ok) 32)) := by rw [hW0]; exact alloc_new2 _ _ _
  have HW0 : Hid ((w.alloc (.cells #[.string ⟨#[]⟩, .int .u8 0, .int .u8 0, .int .u8 0, .int .u8 0, .string ⟨#[]⟩, .int .i64 0, .string ⟨#[]⟩, .slice none 0 0] 44)).alloc (.cells #[.int .i64 0, .string ⟨#[]⟩, .string ⟨#[]⟩, .string ⟨#[]⟩, .string ⟨#[]⟩, .int .i64 0, .int .i64 0, .int .i64 0, .int .i64 0, .int .i64 0] 32) = W0) := hW0.symm
  have HEN := hide (rend_at a n c l W0 s0)
  have B0 := hide b0
  have S0 := hide s0
  have hcl := h.hcap
  have hmx := h.hmax
  unfold maxLen at hmx
  have HNL := hide h.hlen
  clear b0 s0 hW0 h
  rcases enE_two l with ⟨hok, ls, hls, htot⟩ | ⟨hno, hz, ac, cc, her⟩
  · have hen : enE l = (tot ls, .ok) := by rw [← htot, ← hok]
    rw [hen] at HEN
    obtain ⟨k, hk⟩ : ∃ k, k = tot ls := ⟨_, rfl⟩
    rw [← hk] at HEN
    obtain ⟨hpre, hLn, ht8, htl⟩ := hd_some hls
    rw [← hk] at ht8 htl
    have hk2 : 2 ≤ k := by rw [hk]; exact tot_ge ls
    have hkn : k ≤ n := by rw [← HNL.out]; exact htl
    have htk : l.take k = fl ls := by rw [hk]; exact hd_take hls
    have HLB : Hid (∀ x ∈ l, x < 256) := S0.out.byte
    have hfk : (fl ls).length = k := hk.symm
    have HTBB : Hid (∀ c ∈ fl ls, c < 256) := fun c hc => HLB.out c (by rw [← htk] at hc; exact List.mem_of_mem_take hc)
    have HRQ : Hid (request l = match req ls with
        | (q, .ok) => (q, k, .ok)
        | (_, e) => ((noR, []), 0, e)) := by show _ = _; unfold request; rw [hls, hk]; rfl
    obtain ⟨T, hT⟩ : ∃ T, T = strN (l.take k) := ⟨_, rfl⟩
    have hTb : byt T = fl ls := by rw [hT, htk]; exact byt_strN _ HTBB.out
    have hTs : T.size = k := by rw [← byt_length, hTb]; exact hfk
    have HLI : Hid (∀ W, Calls Tryz.prog 44 #[.string T] W fun e w' => ∃ a1 c1 a2 c2, e = .returned (.tuple #[.slice a1 ls.length c1, .slice a2 ls.length c2]) ∧ SrcV w' a1 ls.length c1 (strs ls) ∧ SrcV w' a2 ls.length c2 (ints (begs 0 ls)) ∧ (∀ b o, a1 = some ⟨b, o, none⟩ → W.heap.size ≤ b) ∧ (∀ b o, a2 = some ⟨b, o, none⟩ → W.heap.size ≤ b) ∧ Below W.heap.size W w') := fun W => rlines2_at T ls W (by rw [hTs]; exact ht8) hTb (fun x hx => (hLn x hx).2)
    have HTT : Hid (strN (l.take k) = T) := hT.symm
    have HFK := hide hfk
    clear hok htot hen hpre hk htk hls hLn hfk hTb hTs hT
    go_enter Tryz.func14, Tryz.ntmps14
    go_wp2_with fail
    rw [HW0.out]
    refine HEN.out.mono ?_
    rintro e w1 ⟨rfl, hb1⟩
    obtain ⟨E, hE⟩ : ∃ E, E = w1.heap.size := ⟨_, rfl⟩
    obtain ⟨W2, hW2⟩ : ∃ W, W = (w1.alloc (.cells (badC .ok) 32)).setRow E (badG .ok) := ⟨_, rfl⟩
    have z2 : (w1.alloc (.cells (badC .ok) 32)).heap[E]? = some (.cells (badC .ok) 32) := by rw [hE]; exact alloc_new _ _
    have b2 : Below w1.heap.size w1 W2 := by rw [hW2]; exact below_setRow ((Below.refl _ _).alloc (Nat.le_refl _) _) (by omega) _
    have p2 : W2.heap[E]? = some (.cells (badG .ok) 32) := by rw [hW2]; exact setRow_heap _ _ _ _ _ z2
    have R20 := hide (keepB b2 (keepB hb1 R00.out))
    have R21 := hide (keepB b2 (keepB hb1 R01.out))
    have B2 : Hid (Below w.heap.size w W2) := (B0.out.trans (hb1.mono B0.out.size)).trans (b2.mono (B0.out.trans (hb1.mono B0.out.size)).size)
    have HE : Hid (w.heap.size + 1 < E) := by rw [hE]; exact lt_of_some (keepB hb1 R01.out)
    have s2 := (S0.out.below hb1).below b2
    obtain ⟨bb, oo, rfl, hbb, hcel⟩ := s2.lies (by omega)
    have hstr := run_str W2 bb oo k c (l.take k) (by rw [List.length_take, HNL.out]; omega) (fun i hi => by rw [hcel i (by omega)]; simp [List.getD, List.getElem?_take, hi])
    rw [HTT.out] at hstr
    have hN2 : W2.cell? ⟨E, 0, none⟩ = some (.int .i64 0) := by simp only [World.cell?, p2]; rfl
    have Z2 := hide z2
    have P2 := hide p2
    have HW2 := hide hW2
    have HEE := hide hE.symm
    clear b2 p2 z2 hb1 hbb hcel s2 hW2 hE HEN S0 B0 R00 R01
    go_wp2_with (first
      | (rw [HEE.out])
      | (refine wpList_store_rowW rfl 32 _ _ rfl E (badG .ok) rfl rfl 32 (badC .ok) Z2.out (badGI .ok) (by simp [badC_size, badG_size]) (badG_one _) W2 HW2.out ?_))
    refine (HLI.out _).mono ?_
    rintro e w3 ⟨a1, c1, a2, c2, rfl, sv1, sv2, fr1, fr2, hb3⟩
    have HF1 : Hid (∀ b o, a1 = some ⟨b, o, none⟩ → E < b) := fun b o e => by have h1 := fr1 b o e; have h2 := lt_of_some P2.out; omega
    have HF2 : Hid (∀ b o, a2 = some ⟨b, o, none⟩ → E < b) := fun b o e => by have h1 := fr2 b o e; have h2 := lt_of_some P2.out; omega
    have R30 := hide (keepB hb3 R20.out)
    have R31 := hide (keepB hb3 R21.out)
    have P3 := hide (keepB hb3 P2.out)
    have B3 := hide (B2.out.trans (hb3.mono B2.out.size))
    clear hb3 R20 R21 P2 B2 hN2 hstr HLI fr1 fr2
    cases ls with
    | nil =>
      have HR : Hid (request l = ((noR, []), 0, .one 0 80)) := by show _ = _; rw [HRQ.out]; rfl
      simp only [List.length_nil]
      go_wp2_with fail
      refine (rfaultH_at 0 80 _).mono ?_
      rintro e wf ⟨rfl, hbf⟩
      obtain ⟨f1, f2, f3, f4⟩ := fin2 (keepB hbf R30.out) (keepB hbf R31.out) z9 (badG (.one 0 80))
      have f5 := f4 w (Nat.le_refl _) (B3.out.trans (hbf.mono B3.out.size))
      obtain ⟨Wa, hWa⟩ : ∃ W1, W1 = wf.setRow w.heap.size z9 := ⟨_, rfl⟩
      rw [← hWa] at f1 f2 f3 f4 f5
      obtain ⟨Wb, hWb⟩ : ∃ W2, W2 = Wa.setRow (w.heap.size + 1) (badG (.one 0 80)) := ⟨_, rfl⟩
      rw [← hWb] at f2 f3 f5
      have F0 := hide (keepB hbf R30.out)
      have F1 := hide f1
      have F2 := hide f2
      have F3 := hide f3
      have F5 := hide f5
      have HWa := hide hWa
      have HWb := hide hWb
      clear f1 f2 f3 f4 f5 hWa hWb hbf
      go_wp2_with (first
        | (refine wpList_store_rowW rfl 44 _ _ rfl w.heap.size z9 rfl rfl 44 z9 F0.out info44 rfl z9_one Wa HWa.out ?_)
        | (refine wpList_store_rowW rfl 32 _ _ rfl (w.heap.size + 1) (badG (.one 0 80)) rfl rfl 32 (badC .ok) F1.out (badGI (.one 0 80)) (by simp [badC_size, badG_size]) (badG_one _) Wb HWb.out ?_))
      refine bodyPost_ret (res_ctc rfl _ _ w.heap.size 44 z9 (0, 0) _ rfl F2.out Tryz.underlying44 rfl info44 (w.heap.size + 1) 32 (badG (.one 0 80)) (0, 0) _ rfl F3.out Tryz.underlying32 rfl (badGI (.one 0 80))) rfl ?_
      rw [HR.out]
      exact ⟨none, 0, rfl, SrcF.nilS _, F5.out, fun _ _ e => by cases e⟩
    | cons x r =>
      obtain ⟨X, hX⟩ : ∃ X, X = strN x := ⟨_, rfl⟩
      have hxb : ∀ y ∈ x, y < 256 := fun y hy => HTBB.out y (by rw [fl_cons]; simp [hy])
      have hx8 : x.length + 2 ≤ k := by rw [← HFK.out, fl_cons]; simp
      have hrb : ∀ y ∈ r, (∀ z ∈ y, z < 256) ∧ y.length ≤ 8192 := fun y hy => by
        refine ⟨fun z hz => HTBB.out z (by rw [fl_cons]; simp [fl_mem hy hz]), ?_⟩
        have h1 := tot_drop (ls := x :: r) (x := y) (by simp [hy])
        rw [HFK.out] at h1; omega
      have hr8 : 2 * (r.length + 1) ≤ 8192 := by
        have h1 := fla_two (x :: r)
        have h2 := HFK.out
        unfold fl at h2
        simp at h1 h2; omega
      have hXb : byt X = x := by rw [hX]; exact byt_strN x hxb
      have hXs : X.size = x.length := by rw [hX, strN_size]
      obtain ⟨n1, hn1⟩ : ∃ n1, n1 = (x :: r).length := ⟨_, rfl⟩
      have hn1' : n1 = r.length + 1 := by rw [hn1]; rfl
      rw [← hn1] at sv1 sv2 ⊢
      have qn1 : ((n1 : Int) == 0) = false := by simp; omega
      have qn0 : (0 : Int) < (n1 : Int) := by omega
      have qn0' : 0 < n1 := by omega
      obtain ⟨g1, y1, rfl, lg1, d1⟩ := sv1.at_ (Below.refl _ _) (i := 0) (u := .string X) (by rw [hX]; rfl)
      rw [Nat.add_zero] at d1
      have SV1 := hide sv1
      have SV2 := hide sv2
      have HCUT : Hid (∀ W, Calls Tryz.prog 45 #[.string X, .int .i64 99] W fun e w' => ∃ o, e = .returned o ∧ Own w' W.heap.size 9 o (strs (bln 99 x)) ∧ Below W.heap.size W w') := fun W => by
        have := rcut_at X 98 W (by rw [hXs]; omega) (by omega)
        rw [hXb] at this; exact this
      have HAL : Hid (∀ W, Calls Tryz.prog 46 #[.string X] W fun e w' => e = .returned (.bool (lone x)) ∧ W = w') := fun W => by
        have := raloneH_at X W (by rw [hXs]; omega)
        rwa [hXb] at this
      have HXB := hide hxb
      have HRB := hide hrb
      have HN1 := hide hn1'
      clear hX hxb hrb hXb hXs hn1 hn1' sv1 sv2 lg1
      go_wp2_with fail
      refine (HCUT.out _).mono ?_
      rintro e w4 ⟨o4, rfl, ow4, hb4⟩
      obtain ⟨a3, c3, rfl, sv3, _⟩ := own_srcVV ow4
      have HOF : Hid (∀ b o, a3 = some ⟨b, o, none⟩ → w3.heap.size ≤ b) := fun b o e => own_fresh ow4 (by rw [e])
      have HP3 : Hid (E < w3.heap.size) := lt_of_some P3.out
      rw [strs_length] at sv3 ⊢
      have d1' := (hb4.cell (lt_of_cell d1)).trans d1
      have R40 := hide (keepB hb4 R30.out)
      have R41 := hide (keepB hb4 R31.out)
      have P4 := hide (keepB hb4 P3.out)
      have B4 := hide (B3.out.trans (hb4.mono B3.out.size))
      have V1 := hide (SV1.out.below hb4)
      have V2 := hide (SV2.out.below hb4)
      have hh3 := sv3.hmax
      have hh4 := sv3.hcap
      unfold maxLen at hh3
      clear d1 R30 R31 P3 B3 SV1 SV2 HCUT ow4 hb4
      by_cases h3 : (bln 99 x).length = 3
      · obtain ⟨pm, pt, pv, hb3⟩ := len3 h3
        have hbl := bln99 h3
        rw [hb3] at hbl sv3 hh4 ⊢
        obtain ⟨g3, y3, rfl, lg3, d30⟩ := sv3.at_ (Below.refl _ _) (i := 0) (u := .string (strN pm)) rfl
        obtain ⟨g3', y3', he3, _, d31⟩ := sv3.at_ (Below.refl _ _) (i := 1) (u := .string (strN pt)) rfl
        simp only [Option.some.injEq, Addr.mk.injEq, and_true] at he3
        obtain ⟨rfl, rfl⟩ := he3
        obtain ⟨g3', y3', he3, _, d32⟩ := sv3.at_ (Below.refl _ _) (i := 2) (u := .string (strN pv)) rfl
        simp only [Option.some.injEq, Addr.mk.injEq, and_true] at he3
        obtain ⟨rfl, rfl⟩ := he3
        rw [Nat.add_zero] at d30
        have FG3 : Hid (E < g3) := by have h1 := HOF.out g3 y3 rfl; have h2 := HP3.out; show E < g3; omega
        have hmem : ∀ p ∈ [pm, pt, pv], (∀ y ∈ p, y < 256) ∧ p.length ≤ x.length := fun p hp => by
          have := bl_mem x p (by rw [hbl]; exact hp)
          exact ⟨fun y hy => HXB.out y (this.1 y hy), this.2⟩
        obtain ⟨PM, hPM⟩ : ∃ S, S = strN pm := ⟨_, rfl⟩
        obtain ⟨PT, hPT⟩ : ∃ S, S = strN pt := ⟨_, rfl⟩
        obtain ⟨PV, hPV⟩ : ∃ S, S = strN pv := ⟨_, rfl⟩
        rw [← hPM] at d30
        rw [← hPT] at d31
        rw [← hPV] at d32
        have hPMb : byt PM = pm := by rw [hPM]; exact byt_strN _ (hmem pm (by simp)).1
        have hPTb : byt PT = pt := by rw [hPT]; exact byt_strN _ (hmem pt (by simp)).1
        have hPVb : byt PV = pv := by rw [hPV]; exact byt_strN _ (hmem pv (by simp)).1
        obtain ⟨LM, hLM⟩ : ∃ L, L = PM.size := ⟨_, rfl⟩
        have hLMI : (PM.size : Int) = (LM : Int) := by rw [hLM]
        have hLM8 : LM ≤ 8192 := by have := (hmem pm (by simp)).2; rw [hLM, hPM, strN_size]; omega
        have hLMl : LM = pm.length := by rw [hLM, hPM, strN_size]
        obtain ⟨AT, hAT⟩ : ∃ A, A = LM + 1 := ⟨_, rfl⟩
        have hATw : IntKind.i64.wrap ((LM : Int) + 1) = (AT : Int) := by rw [hAT]; have := wrap_nat (LM + 1) (by omega); simpa using this
        have hATx : IntKind.i64.wrap (AT : Int) = (AT : Int) := wrap_nat AT (by omega)
        have hATI : (LM : Int) + 1 = (AT : Int) := by rw [hAT]; simp
        have hPT8 : PT.size ≤ 8192 := by have := (hmem pt (by simp)).2; rw [hPT, strN_size]; omega
        have HVE : Hid (∀ W, Calls Tryz.prog 47 #[.string PV] W fun e w' => e = .returned (.bool (ver pv)) ∧ W = w') := fun W => by
          have := rversion_at PV W
          rwa [hPVb] at this
        have HTK : Hid (∀ W, Calls Tryz.prog 30 #[.string PM] W fun e w' => e = .returned (.bool (tok pm)) ∧ Below W.heap.size W w') := fun W => by
          have := rtoken_at PM W (by rw [← hLM]; omega)
          rwa [hPMb] at this
        have HTG : Hid (∀ W, Calls Tryz.prog 48 #[.string PM, .string PT, .int .i64 (AT : Nat)] W fun e w' => e = .returned (.tuple #[.agg (deC (targ pm pt).1.2.1), .string (strN (targ pm pt).1.2.2), .agg (badG (targ pm pt).2)]) ∧ Below W.heap.size W w') := fun W => by
          have := rtarget_at PM PT AT W (by rw [← hLM]; omega) hPT8 (by rw [hPMb, ← hLMl, hAT])
          rw [hPMb, hPTb] at this
          exact this
        have HPM := hide hPM
        have HRLN : Hid (rline x = if ver pv = false ∨ lone x = true then (noR, .one 0 80) else if tok pm = false then (noR, .one 0 81) else targ pm pt) := rline_three hbl
        have HREQ : Hid ((rline x).2 ≠ .ok → request l = ((noR, []), 0, (rline x).2)) := fun hne => by
          rw [HRQ.out]
          have : req (x :: r) = ((noR, []), (rline x).2) := by
            cases hr : rline x with
            | mk q er =>
              rw [hr] at hne
              cases er with
              | ok => exact absurd rfl hne
              | one a c => simp only [req, hr]
              | wr a e => simp only [req, hr]
          rw [this]
          cases hr : (rline x).2 with
          | ok => exact absurd hr hne
          | one a c => rfl
          | wr a e => rfl
        clear h3 hb3 hbl hmem hPM hPT hPV hPMb hPTb hPVb hLM hLMl lg3 sv3 hAT
        simp only [List.length_cons, List.length_nil] at hh4 ⊢
        by_cases hln : lone x = true
        · have HR : Hid (request l = ((noR, []), 0, .one 0 80)) := by
            have e : rline x = (noR, .one 0 80) := by rw [HRLN.out, if_pos (Or.inr hln)]
            have := HREQ.out (by rw [e]; simp)
            rwa [e] at this
          rw [hln] at HAL
          clear hln
          go_wp2_with fail
          refine (HAL.out _).mono ?_
          rintro e wq ⟨rfl, rfl⟩
          go_wp2_with fail
          refine (rfaultH_at 0 80 _).mono ?_
          rintro e wf ⟨rfl, hbf⟩
          obtain ⟨f1, f2, f3, f4⟩ := fin2 (keepB hbf R40.out) (keepB hbf R41.out) z9 (badG (.one 0 80))
          have f5 := f4 w (Nat.le_refl _) (B4.out.trans (hbf.mono B4.out.size))
          obtain ⟨Wa, hWa⟩ : ∃ W1, W1 = wf.setRow w.heap.size z9 := ⟨_, rfl⟩
          rw [← hWa] at f1 f2 f3 f4 f5
          obtain ⟨Wb, hWb⟩ : ∃ W2, W2 = Wa.setRow (w.heap.size + 1) (badG (.one 0 80)) := ⟨_, rfl⟩
          rw [← hWb] at f2 f3 f5
          have F0 := hide (keepB hbf R40.out)
          have F1 := hide f1
          have F2 := hide f2
          have F3 := hide f3
          have F5 := hide f5
          have HWa := hide hWa
          have HWb := hide hWb
          clear f1 f2 f3 f4 f5 hWa hWb hbf
          go_wp2_with (first
            | (refine wpList_store_rowW rfl 44 _ _ rfl w.heap.size z9 rfl rfl 44 z9 F0.out info44 rfl z9_one Wa HWa.out ?_)
            | (refine wpList_store_rowW rfl 32 _ _ rfl (w.heap.size + 1) (badG (.one 0 80)) rfl rfl 32 (badC .ok) F1.out (badGI (.one 0 80)) (by simp [badC_size, badG_size]) (badG_one _) Wb HWb.out ?_))
          refine bodyPost_ret (res_ctc rfl _ _ w.heap.size 44 z9 (0, 0) _ rfl F2.out Tryz.underlying44 rfl info44 (w.heap.size + 1) 32 (badG (.one 0 80)) (0, 0) _ rfl F3.out Tryz.underlying32 rfl (badGI (.one 0 80))) rfl ?_
          rw [HR.out]
          exact ⟨none, 0, rfl, SrcF.nilS _, F5.out, fun _ _ e => by cases e⟩
        · have hlf : lone x = false := by simpa using hln
          by_cases hve : ver pv = true
          · by_cases htk : tok pm = true
            · have HRT : Hid (rline x = targ pm pt) := by show _ = _; rw [HRLN.out, if_neg (by rw [hve, hlf]; simp), if_neg (by rw [htk]; simp)]
              rw [hlf] at HAL
              rw [hve] at HVE
              rw [htk] at HTK
              obtain ⟨tq, te, htg⟩ : ∃ q e, targ pm pt = (q, e) := ⟨_, _, rfl⟩
              have htl : tq.2.1.1.1.length = 4 := by have := targ_len pm pt; rw [htg] at this; exact this
              have htp : te ≠ .ok → 0 < hrN te ∧ tq = noR := fun h => by have := targ_pos pm pt (by rw [htg]; exact h); rw [htg] at this; exact this
              have htm : te = .ok → tq.1 = pm := fun h => by have := targ_m pm pt (by rw [htg]; exact h); rw [htg] at this; exact this
              rw [htg] at HTG HRT
              obtain ⟨tm, ⟨⟨tA, tS⟩, pn⟩, tp⟩ := tq
              obtain ⟨x0, x1, x2, x3, rfl⟩ := four htl
              obtain ⟨HS, hHS⟩ : ∃ S, S = strN tS := ⟨_, rfl⟩
              obtain ⟨TP, hTP⟩ : ∃ S, S = strN tp := ⟨_, rfl⟩
              simp only [deC, nums, List.map_cons, List.map_nil, List.cons_append, List.nil_append, ← hHS, ← hTP] at HTG
              have HHS := hide hHS
              have HTP := hide hTP
              have HTPO := hide htp
              have HTM := hide htm
              clear hln hlf hve htk htg htl htp htm hHS hTP HRLN
              go_wp2_with fail
              refine (HAL.out _).mono ?_
              rintro e wq ⟨rfl, rfl⟩
              go_wp2_with fail
              refine (HVE.out _).mono ?_
              rintro e wq ⟨rfl, rfl⟩
              go_wp2_with fail
              refine (HTK.out _).mono ?_
              rintro e w5 ⟨rfl, hb5⟩
              have R50 := hide (keepB hb5 R40.out)
              have R51 := hide (keepB hb5 R41.out)
              have P5 := hide (keepB hb5 P4.out)
              have B5 := hide (B4.out.trans (hb5.mono B4.out.size))
              have U1 := hide (V1.out.below hb5)
              have U2 := hide (V2.out.below hb5)
              have e30 := (hb5.cell (lt_of_cell d30)).trans d30
              have e31 := (hb5.cell (lt_of_cell d31)).trans d31
              clear hb5 d1' d30 d31 d32 R40 R41 P4 B4 V1 V2 HAL HVE HTK
              go_wp2_with fail
              have HG3 : Hid (g3 < w5.heap.size ∧ E < g3) := ⟨lt_of_cell (a := ⟨g3, y3, none⟩) e30, FG3.out⟩
              have HKP : Hid (∀ W : World, W.heap[g3]? = w5.heap[g3]? → W.cell? ⟨g3, y3, none⟩ = some (.string PM) ∧ W.cell? ⟨g3, y3 + 1, none⟩ = some (.string PT)) := fun W hW => ⟨(World.cell?_of_block (a := ⟨g3, y3, none⟩) hW).trans e30, (World.cell?_of_block (a := ⟨g3, y3 + 1, none⟩) hW).trans e31⟩
              by_cases hte : te = .ok
              · subst hte
                have HTM2 := hide (HTM.out rfl)
                obtain ⟨fs, fe, hfs⟩ : ∃ f e, flds (x.length + 2) r [] = (f, e) := ⟨_, _, rfl⟩
                obtain ⟨L, hL⟩ : ∃ L, L = fs.length := ⟨_, rfl⟩
                have HLF := hide hL
                clear hL
                obtain ⟨z1, r1, r1', t1⟩ := run_tailV2 91 und91 size91 (some ⟨g1, y1, none⟩) n1 c1 U1.out.hcap (by omega)
                obtain ⟨z2, r2, r2', t2⟩ := run_tailV2 92 und92 size92 a2 n1 c2 U2.out.hcap (by omega)
                have HFD : Hid (∀ W, SrcV W (some ⟨g1, y1, none⟩) n1 c1 (strs (x :: r)) → SrcV W a2 n1 c2 (ints (begs 0 (x :: r))) → Calls Tryz.prog 49 #[.slice z1 (n1 - 1) (c1 - 1), .slice z2 (n1 - 1) (c2 - 1)] W fun e w' => ∃ v, e = .returned (.tuple #[v, .agg (badG fe)]) ∧ OwnF w' W.heap.size v fs ∧ Below W.heap.size W w') := fun W h1 h2 => by
                  have hq := rfields_at (x.length + 2) (n1 - 1) r z1 z2 (c1 - 1) (c2 - 1) W (t1 W _ h1) (by have := t2 W _ h2; rw [begs] at this; simpa [ints] using this) (fun y hy => (HRB.out y hy).1) (fun y hy => (HRB.out y hy).2)
                  rwa [hfs] at hq
                have hokb : okB fs := by
                  have := flds_byte r (x.length + 2) [] (fun y hy => (HRB.out y hy).1) (by intro f hf; simp at hf)
                  rw [hfs] at this; exact this
                have HOKB := hide hokb
                have HFP : Hid (fe ≠ .ok → 0 < hrN fe) := fun h => by have := flds_pos r (x.length + 2) [] (by rw [hfs]; exact h); rw [hfs] at this; exact this
                have HREQ2 : Hid (request l = match (fs, fe) with
                    | (f, .ok) => (((pm, (([x0, x1, x2, x3], tS), pn), tp), f), k, .ok)
                    | (_, e) => ((noR, []), 0, e)) := by
                  show _ = _
                  have hr : req (x :: r) = match (fs, fe) with
                    | (f, .ok) => (((tm, (([x0, x1, x2, x3], tS), pn), tp), f), .ok)
                    | (_, e) => ((noR, []), e) := by
                    simp only [req, HRT.out, hfs]
                    rfl
                  rw [HRQ.out, hr]
                  have : tm = pm := HTM2.out
                  subst this
                  cases fe <;> rfl
                clear t1 t2 hfs hokb
                have HC1 : Hid (∀ w6, Below w5.heap.size w5.drew w6 → ∃ W8, (storeCells ⟨E, 0, none⟩ (badG .ok).toList).run Tryz.prog (w6.alloc (.cells #[.int .u8 (x0 : Nat), .int .u8 (x1 : Nat), .int .u8 (x2 : Nat), .int .u8 (x3 : Nat), .string HS, .int .i64 (pn : Nat)] 41)) = .ok () W8 ∧ (w6.cell? ⟨g3, y3, none⟩ = some (.string PM) ∧ w6.cell? ⟨g3, y3 + 1, none⟩ = some (.string PT)) ∧ ((w6.alloc (.cells #[.int .u8 (x0 : Nat), .int .u8 (x1 : Nat), .int .u8 (x2 : Nat), .int .u8 (x3 : Nat), .string HS, .int .i64 (pn : Nat)] 41)).cell? ⟨g3, y3, none⟩ = some (.string PM) ∧ (w6.alloc (.cells #[.int .u8 (x0 : Nat), .int .u8 (x1 : Nat), .int .u8 (x2 : Nat), .int .u8 (x3 : Nat), .string HS, .int .i64 (pn : Nat)] 41)).cell? ⟨g3, y3 + 1, none⟩ = some (.string PT)) ∧ (W8.cell? ⟨g3, y3, none⟩ = some (.string PM) ∧ W8.cell? ⟨g3, y3 + 1, none⟩ = some (.string PT)) ∧ W8.cell? ⟨E, 0, none⟩ = some (.int .i64 0) ∧ Aft w w5 W8 E w6.heap.size #[.int .u8 (x0 : Nat), .int .u8 (x1 : Nat), .int .u8 (x2 : Nat), .int .u8 (x3 : Nat), .string HS, .int .i64 (pn : Nat)] .ok) := fun w6 hb => by
                  have hb' : Below w5.heap.size w5 w6 := ⟨hb.os, hb.tape, hb.output, hb.size, hb.block⟩
                  have hA : Below w5.heap.size w5 (w6.alloc (.cells #[.int .u8 (x0 : Nat), .int .u8 (x1 : Nat), .int .u8 (x2 : Nat), .int .u8 (x3 : Nat), .string HS, .int .i64 (pn : Nat)] 41)) := hb'.alloc hb'.size _
                  have hl := HG3.out
                  have hEl := lt_of_some P5.out
                  have hs := hb'.size
                  have zA : (w6.alloc (.cells #[.int .u8 (x0 : Nat), .int .u8 (x1 : Nat), .int .u8 (x2 : Nat), .int .u8 (x3 : Nat), .string HS, .int .i64 (pn : Nat)] 41)).heap[w6.heap.size]? = some (.cells #[.int .u8 (x0 : Nat), .int .u8 (x1 : Nat), .int .u8 (x2 : Nat), .int .u8 (x3 : Nat), .string HS, .int .i64 (pn : Nat)] 41) := alloc_new _ _
                  have z7 : (w6.alloc (.cells #[.int .u8 (x0 : Nat), .int .u8 (x1 : Nat), .int .u8 (x2 : Nat), .int .u8 (x3 : Nat), .string HS, .int .i64 (pn : Nat)] 41)).heap[E]? = some (.cells (badG .ok) 32) := keepB hA P5.out
                  have af := aft_mk (te := .ok) hA zA hs P5.out R50.out R51.out B5.out HE.out rfl
                  have hst := run_storeCells_row (P := Tryz.prog) E 32 (badG .ok) (badG .ok) _ z7 ((badG_size _).trans (badG_size _).symm) (badG_one _)
                  refine ⟨_, hst, HKP.out _ (hb'.block g3 hl.1), HKP.out _ (hA.block g3 hl.1), HKP.out _ ?_, ?_, af⟩
                  · rw [setRow_ne _ _ _ _ (by omega)]; exact hA.block g3 hl.1
                  · have h8 := af.e
                    simp only [World.cell?, h8]; exact badG_N _
                have HC2 : Hid (∀ w6, Below (w5.alloc (.cells #[.int .u8 0, .int .u8 0, .int .u8 0, .int .u8 0, .string ⟨#[]⟩, .int .i64 0] 41)).drew.heap.size (w5.alloc (.cells #[.int .u8 0, .int .u8 0, .int .u8 0, .int .u8 0, .string ⟨#[]⟩, .int .i64 0] 41)).drew w6 → ∃ W7 W8, ((((((w6.setCell ⟨w5.heap.size, 0, none⟩ (.int .u8 (x0 : Nat))).setCell ⟨w5.heap.size, 1, none⟩ (.int .u8 (x1 : Nat))).setCell ⟨w5.heap.size, 2, none⟩ (.int .u8 (x2 : Nat))).setCell ⟨w5.heap.size, 3, none⟩ (.int .u8 (x3 : Nat))).setCell ⟨w5.heap.size, 4, none⟩ (.string HS)).setCell ⟨w5.heap.size, 5, none⟩ (.int .i64 (pn : Nat))) = W7 ∧ (storeCells ⟨E, 0, none⟩ (badG .ok).toList).run Tryz.prog W7 = .ok () W8 ∧ (w6.cell? ⟨g3, y3, none⟩ = some (.string PM) ∧ w6.cell? ⟨g3, y3 + 1, none⟩ = some (.string PT)) ∧ (W7.cell? ⟨g3, y3, none⟩ = some (.string PM) ∧ W7.cell? ⟨g3, y3 + 1, none⟩ = some (.string PT)) ∧ (W8.cell? ⟨g3, y3, none⟩ = some (.string PM) ∧ W8.cell? ⟨g3, y3 + 1, none⟩ = some (.string PT)) ∧ (w6.cell? ⟨w5.heap.size, 0, none⟩ = some (.int .u8 0) ∧ w6.cell? ⟨w5.heap.size, 1, none⟩ = some (.int .u8 0) ∧ w6.cell? ⟨w5.heap.size, 2, none⟩ = some (.int .u8 0) ∧ w6.cell? ⟨w5.heap.size, 3, none⟩ = some (.int .u8 0) ∧ w6.cell? ⟨w5.heap.size, 4, none⟩ = some (.string ⟨#[]⟩) ∧ w6.cell? ⟨w5.heap.size, 5, none⟩ = some (.int .i64 0) ∧ w6.frozen? ⟨w5.heap.size, 0, none⟩ = false ∧ w6.frozen? ⟨w5.heap.size, 1, none⟩ = false ∧ w6.frozen? ⟨w5.heap.size, 2, none⟩ = false ∧ w6.frozen? ⟨w5.heap.size, 3, none⟩ = false ∧ w6.frozen? ⟨w5.heap.size, 4, none⟩ = false ∧ w6.frozen? ⟨w5.heap.size, 5, none⟩ = false) ∧ W8.cell? ⟨E, 0, none⟩ = some (.int .i64 0) ∧ Aft w w5 W8 E w5.heap.size #[.int .u8 (x0 : Nat), .int .u8 (x1 : Nat), .int .u8 (x2 : Nat), .int .u8 (x3 : Nat), .string HS, .int .i64 (pn : Nat)] .ok) := fun w6 hb => by
                  have h0 : Below w5.heap.size w5 (w5.alloc (.cells #[.int .u8 0, .int .u8 0, .int .u8 0, .int .u8 0, .string ⟨#[]⟩, .int .i64 0] 41)).drew := ((Below.refl _ _).alloc (Nat.le_refl _) _).drew
                  have hA0 : Below w5.heap.size w5 w6 := h0.trans (hb.mono h0.size)
                  have hl := HG3.out
                  have hEl := lt_of_some P5.out
                  have hs := hA0.size
                  have zA0 : w6.heap[w5.heap.size]? = some (.cells z6 41) := keepB hb (show (w5.alloc (.cells #[.int .u8 0, .int .u8 0, .int .u8 0, .int .u8 0, .string ⟨#[]⟩, .int .i64 0] 41)).drew.heap[w5.heap.size]? = some (.cells z6 41) from alloc_new _ _)
                  have hn := set6 zA0 (.int .u8 (x0 : Nat)) (.int .u8 (x1 : Nat)) (.int .u8 (x2 : Nat)) (.int .u8 (x3 : Nat)) (.string HS) (.int .i64 (pn : Nat))
                  obtain ⟨W7, hW7⟩ : ∃ W, ((((((w6.setCell ⟨w5.heap.size, 0, none⟩ (.int .u8 (x0 : Nat))).setCell ⟨w5.heap.size, 1, none⟩ (.int .u8 (x1 : Nat))).setCell ⟨w5.heap.size, 2, none⟩ (.int .u8 (x2 : Nat))).setCell ⟨w5.heap.size, 3, none⟩ (.int .u8 (x3 : Nat))).setCell ⟨w5.heap.size, 4, none⟩ (.string HS)).setCell ⟨w5.heap.size, 5, none⟩ (.int .i64 (pn : Nat))) = W := ⟨_, rfl⟩
                  have hA : Below w5.heap.size w5 W7 := by rw [← hW7]; exact (((((hA0.setCell (by simp) _).setCell (by simp) _).setCell (by simp) _).setCell (by simp) _).setCell (by simp) _).setCell (by simp) _
                  have zA : W7.heap[w5.heap.size]? = some (.cells #[.int .u8 (x0 : Nat), .int .u8 (x1 : Nat), .int .u8 (x2 : Nat), .int .u8 (x3 : Nat), .string HS, .int .i64 (pn : Nat)] 41) := by rw [← hW7]; exact hn
                  have z7 : W7.heap[E]? = some (.cells (badG .ok) 32) := keepB hA P5.out
                  have af := aft_mk (te := .ok) hA zA (Nat.le_refl _) P5.out R50.out R51.out B5.out HE.out rfl
                  have hst := run_storeCells_row (P := Tryz.prog) E 32 (badG .ok) (badG .ok) _ z7 ((badG_size _).trans (badG_size _).symm) (badG_one _)
                  refine ⟨W7, _, hW7, hst, HKP.out _ (hA0.block g3 hl.1), HKP.out _ (hA.block g3 hl.1), HKP.out _ ?_, ?_, ?_, af⟩
                  · rw [setRow_ne _ _ _ _ (by omega)]; exact hA.block g3 hl.1
                  · refine ⟨?_, ?_, ?_, ?_, ?_, ?_, ?_, ?_, ?_, ?_, ?_, ?_⟩ <;> simp [World.cell?, World.frozen?, zA0, z6]
                  · have h8 := af.e
                    simp only [World.cell?, h8]; exact badG_N _
                obtain ⟨s20, s21⟩ : (w5.alloc (.cells #[.int .u8 0, .int .u8 0, .int .u8 0, .int .u8 0, .string ⟨#[]⟩, .int .i64 0] 41)).drew.cell? ⟨g3, y3, none⟩ = some (.string PM) ∧ (w5.alloc (.cells #[.int .u8 0, .int .u8 0, .int .u8 0, .int .u8 0, .string ⟨#[]⟩, .int .i64 0] 41)).drew.cell? ⟨g3, y3 + 1, none⟩ = some (.string PT) := HKP.out _ (((Below.refl w5.heap.size w5).alloc (Nat.le_refl _) _).drew.block g3 HG3.out.1)
                have HT1 : Hid (Calls Tryz.prog 48 #[.string PM, .string PT, .int .i64 (AT : Nat)] w5.drew fun e w6 => e = .returned (.tuple #[.agg #[.int .u8 (x0 : Nat), .int .u8 (x1 : Nat), .int .u8 (x2 : Nat), .int .u8 (x3 : Nat), .string HS, .int .i64 (pn : Nat)], .string TP, .agg (badG .ok)]) ∧ ∃ W8, (storeCells ⟨E, 0, none⟩ (badG .ok).toList).run Tryz.prog (w6.alloc (.cells #[.int .u8 (x0 : Nat), .int .u8 (x1 : Nat), .int .u8 (x2 : Nat), .int .u8 (x3 : Nat), .string HS, .int .i64 (pn : Nat)] 41)) = .ok () W8 ∧ (w6.cell? ⟨g3, y3, none⟩ = some (.string PM) ∧ w6.cell? ⟨g3, y3 + 1, none⟩ = some (.string PT)) ∧ ((w6.alloc (.cells #[.int .u8 (x0 : Nat), .int .u8 (x1 : Nat), .int .u8 (x2 : Nat), .int .u8 (x3 : Nat), .string HS, .int .i64 (pn : Nat)] 41)).cell? ⟨g3, y3, none⟩ = some (.string PM) ∧ (w6.alloc (.cells #[.int .u8 (x0 : Nat), .int .u8 (x1 : Nat), .int .u8 (x2 : Nat), .int .u8 (x3 : Nat), .string HS, .int .i64 (pn : Nat)] 41)).cell? ⟨g3, y3 + 1, none⟩ = some (.string PT)) ∧ (W8.cell? ⟨g3, y3, none⟩ = some (.string PM) ∧ W8.cell? ⟨g3, y3 + 1, none⟩ = some (.string PT)) ∧ W8.cell? ⟨E, 0, none⟩ = some (.int .i64 0) ∧ Aft w w5 W8 E w6.heap.size #[.int .u8 (x0 : Nat), .int .u8 (x1 : Nat), .int .u8 (x2 : Nat), .int .u8 (x3 : Nat), .string HS, .int .i64 (pn : Nat)] .ok) := (HTG.out _).mono fun e w6 h => ⟨h.1, HC1.out w6 h.2⟩
                have HT2 : Hid (Calls Tryz.prog 48 #[.string PM, .string PT, .int .i64 (AT : Nat)] (w5.alloc (.cells #[.int .u8 0, .int .u8 0, .int .u8 0, .int .u8 0, .string ⟨#[]⟩, .int .i64 0] 41)).drew fun e w6 => e = .returned (.tuple #[.agg #[.int .u8 (x0 : Nat), .int .u8 (x1 : Nat), .int .u8 (x2 : Nat), .int .u8 (x3 : Nat), .string HS, .int .i64 (pn : Nat)], .string TP, .agg (badG .ok)]) ∧ ∃ W7 W8, ((((((w6.setCell ⟨w5.heap.size, 0, none⟩ (.int .u8 (x0 : Nat))).setCell ⟨w5.heap.size, 1, none⟩ (.int .u8 (x1 : Nat))).setCell ⟨w5.heap.size, 2, none⟩ (.int .u8 (x2 : Nat))).setCell ⟨w5.heap.size, 3, none⟩ (.int .u8 (x3 : Nat))).setCell ⟨w5.heap.size, 4, none⟩ (.string HS)).setCell ⟨w5.heap.size, 5, none⟩ (.int .i64 (pn : Nat))) = W7 ∧ (storeCells ⟨E, 0, none⟩ (badG .ok).toList).run Tryz.prog W7 = .ok () W8 ∧ (w6.cell? ⟨g3, y3, none⟩ = some (.string PM) ∧ w6.cell? ⟨g3, y3 + 1, none⟩ = some (.string PT)) ∧ (W7.cell? ⟨g3, y3, none⟩ = some (.string PM) ∧ W7.cell? ⟨g3, y3 + 1, none⟩ = some (.string PT)) ∧ (W8.cell? ⟨g3, y3, none⟩ = some (.string PM) ∧ W8.cell? ⟨g3, y3 + 1, none⟩ = some (.string PT)) ∧ (w6.cell? ⟨w5.heap.size, 0, none⟩ = some (.int .u8 0) ∧ w6.cell? ⟨w5.heap.size, 1, none⟩ = some (.int .u8 0) ∧ w6.cell? ⟨w5.heap.size, 2, none⟩ = some (.int .u8 0) ∧ w6.cell? ⟨w5.heap.size, 3, none⟩ = some (.int .u8 0) ∧ w6.cell? ⟨w5.heap.size, 4, none⟩ = some (.string ⟨#[]⟩) ∧ w6.cell? ⟨w5.heap.size, 5, none⟩ = some (.int .i64 0) ∧ w6.frozen? ⟨w5.heap.size, 0, none⟩ = false ∧ w6.frozen? ⟨w5.heap.size, 1, none⟩ = false ∧ w6.frozen? ⟨w5.heap.size, 2, none⟩ = false ∧ w6.frozen? ⟨w5.heap.size, 3, none⟩ = false ∧ w6.frozen? ⟨w5.heap.size, 4, none⟩ = false ∧ w6.frozen? ⟨w5.heap.size, 5, none⟩ = false) ∧ W8.cell? ⟨E, 0, none⟩ = some (.int .i64 0) ∧ Aft w w5 W8 E w5.heap.size #[.int .u8 (x0 : Nat), .int .u8 (x1 : Nat), .int .u8 (x2 : Nat), .int .u8 (x3 : Nat), .string HS, .int .i64 (pn : Nat)] .ok) := (HTG.out _).mono fun e w6 h => ⟨h.1, HC2.out w6 h.2⟩
                clear HC1 HC2 HTG
                go_region_held3 (fun w' => w'.cell? ⟨g3, y3, none⟩ = some (.string PM) ∧ w'.cell? ⟨g3, y3 + 1, none⟩ = some (.string PT)) (first | exact ⟨by assumption, by assumption⟩ | go_keep) (first
                  | (go_at_call 48; with_reducible refine HT1.out.mono ?_; rintro e w6 ⟨rfl, W8, hst, ⟨j1, j2⟩, ⟨j5, j6⟩, ⟨j7, j8⟩, hN8, aft⟩; have AF := hide aft; clear aft)
                  | (go_at_call 48; with_reducible refine HT2.out.mono ?_; rintro e w6 ⟨rfl, W7, W8, hnest, hst, ⟨j1, j2⟩, ⟨j5, j6⟩, ⟨j7, j8⟩, ⟨cc0, cc1, cc2, cc3, cc4, cc5, ff0, ff1, ff2, ff3, ff4, ff5⟩, hN8, aft⟩; have AF := hide aft; clear aft))
                · by_cases hfe : fe = .ok
                  · subst hfe
                    have HR : Hid (request l = (((pm, (([x0, x1, x2, x3], tS), pn), tp), fs), k, .ok)) := HREQ2.out
                    go_wp2_with fail
                    have HT9 : Hid (Calls Tryz.prog 49 #[.slice z1 (n1 - 1) (c1 - 1), .slice z2 (n1 - 1) (c2 - 1)] W8.drew fun e w9 => ∃ ad cap, e = .returned (.tuple #[.slice ad L cap, .agg (badG .ok)]) ∧ ∃ W10, (storeCells ⟨E, 0, none⟩ (badG .ok).toList).run Tryz.prog w9 = .ok () W10 ∧ W10.cell? ⟨E, 0, none⟩ = some (.int .i64 0) ∧ W10.heap[E]? = some (.cells (badG .ok) 32) ∧ W10.heap[w6.heap.size]? = some (.cells #[.int .u8 (x0 : Nat), .int .u8 (x1 : Nat), .int .u8 (x2 : Nat), .int .u8 (x3 : Nat), .string HS, .int .i64 (pn : Nat)] 41) ∧ W10.heap[w.heap.size]? = some (.cells z9 44) ∧ W10.heap[w.heap.size + 1]? = some (.cells (badC .ok) 32) ∧ Below w.heap.size w W10 ∧ SrcF W10 ad L cap fs ∧ W10.cell? ⟨g3, y3, none⟩ = some (.string PM) ∧ (∀ b o, ad = some ⟨b, o, none⟩ → E < b)) := by
                      refine (HFD.out W8.drew (AF.out.srcV U1.out HF1.out).drew (AF.out.srcV U2.out HF2.out).drew).mono fun e w9 h9 => ?_
                      obtain ⟨v9, he9, o9, b9'⟩ := h9
                      have b9 : Below W8.heap.size W8 w9 := ⟨b9'.os, b9'.tape, b9'.output, b9'.size, b9'.block⟩
                      obtain ⟨ad, cap, rfl, s9, f9⟩ := o9.src HOKB.out
                      have hE8 := lt_of_some AF.out.e
                      have hge := AF.out.ge
                      have hEl := lt_of_some P5.out
                      have hE := HE.out
                      have z9e := keepB b9 AF.out.e
                      have hg3 := HG3.out
                      have bw : Below w.heap.size w w9 := AF.out.b.trans (b9.mono AF.out.b.size)
                      refine ⟨ad, cap, by rw [he9, HLF.out], _, run_storeCells_row (P := Tryz.prog) E 32 (badG .ok) (badG .ok) _ z9e ((badG_size _).trans (badG_size _).symm) (badG_one _), ?_, setRow_heap _ _ _ _ _ z9e, ?_, ?_, ?_, below_setRow bw (by omega) _, ?_, ?_, fun b o e => ?_⟩
                      · have h8 := setRow_heap _ _ (badG .ok) _ _ z9e
                        simp only [World.cell?, h8]; exact badG_N _
                      · rw [setRow_ne _ _ _ _ (by omega)]; exact keepB b9 AF.out.d
                      · rw [setRow_ne _ _ _ _ (by omega)]; exact keepB b9 AF.out.r0
                      · rw [setRow_ne _ _ _ _ (by omega)]; exact keepB b9 AF.out.r1
                      · rw [HLF.out]
                        refine s9.keep (fun h0 b o e => setRow_ne _ _ _ _ ?_) (by simp [World.setRow])
                        have := f9 b o e
                        have h2 : W8.drew.heap.size = W8.heap.size := rfl
                        omega
                      · have h1 : (w9.setRow E (badG .ok)).heap[g3]? = w5.heap[g3]? := by
                          rw [setRow_ne _ _ _ _ (by omega), b9.block g3 (Nat.lt_of_lt_of_le hg3.1 AF.out.s)]
                          exact AF.out.k g3 hg3.1 (by omega)
                        exact (World.cell?_of_block (a := ⟨g3, y3, none⟩) h1).trans e30
                      · have := f9 b o e
                        have h2 : W8.drew.heap.size = W8.heap.size := rfl
                        omega
                    clear AF U1 U2 HFD hst s20 s21 hN8 j1 j2 j5 j6 j7 j8 
                    go_region_held3 (fun _ => True) (trivial) (first
                      | (go_at_call 49; with_reducible refine HT9.out.mono ?_; rintro e w9 ⟨ad, cap, rfl, W10, hst9, hN10, p10, d10, r100, r101, b10, s10, e10, f10⟩; have P10 := hide p10; have D10 := hide d10; have R100 := hide r100; have R101 := hide r101; have B10 := hide b10; have S10 := hide s10; have F10 := hide f10; clear p10 d10 r100 r101 b10 s10 f10))
                    clear HT9
                    go_wp2_with fail
                    have k3 : canPut 9 44 W10 (.pointer (some ⟨w.heap.size, 0, none⟩)) (.agg #[.string PM, .int .u8 (x0 : Nat), .int .u8 (x1 : Nat), .int .u8 (x2 : Nat), .int .u8 (x3 : Nat), .string HS, .int .i64 (pn : Nat), .string TP, .slice ad L cap]) = true := canPut_row R100.out rfl rfl (by simp [Value.oneCell'])
                    obtain ⟨f1, f2, f3, f4⟩ := fin2 R100.out R101.out #[.string PM, .int .u8 (x0 : Nat), .int .u8 (x1 : Nat), .int .u8 (x2 : Nat), .int .u8 (x3 : Nat), .string HS, .int .i64 (pn : Nat), .string TP, .slice ad L cap] (badC .ok)
                    have f5 := f4 w (Nat.le_refl _) B10.out
                    obtain ⟨Wa, hWa⟩ : ∃ W6, W6 = W10.setRow w.heap.size #[.string PM, .int .u8 (x0 : Nat), .int .u8 (x1 : Nat), .int .u8 (x2 : Nat), .int .u8 (x3 : Nat), .string HS, .int .i64 (pn : Nat), .string TP, .slice ad L cap] := ⟨_, rfl⟩
                    rw [← hWa] at f1 f2 f3 f4 f5
                    have k4 : canPut 10 32 Wa (.pointer (some ⟨w.heap.size + 1, 0, none⟩)) (.agg #[.int .i64 0, .string ⟨#[]⟩, .string ⟨#[]⟩, .string ⟨#[]⟩, .string ⟨#[]⟩, .int .i64 0, .int .i64 0, .int .i64 0, .int .i64 0, .int .i64 0]) = true := canPut_row f1 rfl rfl (by simp [Value.oneCell'])
                    have hWa' : W10.setRow w.heap.size #[.string PM, .int .u8 (x0 : Nat), .int .u8 (x1 : Nat), .int .u8 (x2 : Nat), .int .u8 (x3 : Nat), .string HS, .int .i64 (pn : Nat), .string TP, .slice ad L cap] = Wa := hWa.symm
                    obtain ⟨Wb, hWb⟩ : ∃ W7, W7 = Wa.setRow (w.heap.size + 1) (badC .ok) := ⟨_, rfl⟩
                    rw [← hWb] at f2 f3 f5
                    have hWb' : Wa.setRow (w.heap.size + 1) #[.int .i64 0, .string ⟨#[]⟩, .string ⟨#[]⟩, .string ⟨#[]⟩, .string ⟨#[]⟩, .int .i64 0, .int .i64 0, .int .i64 0, .int .i64 0, .int .i64 0] = Wb := hWb.symm
                    have F4 : Hid (SrcF Wb ad L cap fs) := by
                      have hE := HE.out
                      rw [hWb]
                      refine SrcF.keep (w := Wa) ?_ (fun h0 b o e => setRow_ne _ _ _ _ (by have := F10.out b o e; omega)) (by simp [World.setRow])
                      rw [hWa]
                      exact S10.out.keep (fun h0 b o e => setRow_ne _ _ _ _ (by have := F10.out b o e; omega)) (by simp [World.setRow])
                    have F2 := hide f2
                    have F3 := hide f3
                    have F5 := hide f5
                    have dd0 : W10.cell? ⟨w6.heap.size, 0, none⟩ = some (.int .u8 (x0 : Nat)) := by simp [World.cell?, D10.out]
                    have dd1 : W10.cell? ⟨w6.heap.size, 1, none⟩ = some (.int .u8 (x1 : Nat)) := by simp [World.cell?, D10.out]
                    have dd2 : W10.cell? ⟨w6.heap.size, 2, none⟩ = some (.int .u8 (x2 : Nat)) := by simp [World.cell?, D10.out]
                    have dd3 : W10.cell? ⟨w6.heap.size, 3, none⟩ = some (.int .u8 (x3 : Nat)) := by simp [World.cell?, D10.out]
                    have dd4 : W10.cell? ⟨w6.heap.size, 4, none⟩ = some (.string HS) := by simp [World.cell?, D10.out]
                    have dd5 : W10.cell? ⟨w6.heap.size, 5, none⟩ = some (.int .i64 (pn : Nat)) := by simp [World.cell?, D10.out]
                    clear f1 f2 f3 f4 f5 hWb hWa
                    go_region
                    all_goals (try go_wp2_with fail)
                    all_goals refine bodyPost_ret (res_ctc rfl _ _ w.heap.size 44 #[.string PM, .int .u8 (x0 : Nat), .int .u8 (x1 : Nat), .int .u8 (x2 : Nat), .int .u8 (x3 : Nat), .string HS, .int .i64 (pn : Nat), .string TP, .slice ad L cap] (0, 0) _ rfl (by exact F2.out) Tryz.underlying44 rfl info44 (w.heap.size + 1) 32 (badC .ok) (0, 0) _ rfl (by exact F3.out) Tryz.underlying32 rfl info32) rfl ?_
                    all_goals rw [HR.out]
                    all_goals refine ⟨ad, cap, ?_, by rw [← HLF.out]; exact F4.out.keep (fun _ _ _ _ => rfl) (Nat.le_refl _), F5.out.drew, fun b o e => by have h1 := F10.out b o e; have h2 := HE.out; omega⟩
                    all_goals (rw [HPM.out, HHS.out, HTP.out, HLF.out]; rfl)
                  · have hpos := HFP.out hfe
                    obtain ⟨en, hen⟩ : ∃ e, e = hrN fe := ⟨_, rfl⟩
                    rw [← hen] at hpos
                    have HR : Hid (request l = ((noR, []), 0, fe)) := by
                      show _ = _
                      rw [HREQ2.out]
                      cases fe with
                      | ok => exact absurd rfl hfe
                      | one a c => rfl
                      | wr a e => rfl
                    have HBN : Hid ((badG fe)[0]? = some (.int .i64 (en : Nat))) := by rw [hen]; exact badG_N fe
                    have q9 : decide (0 < (en : Int)) = true := decide_eq_true (by omega)
                    have q9' : decide (0 < en) = true := decide_eq_true hpos
                    have hbs : (badG fe).size = 10 := badG_size fe
                    clear hfe hen
                    go_wp2_with fail
                    have HT9 : Hid (Calls Tryz.prog 49 #[.slice z1 (n1 - 1) (c1 - 1), .slice z2 (n1 - 1) (c2 - 1)] W8.drew fun e w9 => ∃ ad cap, e = .returned (.tuple #[.slice ad L cap, .agg (badG fe)]) ∧ ∃ W10, (storeCells ⟨E, 0, none⟩ (badG fe).toList).run Tryz.prog w9 = .ok () W10 ∧ W10.cell? ⟨E, 0, none⟩ = some (.int .i64 (en : Nat)) ∧ W10.heap[E]? = some (.cells (badG fe) 32) ∧ W10.heap[w6.heap.size]? = some (.cells #[.int .u8 (x0 : Nat), .int .u8 (x1 : Nat), .int .u8 (x2 : Nat), .int .u8 (x3 : Nat), .string HS, .int .i64 (pn : Nat)] 41) ∧ W10.heap[w.heap.size]? = some (.cells z9 44) ∧ W10.heap[w.heap.size + 1]? = some (.cells (badC .ok) 32) ∧ Below w.heap.size w W10 ∧ SrcF W10 ad L cap fs ∧ W10.cell? ⟨g3, y3, none⟩ = some (.string PM) ∧ (∀ b o, ad = some ⟨b, o, none⟩ → E < b)) := by
                      refine (HFD.out W8.drew (AF.out.srcV U1.out HF1.out).drew (AF.out.srcV U2.out HF2.out).drew).mono fun e w9 h9 => ?_
                      obtain ⟨v9, he9, o9, b9'⟩ := h9
                      have b9 : Below W8.heap.size W8 w9 := ⟨b9'.os, b9'.tape, b9'.output, b9'.size, b9'.block⟩
                      obtain ⟨ad, cap, rfl, s9, f9⟩ := o9.src HOKB.out
                      have hE8 := lt_of_some AF.out.e
                      have hge := AF.out.ge
                      have hEl := lt_of_some P5.out
                      have hE := HE.out
                      have z9e := keepB b9 AF.out.e
                      have hg3 := HG3.out
                      have bw : Below w.heap.size w w9 := AF.out.b.trans (b9.mono AF.out.b.size)
                      refine ⟨ad, cap, by rw [he9, HLF.out], _, run_storeCells_row (P := Tryz.prog) E 32 (badG fe) (badG .ok) _ z9e ((badG_size _).trans (badG_size _).symm) (badG_one _), ?_, setRow_heap _ _ _ _ _ z9e, ?_, ?_, ?_, below_setRow bw (by omega) _, ?_, ?_, fun b o e => ?_⟩
                      · have h8 := setRow_heap _ _ (badG fe) _ _ z9e
                        simp only [World.cell?, h8]; exact HBN.out
                      · rw [setRow_ne _ _ _ _ (by omega)]; exact keepB b9 AF.out.d
                      · rw [setRow_ne _ _ _ _ (by omega)]; exact keepB b9 AF.out.r0
                      · rw [setRow_ne _ _ _ _ (by omega)]; exact keepB b9 AF.out.r1
                      · rw [HLF.out]
                        refine s9.keep (fun h0 b o e => setRow_ne _ _ _ _ ?_) (by simp [World.setRow])
                        have := f9 b o e
                        have h2 : W8.drew.heap.size = W8.heap.size := rfl
                        omega
                      · have h1 : (w9.setRow E (badG fe)).heap[g3]? = w5.heap[g3]? := by
                          rw [setRow_ne _ _ _ _ (by omega), b9.block g3 (Nat.lt_of_lt_of_le hg3.1 AF.out.s)]
                          exact AF.out.k g3 hg3.1 (by omega)
                        exact (World.cell?_of_block (a := ⟨g3, y3, none⟩) h1).trans e30
                      · have := f9 b o e
                        have h2 : W8.drew.heap.size = W8.heap.size := rfl
                        omega
                    clear AF U1 U2 HFD hst s20 s21 hN8 j1 j2 j5 j6 j7 j8 
                    go_region_held3 (fun _ => True) (trivial) (first
                      | (go_at_call 49; with_reducible refine HT9.out.mono ?_; rintro e w9 ⟨ad, cap, rfl, W10, hst9, hN10, p10, d10, r100, r101, b10, s10, e10, f10⟩; have P10 := hide p10; have D10 := hide d10; have R100 := hide r100; have R101 := hide r101; have B10 := hide b10; have S10 := hide s10; have F10 := hide f10; clear p10 d10 r100 r101 b10 s10 f10))
                    clear HT9
                    have hlt : w.heap.size + 1 < E := HE.out
                    go_wp2_with fail
                    have k1 : isRow W10 E 10 = true := isRow_of P10.out (badG_size _)
                    have k2 : rowOf W10 E = badG fe := rowOf_of P10.out
                    have k3 : canPut 9 44 W10 (.pointer (some ⟨w.heap.size, 0, none⟩)) (.agg #[.string ⟨#[]⟩, .int .u8 0, .int .u8 0, .int .u8 0, .int .u8 0, .string ⟨#[]⟩, .int .i64 0, .string ⟨#[]⟩, .slice none 0 0]) = true := canPut_row R100.out rfl rfl (by simp [Value.oneCell'])
                    obtain ⟨f1, f2, f3, f4⟩ := fin2 R100.out R101.out z9 (badG fe)
                    have f5 := f4 w (Nat.le_refl _) B10.out
                    obtain ⟨Wa, hWa⟩ : ∃ W6, W6 = W10.setRow w.heap.size z9 := ⟨_, rfl⟩
                    rw [← hWa] at f1 f2 f3 f4 f5
                    have p6 : Wa.heap[E]? = some (.cells (badG fe) 32) := by have := HE.out; rw [hWa, setRow_ne _ _ _ _ (by omega)]; exact P10.out
                    have k5 : isRow Wa E 10 = true := isRow_of p6 (badG_size _)
                    have k6 : rowOf Wa E = badG fe := rowOf_of p6
                    have k4 : canPut 10 32 Wa (.pointer (some ⟨w.heap.size + 1, 0, none⟩)) (.agg (badG fe)) = true := canPut_row f1 rfl (badG_size _) (badG_one _)
                    have hWa' : W10.setRow w.heap.size #[.string ⟨#[]⟩, .int .u8 0, .int .u8 0, .int .u8 0, .int .u8 0, .string ⟨#[]⟩, .int .i64 0, .string ⟨#[]⟩, .slice none 0 0] = Wa := hWa.symm
                    obtain ⟨Wb, hWb⟩ : ∃ W7, W7 = Wa.setRow (w.heap.size + 1) (badG fe) := ⟨_, rfl⟩
                    rw [← hWb] at f2 f3 f5
                    have hWb' : Wa.setRow (w.heap.size + 1) (badG fe) = Wb := hWb.symm
                    have F2 := hide f2
                    have F3 := hide f3
                    have F5 := hide f5
                    clear f1 f2 f3 f4 f5 hWb hWa p6

                    go_region
                    all_goals (try go_wp2_with fail)
                    all_goals refine bodyPost_ret (res_ctc rfl _ _ w.heap.size 44 z9 (0, 0) _ rfl (by exact F2.out) Tryz.underlying44 rfl info44 (w.heap.size + 1) 32 (badG fe) (0, 0) _ rfl (by exact F3.out) Tryz.underlying32 rfl (badGI fe)) rfl ?_
                    all_goals (rw [HR.out]; exact ⟨none, 0, rfl, SrcF.nilS _, F5.out.drew, fun _ _ e => by cases e⟩)
                · by_cases hfe : fe = .ok
                  · subst hfe
                    have HR : Hid (request l = (((pm, (([x0, x1, x2, x3], tS), pn), tp), fs), k, .ok)) := HREQ2.out
                    go_wp2_with fail
                    have HT9 : Hid (Calls Tryz.prog 49 #[.slice z1 (n1 - 1) (c1 - 1), .slice z2 (n1 - 1) (c2 - 1)] W8.drew fun e w9 => ∃ ad cap, e = .returned (.tuple #[.slice ad L cap, .agg (badG .ok)]) ∧ ∃ W10, (storeCells ⟨E, 0, none⟩ (badG .ok).toList).run Tryz.prog w9 = .ok () W10 ∧ W10.cell? ⟨E, 0, none⟩ = some (.int .i64 0) ∧ W10.heap[E]? = some (.cells (badG .ok) 32) ∧ W10.heap[w5.heap.size]? = some (.cells #[.int .u8 (x0 : Nat), .int .u8 (x1 : Nat), .int .u8 (x2 : Nat), .int .u8 (x3 : Nat), .string HS, .int .i64 (pn : Nat)] 41) ∧ W10.heap[w.heap.size]? = some (.cells z9 44) ∧ W10.heap[w.heap.size + 1]? = some (.cells (badC .ok) 32) ∧ Below w.heap.size w W10 ∧ SrcF W10 ad L cap fs ∧ W10.cell? ⟨g3, y3, none⟩ = some (.string PM) ∧ (∀ b o, ad = some ⟨b, o, none⟩ → E < b)) := by
                      refine (HFD.out W8.drew (AF.out.srcV U1.out HF1.out).drew (AF.out.srcV U2.out HF2.out).drew).mono fun e w9 h9 => ?_
                      obtain ⟨v9, he9, o9, b9'⟩ := h9
                      have b9 : Below W8.heap.size W8 w9 := ⟨b9'.os, b9'.tape, b9'.output, b9'.size, b9'.block⟩
                      obtain ⟨ad, cap, rfl, s9, f9⟩ := o9.src HOKB.out
                      have hE8 := lt_of_some AF.out.e
                      have hge := AF.out.ge
                      have hEl := lt_of_some P5.out
                      have hE := HE.out
                      have z9e := keepB b9 AF.out.e
                      have hg3 := HG3.out
                      have bw : Below w.heap.size w w9 := AF.out.b.trans (b9.mono AF.out.b.size)
                      refine ⟨ad, cap, by rw [he9, HLF.out], _, run_storeCells_row (P := Tryz.prog) E 32 (badG .ok) (badG .ok) _ z9e ((badG_size _).trans (badG_size _).symm) (badG_one _), ?_, setRow_heap _ _ _ _ _ z9e, ?_, ?_, ?_, below_setRow bw (by omega) _, ?_, ?_, fun b o e => ?_⟩
                      · have h8 := setRow_heap _ _ (badG .ok) _ _ z9e
                        simp only [World.cell?, h8]; exact badG_N _
                      · rw [setRow_ne _ _ _ _ (by omega)]; exact keepB b9 AF.out.d
                      · rw [setRow_ne _ _ _ _ (by omega)]; exact keepB b9 AF.out.r0
                      · rw [setRow_ne _ _ _ _ (by omega)]; exact keepB b9 AF.out.r1
                      · rw [HLF.out]
                        refine s9.keep (fun h0 b o e => setRow_ne _ _ _ _ ?_) (by simp [World.setRow])
                        have := f9 b o e
                        have h2 : W8.drew.heap.size = W8.heap.size := rfl
                        omega
                      · have h1 : (w9.setRow E (badG .ok)).heap[g3]? = w5.heap[g3]? := by
                          rw [setRow_ne _ _ _ _ (by omega), b9.block g3 (Nat.lt_of_lt_of_le hg3.1 AF.out.s)]
                          exact AF.out.k g3 hg3.1 (by omega)
                        exact (World.cell?_of_block (a := ⟨g3, y3, none⟩) h1).trans e30
                      · have := f9 b o e
                        have h2 : W8.drew.heap.size = W8.heap.size := rfl
                        omega
                    clear AF U1 U2 HFD hst s20 s21 hN8 j1 j2 j5 j6 j7 j8 cc0 cc1 cc2 cc3 cc4 cc5 ff0 ff1 ff2 ff3 ff4 ff5 hnest
                    go_region_held3 (fun _ => True) (trivial) (first
                      | (go_at_call 49; with_reducible refine HT9.out.mono ?_; rintro e w9 ⟨ad, cap, rfl, W10, hst9, hN10, p10, d10, r100, r101, b10, s10, e10, f10⟩; have P10 := hide p10; have D10 := hide d10; have R100 := hide r100; have R101 := hide r101; have B10 := hide b10; have S10 := hide s10; have F10 := hide f10; clear p10 d10 r100 r101 b10 s10 f10))
                    clear HT9
                    go_wp2_with fail
                    have k3 : canPut 9 44 W10 (.pointer (some ⟨w.heap.size, 0, none⟩)) (.agg #[.string PM, .int .u8 (x0 : Nat), .int .u8 (x1 : Nat), .int .u8 (x2 : Nat), .int .u8 (x3 : Nat), .string HS, .int .i64 (pn : Nat), .string TP, .slice ad L cap]) = true := canPut_row R100.out rfl rfl (by simp [Value.oneCell'])
                    obtain ⟨f1, f2, f3, f4⟩ := fin2 R100.out R101.out #[.string PM, .int .u8 (x0 : Nat), .int .u8 (x1 : Nat), .int .u8 (x2 : Nat), .int .u8 (x3 : Nat), .string HS, .int .i64 (pn : Nat), .string TP, .slice ad L cap] (badC .ok)
                    have f5 := f4 w (Nat.le_refl _) B10.out
                    obtain ⟨Wa, hWa⟩ : ∃ W6, W6 = W10.setRow w.heap.size #[.string PM, .int .u8 (x0 : Nat), .int .u8 (x1 : Nat), .int .u8 (x2 : Nat), .int .u8 (x3 : Nat), .string HS, .int .i64 (pn : Nat), .string TP, .slice ad L cap] := ⟨_, rfl⟩
                    rw [← hWa] at f1 f2 f3 f4 f5
                    have k4 : canPut 10 32 Wa (.pointer (some ⟨w.heap.size + 1, 0, none⟩)) (.agg #[.int .i64 0, .string ⟨#[]⟩, .string ⟨#[]⟩, .string ⟨#[]⟩, .string ⟨#[]⟩, .int .i64 0, .int .i64 0, .int .i64 0, .int .i64 0, .int .i64 0]) = true := canPut_row f1 rfl rfl (by simp [Value.oneCell'])
                    have hWa' : W10.setRow w.heap.size #[.string PM, .int .u8 (x0 : Nat), .int .u8 (x1 : Nat), .int .u8 (x2 : Nat), .int .u8 (x3 : Nat), .string HS, .int .i64 (pn : Nat), .string TP, .slice ad L cap] = Wa := hWa.symm
                    obtain ⟨Wb, hWb⟩ : ∃ W7, W7 = Wa.setRow (w.heap.size + 1) (badC .ok) := ⟨_, rfl⟩
                    rw [← hWb] at f2 f3 f5
                    have hWb' : Wa.setRow (w.heap.size + 1) #[.int .i64 0, .string ⟨#[]⟩, .string ⟨#[]⟩, .string ⟨#[]⟩, .string ⟨#[]⟩, .int .i64 0, .int .i64 0, .int .i64 0, .int .i64 0, .int .i64 0] = Wb := hWb.symm
                    have F4 : Hid (SrcF Wb ad L cap fs) := by
                      have hE := HE.out
                      rw [hWb]
                      refine SrcF.keep (w := Wa) ?_ (fun h0 b o e => setRow_ne _ _ _ _ (by have := F10.out b o e; omega)) (by simp [World.setRow])
                      rw [hWa]
                      exact S10.out.keep (fun h0 b o e => setRow_ne _ _ _ _ (by have := F10.out b o e; omega)) (by simp [World.setRow])
                    have F2 := hide f2
                    have F3 := hide f3
                    have F5 := hide f5
                    have dd0 : W10.cell? ⟨w5.heap.size, 0, none⟩ = some (.int .u8 (x0 : Nat)) := by simp [World.cell?, D10.out]
                    have dd1 : W10.cell? ⟨w5.heap.size, 1, none⟩ = some (.int .u8 (x1 : Nat)) := by simp [World.cell?, D10.out]
                    have dd2 : W10.cell? ⟨w5.heap.size, 2, none⟩ = some (.int .u8 (x2 : Nat)) := by simp [World.cell?, D10.out]
                    have dd3 : W10.cell? ⟨w5.heap.size, 3, none⟩ = some (.int .u8 (x3 : Nat)) := by simp [World.cell?, D10.out]
                    have dd4 : W10.cell? ⟨w5.heap.size, 4, none⟩ = some (.string HS) := by simp [World.cell?, D10.out]
                    have dd5 : W10.cell? ⟨w5.heap.size, 5, none⟩ = some (.int .i64 (pn : Nat)) := by simp [World.cell?, D10.out]
                    clear f1 f2 f3 f4 f5 hWb hWa
                    go_region
                    all_goals (try go_wp2_with fail)
                    all_goals refine bodyPost_ret (res_ctc rfl _ _ w.heap.size 44 #[.string PM, .int .u8 (x0 : Nat), .int .u8 (x1 : Nat), .int .u8 (x2 : Nat), .int .u8 (x3 : Nat), .string HS, .int .i64 (pn : Nat), .string TP, .slice ad L cap] (0, 0) _ rfl (by exact F2.out) Tryz.underlying44 rfl info44 (w.heap.size + 1) 32 (badC .ok) (0, 0) _ rfl (by exact F3.out) Tryz.underlying32 rfl info32) rfl ?_
                    all_goals rw [HR.out]
                    all_goals refine ⟨ad, cap, ?_, by rw [← HLF.out]; exact F4.out.keep (fun _ _ _ _ => rfl) (Nat.le_refl _), F5.out.drew, fun b o e => by have h1 := F10.out b o e; have h2 := HE.out; omega⟩
                    all_goals (rw [HPM.out, HHS.out, HTP.out, HLF.out]; rfl)
                  · have hpos := HFP.out hfe
                    obtain ⟨en, hen⟩ : ∃ e, e = hrN fe := ⟨_, rfl⟩
                    rw [← hen] at hpos
                    have HR : Hid (request l = ((noR, []), 0, fe)) := by
                      show _ = _
                      rw [HREQ2.out]
                      cases fe with
                      | ok => exact absurd rfl hfe
                      | one a c => rfl
                      | wr a e => rfl
                    have HBN : Hid ((badG fe)[0]? = some (.int .i64 (en : Nat))) := by rw [hen]; exact badG_N fe
                    have q9 : decide (0 < (en : Int)) = true := decide_eq_true (by omega)
                    have q9' : decide (0 < en) = true := decide_eq_true hpos
                    have hbs : (badG fe).size = 10 := badG_size fe
                    clear hfe hen
                    go_wp2_with fail
                    have HT9 : Hid (Calls Tryz.prog 49 #[.slice z1 (n1 - 1) (c1 - 1), .slice z2 (n1 - 1) (c2 - 1)] W8.drew fun e w9 => ∃ ad cap, e = .returned (.tuple #[.slice ad L cap, .agg (badG fe)]) ∧ ∃ W10, (storeCells ⟨E, 0, none⟩ (badG fe).toList).run Tryz.prog w9 = .ok () W10 ∧ W10.cell? ⟨E, 0, none⟩ = some (.int .i64 (en : Nat)) ∧ W10.heap[E]? = some (.cells (badG fe) 32) ∧ W10.heap[w5.heap.size]? = some (.cells #[.int .u8 (x0 : Nat), .int .u8 (x1 : Nat), .int .u8 (x2 : Nat), .int .u8 (x3 : Nat), .string HS, .int .i64 (pn : Nat)] 41) ∧ W10.heap[w.heap.size]? = some (.cells z9 44) ∧ W10.heap[w.heap.size + 1]? = some (.cells (badC .ok) 32) ∧ Below w.heap.size w W10 ∧ SrcF W10 ad L cap fs ∧ W10.cell? ⟨g3, y3, none⟩ = some (.string PM) ∧ (∀ b o, ad = some ⟨b, o, none⟩ → E < b)) := by
                      refine (HFD.out W8.drew (AF.out.srcV U1.out HF1.out).drew (AF.out.srcV U2.out HF2.out).drew).mono fun e w9 h9 => ?_
                      obtain ⟨v9, he9, o9, b9'⟩ := h9
                      have b9 : Below W8.heap.size W8 w9 := ⟨b9'.os, b9'.tape, b9'.output, b9'.size, b9'.block⟩
                      obtain ⟨ad, cap, rfl, s9, f9⟩ := o9.src HOKB.out
                      have hE8 := lt_of_some AF.out.e
                      have hge := AF.out.ge
                      have hEl := lt_of_some P5.out
                      have hE := HE.out
                      have z9e := keepB b9 AF.out.e
                      have hg3 := HG3.out
                      have bw : Below w.heap.size w w9 := AF.out.b.trans (b9.mono AF.out.b.size)
                      refine ⟨ad, cap, by rw [he9, HLF.out], _, run_storeCells_row (P := Tryz.prog) E 32 (badG fe) (badG .ok) _ z9e ((badG_size _).trans (badG_size _).symm) (badG_one _), ?_, setRow_heap _ _ _ _ _ z9e, ?_, ?_, ?_, below_setRow bw (by omega) _, ?_, ?_, fun b o e => ?_⟩
                      · have h8 := setRow_heap _ _ (badG fe) _ _ z9e
                        simp only [World.cell?, h8]; exact HBN.out
                      · rw [setRow_ne _ _ _ _ (by omega)]; exact keepB b9 AF.out.d
                      · rw [setRow_ne _ _ _ _ (by omega)]; exact keepB b9 AF.out.r0
                      · rw [setRow_ne _ _ _ _ (by omega)]; exact keepB b9 AF.out.r1
                      · rw [HLF.out]
                        refine s9.keep (fun h0 b o e => setRow_ne _ _ _ _ ?_) (by simp [World.setRow])
                        have := f9 b o e
                        have h2 : W8.drew.heap.size = W8.heap.size := rfl
                        omega
                      · have h1 : (w9.setRow E (badG fe)).heap[g3]? = w5.heap[g3]? := by
                          rw [setRow_ne _ _ _ _ (by omega), b9.block g3 (Nat.lt_of_lt_of_le hg3.1 AF.out.s)]
                          exact AF.out.k g3 hg3.1 (by omega)
                        exact (World.cell?_of_block (a := ⟨g3, y3, none⟩) h1).trans e30
                      · have := f9 b o e
                        have h2 : W8.drew.heap.size = W8.heap.size := rfl
                        omega
                    clear AF U1 U2 HFD hst s20 s21 hN8 j1 j2 j5 j6 j7 j8 cc0 cc1 cc2 cc3 cc4 cc5 ff0 ff1 ff2 ff3 ff4 ff5 hnest
                    go_region_held3 (fun _ => True) (trivial) (first
                      | (go_at_call 49; with_reducible refine HT9.out.mono ?_; rintro e w9 ⟨ad, cap, rfl, W10, hst9, hN10, p10, d10, r100, r101, b10, s10, e10, f10⟩; have P10 := hide p10; have D10 := hide d10; have R100 := hide r100; have R101 := hide r101; have B10 := hide b10; have S10 := hide s10; have F10 := hide f10; clear p10 d10 r100 r101 b10 s10 f10))
                    clear HT9
                    have hlt : w.heap.size + 1 < E := HE.out
                    go_wp2_with fail
                    have k1 : isRow W10 E 10 = true := isRow_of P10.out (badG_size _)
                    have k2 : rowOf W10 E = badG fe := rowOf_of P10.out
                    have k3 : canPut 9 44 W10 (.pointer (some ⟨w.heap.size, 0, none⟩)) (.agg #[.string ⟨#[]⟩, .int .u8 0, .int .u8 0, .int .u8 0, .int .u8 0, .string ⟨#[]⟩, .int .i64 0, .string ⟨#[]⟩, .slice none 0 0]) = true := canPut_row R100.out rfl rfl (by simp [Value.oneCell'])
                    obtain ⟨f1, f2, f3, f4⟩ := fin2 R100.out R101.out z9 (badG fe)
                    have f5 := f4 w (Nat.le_refl _) B10.out
                    obtain ⟨Wa, hWa⟩ : ∃ W6, W6 = W10.setRow w.heap.size z9 := ⟨_, rfl⟩
                    rw [← hWa] at f1 f2 f3 f4 f5
                    have p6 : Wa.heap[E]? = some (.cells (badG fe) 32) := by have := HE.out; rw [hWa, setRow_ne _ _ _ _ (by omega)]; exact P10.out
                    have k5 : isRow Wa E 10 = true := isRow_of p6 (badG_size _)
                    have k6 : rowOf Wa E = badG fe := rowOf_of p6
                    have k4 : canPut 10 32 Wa (.pointer (some ⟨w.heap.size + 1, 0, none⟩)) (.agg (badG fe)) = true := canPut_row f1 rfl (badG_size _) (badG_one _)
                    have hWa' : W10.setRow w.heap.size #[.string ⟨#[]⟩, .int .u8 0, .int .u8 0, .int .u8 0, .int .u8 0, .string ⟨#[]⟩, .int .i64 0, .string ⟨#[]⟩, .slice none 0 0] = Wa := hWa.symm
                    obtain ⟨Wb, hWb⟩ : ∃ W7, W7 = Wa.setRow (w.heap.size + 1) (badG fe) := ⟨_, rfl⟩
                    rw [← hWb] at f2 f3 f5
                    have hWb' : Wa.setRow (w.heap.size + 1) (badG fe) = Wb := hWb.symm
                    have F2 := hide f2
                    have F3 := hide f3
                    have F5 := hide f5
                    clear f1 f2 f3 f4 f5 hWb hWa p6

                    go_region
                    all_goals (try go_wp2_with fail)
                    all_goals refine bodyPost_ret (res_ctc rfl _ _ w.heap.size 44 z9 (0, 0) _ rfl (by exact F2.out) Tryz.underlying44 rfl info44 (w.heap.size + 1) 32 (badG fe) (0, 0) _ rfl (by exact F3.out) Tryz.underlying32 rfl (badGI fe)) rfl ?_
                    all_goals (rw [HR.out]; exact ⟨none, 0, rfl, SrcF.nilS _, F5.out.drew, fun _ _ e => by cases e⟩)
              · have hpos := (HTPO.out hte).1
                obtain ⟨en, hen⟩ : ∃ e, e = hrN te := ⟨_, rfl⟩
                rw [← hen] at hpos
                have HR : Hid (request l = ((noR, []), 0, te)) := by
                  have := HREQ.out (by rw [HRT.out]; exact hte)
                  rwa [HRT.out] at this
                have badG_N : ∀ e : Hr, e = te → (badG te)[0]? = some (.int .i64 (en : Nat)) := fun e _ => by rw [hen]; exact badG_N te
                have badG_N := badG_N te rfl
                have HBN := hide badG_N
                clear hte badG_N hen
                have hbs : (badG te).size = 10 := badG_size te
                have q9 : decide (0 < (en : Int)) = true := decide_eq_true (by omega)
                have q9' : decide (0 < en) = true := decide_eq_true hpos
                have HC1 : Hid (∀ w6, Below w5.heap.size w5.drew w6 → ∃ W8, (storeCells ⟨E, 0, none⟩ (badG te).toList).run Tryz.prog (w6.alloc (.cells #[.int .u8 (x0 : Nat), .int .u8 (x1 : Nat), .int .u8 (x2 : Nat), .int .u8 (x3 : Nat), .string HS, .int .i64 (pn : Nat)] 41)) = .ok () W8 ∧ (w6.cell? ⟨g3, y3, none⟩ = some (.string PM) ∧ w6.cell? ⟨g3, y3 + 1, none⟩ = some (.string PT)) ∧ ((w6.alloc (.cells #[.int .u8 (x0 : Nat), .int .u8 (x1 : Nat), .int .u8 (x2 : Nat), .int .u8 (x3 : Nat), .string HS, .int .i64 (pn : Nat)] 41)).cell? ⟨g3, y3, none⟩ = some (.string PM) ∧ (w6.alloc (.cells #[.int .u8 (x0 : Nat), .int .u8 (x1 : Nat), .int .u8 (x2 : Nat), .int .u8 (x3 : Nat), .string HS, .int .i64 (pn : Nat)] 41)).cell? ⟨g3, y3 + 1, none⟩ = some (.string PT)) ∧ (W8.cell? ⟨g3, y3, none⟩ = some (.string PM) ∧ W8.cell? ⟨g3, y3 + 1, none⟩ = some (.string PT)) ∧ W8.cell? ⟨E, 0, none⟩ = some (.int .i64 (en : Nat)) ∧ Aft w w5 W8 E w6.heap.size #[.int .u8 (x0 : Nat), .int .u8 (x1 : Nat), .int .u8 (x2 : Nat), .int .u8 (x3 : Nat), .string HS, .int .i64 (pn : Nat)] te) := fun w6 hb => by
                  have hb' : Below w5.heap.size w5 w6 := ⟨hb.os, hb.tape, hb.output, hb.size, hb.block⟩
                  have hA : Below w5.heap.size w5 (w6.alloc (.cells #[.int .u8 (x0 : Nat), .int .u8 (x1 : Nat), .int .u8 (x2 : Nat), .int .u8 (x3 : Nat), .string HS, .int .i64 (pn : Nat)] 41)) := hb'.alloc hb'.size _
                  have hl := HG3.out
                  have hEl := lt_of_some P5.out
                  have hs := hb'.size
                  have zA : (w6.alloc (.cells #[.int .u8 (x0 : Nat), .int .u8 (x1 : Nat), .int .u8 (x2 : Nat), .int .u8 (x3 : Nat), .string HS, .int .i64 (pn : Nat)] 41)).heap[w6.heap.size]? = some (.cells #[.int .u8 (x0 : Nat), .int .u8 (x1 : Nat), .int .u8 (x2 : Nat), .int .u8 (x3 : Nat), .string HS, .int .i64 (pn : Nat)] 41) := alloc_new _ _
                  have z7 : (w6.alloc (.cells #[.int .u8 (x0 : Nat), .int .u8 (x1 : Nat), .int .u8 (x2 : Nat), .int .u8 (x3 : Nat), .string HS, .int .i64 (pn : Nat)] 41)).heap[E]? = some (.cells (badG .ok) 32) := keepB hA P5.out
                  have af := aft_mk (te := te) hA zA hs P5.out R50.out R51.out B5.out HE.out rfl
                  have hst := run_storeCells_row (P := Tryz.prog) E 32 (badG te) (badG .ok) _ z7 ((badG_size _).trans (badG_size _).symm) (badG_one _)
                  refine ⟨_, hst, HKP.out _ (hb'.block g3 hl.1), HKP.out _ (hA.block g3 hl.1), HKP.out _ ?_, ?_, af⟩
                  · rw [setRow_ne _ _ _ _ (by omega)]; exact hA.block g3 hl.1
                  · have h8 := af.e
                    simp only [World.cell?, h8]; exact HBN.out
                have HC2 : Hid (∀ w6, Below (w5.alloc (.cells #[.int .u8 0, .int .u8 0, .int .u8 0, .int .u8 0, .string ⟨#[]⟩, .int .i64 0] 41)).drew.heap.size (w5.alloc (.cells #[.int .u8 0, .int .u8 0, .int .u8 0, .int .u8 0, .string ⟨#[]⟩, .int .i64 0] 41)).drew w6 → ∃ W7 W8, ((((((w6.setCell ⟨w5.heap.size, 0, none⟩ (.int .u8 (x0 : Nat))).setCell ⟨w5.heap.size, 1, none⟩ (.int .u8 (x1 : Nat))).setCell ⟨w5.heap.size, 2, none⟩ (.int .u8 (x2 : Nat))).setCell ⟨w5.heap.size, 3, none⟩ (.int .u8 (x3 : Nat))).setCell ⟨w5.heap.size, 4, none⟩ (.string HS)).setCell ⟨w5.heap.size, 5, none⟩ (.int .i64 (pn : Nat))) = W7 ∧ (storeCells ⟨E, 0, none⟩ (badG te).toList).run Tryz.prog W7 = .ok () W8 ∧ (w6.cell? ⟨g3, y3, none⟩ = some (.string PM) ∧ w6.cell? ⟨g3, y3 + 1, none⟩ = some (.string PT)) ∧ (W7.cell? ⟨g3, y3, none⟩ = some (.string PM) ∧ W7.cell? ⟨g3, y3 + 1, none⟩ = some (.string PT)) ∧ (W8.cell? ⟨g3, y3, none⟩ = some (.string PM) ∧ W8.cell? ⟨g3, y3 + 1, none⟩ = some (.string PT)) ∧ (w6.cell? ⟨w5.heap.size, 0, none⟩ = some (.int .u8 0) ∧ w6.cell? ⟨w5.heap.size, 1, none⟩ = some (.int .u8 0) ∧ w6.cell? ⟨w5.heap.size, 2, none⟩ = some (.int .u8 0) ∧ w6.cell? ⟨w5.heap.size, 3, none⟩ = some (.int .u8 0) ∧ w6.cell? ⟨w5.heap.size, 4, none⟩ = some (.string ⟨#[]⟩) ∧ w6.cell? ⟨w5.heap.size, 5, none⟩ = some (.int .i64 0) ∧ w6.frozen? ⟨w5.heap.size, 0, none⟩ = false ∧ w6.frozen? ⟨w5.heap.size, 1, none⟩ = false ∧ w6.frozen? ⟨w5.heap.size, 2, none⟩ = false ∧ w6.frozen? ⟨w5.heap.size, 3, none⟩ = false ∧ w6.frozen? ⟨w5.heap.size, 4, none⟩ = false ∧ w6.frozen? ⟨w5.heap.size, 5, none⟩ = false) ∧ W8.cell? ⟨E, 0, none⟩ = some (.int .i64 (en : Nat)) ∧ Aft w w5 W8 E w5.heap.size #[.int .u8 (x0 : Nat), .int .u8 (x1 : Nat), .int .u8 (x2 : Nat), .int .u8 (x3 : Nat), .string HS, .int .i64 (pn : Nat)] te) := fun w6 hb => by
                  have h0 : Below w5.heap.size w5 (w5.alloc (.cells #[.int .u8 0, .int .u8 0, .int .u8 0, .int .u8 0, .string ⟨#[]⟩, .int .i64 0] 41)).drew := ((Below.refl _ _).alloc (Nat.le_refl _) _).drew
                  have hA0 : Below w5.heap.size w5 w6 := h0.trans (hb.mono h0.size)
                  have hl := HG3.out
                  have hEl := lt_of_some P5.out
                  have hs := hA0.size
                  have zA0 : w6.heap[w5.heap.size]? = some (.cells z6 41) := keepB hb (show (w5.alloc (.cells #[.int .u8 0, .int .u8 0, .int .u8 0, .int .u8 0, .string ⟨#[]⟩, .int .i64 0] 41)).drew.heap[w5.heap.size]? = some (.cells z6 41) from alloc_new _ _)
                  have hn := set6 zA0 (.int .u8 (x0 : Nat)) (.int .u8 (x1 : Nat)) (.int .u8 (x2 : Nat)) (.int .u8 (x3 : Nat)) (.string HS) (.int .i64 (pn : Nat))
                  obtain ⟨W7, hW7⟩ : ∃ W, ((((((w6.setCell ⟨w5.heap.size, 0, none⟩ (.int .u8 (x0 : Nat))).setCell ⟨w5.heap.size, 1, none⟩ (.int .u8 (x1 : Nat))).setCell ⟨w5.heap.size, 2, none⟩ (.int .u8 (x2 : Nat))).setCell ⟨w5.heap.size, 3, none⟩ (.int .u8 (x3 : Nat))).setCell ⟨w5.heap.size, 4, none⟩ (.string HS)).setCell ⟨w5.heap.size, 5, none⟩ (.int .i64 (pn : Nat))) = W := ⟨_, rfl⟩
                  have hA : Below w5.heap.size w5 W7 := by rw [← hW7]; exact (((((hA0.setCell (by simp) _).setCell (by simp) _).setCell (by simp) _).setCell (by simp) _).setCell (by simp) _).setCell (by simp) _
                  have zA : W7.heap[w5.heap.size]? = some (.cells #[.int .u8 (x0 : Nat), .int .u8 (x1 : Nat), .int .u8 (x2 : Nat), .int .u8 (x3 : Nat), .string HS, .int .i64 (pn : Nat)] 41) := by rw [← hW7]; exact hn
                  have z7 : W7.heap[E]? = some (.cells (badG .ok) 32) := keepB hA P5.out
                  have af := aft_mk (te := te) hA zA (Nat.le_refl _) P5.out R50.out R51.out B5.out HE.out rfl
                  have hst := run_storeCells_row (P := Tryz.prog) E 32 (badG te) (badG .ok) _ z7 ((badG_size _).trans (badG_size _).symm) (badG_one _)
                  refine ⟨W7, _, hW7, hst, HKP.out _ (hA0.block g3 hl.1), HKP.out _ (hA.block g3 hl.1), HKP.out _ ?_, ?_, ?_, af⟩
                  · rw [setRow_ne _ _ _ _ (by omega)]; exact hA.block g3 hl.1
                  · refine ⟨?_, ?_, ?_, ?_, ?_, ?_, ?_, ?_, ?_, ?_, ?_, ?_⟩ <;> simp [World.cell?, World.frozen?, zA0, z6]
                  · have h8 := af.e
                    simp only [World.cell?, h8]; exact HBN.out
                obtain ⟨s20, s21⟩ : (w5.alloc (.cells #[.int .u8 0, .int .u8 0, .int .u8 0, .int .u8 0, .string ⟨#[]⟩, .int .i64 0] 41)).drew.cell? ⟨g3, y3, none⟩ = some (.string PM) ∧ (w5.alloc (.cells #[.int .u8 0, .int .u8 0, .int .u8 0, .int .u8 0, .string ⟨#[]⟩, .int .i64 0] 41)).drew.cell? ⟨g3, y3 + 1, none⟩ = some (.string PT) := HKP.out _ (((Below.refl w5.heap.size w5).alloc (Nat.le_refl _) _).drew.block g3 HG3.out.1)
                have HT1 : Hid (Calls Tryz.prog 48 #[.string PM, .string PT, .int .i64 (AT : Nat)] w5.drew fun e w6 => e = .returned (.tuple #[.agg #[.int .u8 (x0 : Nat), .int .u8 (x1 : Nat), .int .u8 (x2 : Nat), .int .u8 (x3 : Nat), .string HS, .int .i64 (pn : Nat)], .string TP, .agg (badG te)]) ∧ ∃ W8, (storeCells ⟨E, 0, none⟩ (badG te).toList).run Tryz.prog (w6.alloc (.cells #[.int .u8 (x0 : Nat), .int .u8 (x1 : Nat), .int .u8 (x2 : Nat), .int .u8 (x3 : Nat), .string HS, .int .i64 (pn : Nat)] 41)) = .ok () W8 ∧ (w6.cell? ⟨g3, y3, none⟩ = some (.string PM) ∧ w6.cell? ⟨g3, y3 + 1, none⟩ = some (.string PT)) ∧ ((w6.alloc (.cells #[.int .u8 (x0 : Nat), .int .u8 (x1 : Nat), .int .u8 (x2 : Nat), .int .u8 (x3 : Nat), .string HS, .int .i64 (pn : Nat)] 41)).cell? ⟨g3, y3, none⟩ = some (.string PM) ∧ (w6.alloc (.cells #[.int .u8 (x0 : Nat), .int .u8 (x1 : Nat), .int .u8 (x2 : Nat), .int .u8 (x3 : Nat), .string HS, .int .i64 (pn : Nat)] 41)).cell? ⟨g3, y3 + 1, none⟩ = some (.string PT)) ∧ (W8.cell? ⟨g3, y3, none⟩ = some (.string PM) ∧ W8.cell? ⟨g3, y3 + 1, none⟩ = some (.string PT)) ∧ W8.cell? ⟨E, 0, none⟩ = some (.int .i64 (en : Nat)) ∧ Aft w w5 W8 E w6.heap.size #[.int .u8 (x0 : Nat), .int .u8 (x1 : Nat), .int .u8 (x2 : Nat), .int .u8 (x3 : Nat), .string HS, .int .i64 (pn : Nat)] te) := (HTG.out _).mono fun e w6 h => ⟨h.1, HC1.out w6 h.2⟩
                have HT2 : Hid (Calls Tryz.prog 48 #[.string PM, .string PT, .int .i64 (AT : Nat)] (w5.alloc (.cells #[.int .u8 0, .int .u8 0, .int .u8 0, .int .u8 0, .string ⟨#[]⟩, .int .i64 0] 41)).drew fun e w6 => e = .returned (.tuple #[.agg #[.int .u8 (x0 : Nat), .int .u8 (x1 : Nat), .int .u8 (x2 : Nat), .int .u8 (x3 : Nat), .string HS, .int .i64 (pn : Nat)], .string TP, .agg (badG te)]) ∧ ∃ W7 W8, ((((((w6.setCell ⟨w5.heap.size, 0, none⟩ (.int .u8 (x0 : Nat))).setCell ⟨w5.heap.size, 1, none⟩ (.int .u8 (x1 : Nat))).setCell ⟨w5.heap.size, 2, none⟩ (.int .u8 (x2 : Nat))).setCell ⟨w5.heap.size, 3, none⟩ (.int .u8 (x3 : Nat))).setCell ⟨w5.heap.size, 4, none⟩ (.string HS)).setCell ⟨w5.heap.size, 5, none⟩ (.int .i64 (pn : Nat))) = W7 ∧ (storeCells ⟨E, 0, none⟩ (badG te).toList).run Tryz.prog W7 = .ok () W8 ∧ (w6.cell? ⟨g3, y3, none⟩ = some (.string PM) ∧ w6.cell? ⟨g3, y3 + 1, none⟩ = some (.string PT)) ∧ (W7.cell? ⟨g3, y3, none⟩ = some (.string PM) ∧ W7.cell? ⟨g3, y3 + 1, none⟩ = some (.string PT)) ∧ (W8.cell? ⟨g3, y3, none⟩ = some (.string PM) ∧ W8.cell? ⟨g3, y3 + 1, none⟩ = some (.string PT)) ∧ (w6.cell? ⟨w5.heap.size, 0, none⟩ = some (.int .u8 0) ∧ w6.cell? ⟨w5.heap.size, 1, none⟩ = some (.int .u8 0) ∧ w6.cell? ⟨w5.heap.size, 2, none⟩ = some (.int .u8 0) ∧ w6.cell? ⟨w5.heap.size, 3, none⟩ = some (.int .u8 0) ∧ w6.cell? ⟨w5.heap.size, 4, none⟩ = some (.string ⟨#[]⟩) ∧ w6.cell? ⟨w5.heap.size, 5, none⟩ = some (.int .i64 0) ∧ w6.frozen? ⟨w5.heap.size, 0, none⟩ = false ∧ w6.frozen? ⟨w5.heap.size, 1, none⟩ = false ∧ w6.frozen? ⟨w5.heap.size, 2, none⟩ = false ∧ w6.frozen? ⟨w5.heap.size, 3, none⟩ = false ∧ w6.frozen? ⟨w5.heap.size, 4, none⟩ = false ∧ w6.frozen? ⟨w5.heap.size, 5, none⟩ = false) ∧ W8.cell? ⟨E, 0, none⟩ = some (.int .i64 (en : Nat)) ∧ Aft w w5 W8 E w5.heap.size #[.int .u8 (x0 : Nat), .int .u8 (x1 : Nat), .int .u8 (x2 : Nat), .int .u8 (x3 : Nat), .string HS, .int .i64 (pn : Nat)] te) := (HTG.out _).mono fun e w6 h => ⟨h.1, HC2.out w6 h.2⟩
                clear HC1 HC2 HTG
                go_region_held3 (fun w' => w'.cell? ⟨g3, y3, none⟩ = some (.string PM) ∧ w'.cell? ⟨g3, y3 + 1, none⟩ = some (.string PT)) (first | exact ⟨by assumption, by assumption⟩ | go_keep) (first
                  | (go_at_call 48; with_reducible refine HT1.out.mono ?_; rintro e w6 ⟨rfl, W8, hst, ⟨j1, j2⟩, ⟨j5, j6⟩, ⟨j7, j8⟩, hN8, aft⟩; have AF := hide aft; clear aft)
                  | (go_at_call 48; with_reducible refine HT2.out.mono ?_; rintro e w6 ⟨rfl, W7, W8, hnest, hst, ⟨j1, j2⟩, ⟨j5, j6⟩, ⟨j7, j8⟩, ⟨cc0, cc1, cc2, cc3, cc4, cc5, ff0, ff1, ff2, ff3, ff4, ff5⟩, hN8, aft⟩; have AF := hide aft; clear aft))
                all_goals have R80 := hide AF.out.r0
                all_goals have R81 := hide AF.out.r1
                all_goals have P8 := hide AF.out.e
                all_goals have B8 := hide AF.out.b
                all_goals clear AF HKP s20 s21
                all_goals have hlt : w.heap.size + 1 < E := HE.out
                all_goals have k1 : isRow W8 E 10 = true := isRow_of P8.out (badG_size _)
                all_goals have k2 : rowOf W8 E = badG te := rowOf_of P8.out
                all_goals have k3 : canPut 9 44 W8 (.pointer (some ⟨w.heap.size, 0, none⟩)) (.agg #[.string ⟨#[]⟩, .int .u8 0, .int .u8 0, .int .u8 0, .int .u8 0, .string ⟨#[]⟩, .int .i64 0, .string ⟨#[]⟩, .slice none 0 0]) = true := canPut_row R80.out rfl rfl (by simp [Value.oneCell'])
                all_goals obtain ⟨f1, f2, f3, f4⟩ := fin2 R80.out R81.out z9 (badG te)
                all_goals have f5 := f4 w (Nat.le_refl _) B8.out
                all_goals obtain ⟨Wa, hWa⟩ : ∃ W6, W6 = W8.setRow w.heap.size z9 := ⟨_, rfl⟩
                all_goals rw [← hWa] at f1 f2 f3 f4 f5
                all_goals have p6 : Wa.heap[E]? = some (.cells (badG te) 32) := by have := HE.out; rw [hWa, setRow_ne _ _ _ _ (by omega)]; exact P8.out
                all_goals have k5 : isRow Wa E 10 = true := isRow_of p6 (badG_size _)
                all_goals have k6 : rowOf Wa E = badG te := rowOf_of p6
                all_goals have k4 : canPut 10 32 Wa (.pointer (some ⟨w.heap.size + 1, 0, none⟩)) (.agg (badG te)) = true := canPut_row f1 rfl (badG_size _) (badG_one _)
                all_goals have hWa' : W8.setRow w.heap.size #[.string ⟨#[]⟩, .int .u8 0, .int .u8 0, .int .u8 0, .int .u8 0, .string ⟨#[]⟩, .int .i64 0, .string ⟨#[]⟩, .slice none 0 0] = Wa := hWa.symm
                all_goals obtain ⟨Wb, hWb⟩ : ∃ W7, W7 = Wa.setRow (w.heap.size + 1) (badG te) := ⟨_, rfl⟩
                all_goals rw [← hWb] at f2 f3 f5
                all_goals have hWb' : Wa.setRow (w.heap.size + 1) (badG te) = Wb := hWb.symm
                all_goals have F2 := hide f2
                all_goals have F3 := hide f3
                all_goals have F5 := hide f5
                all_goals clear f1 f2 f3 f4 f5 hWb hWa p6
                all_goals go_wp2_with fail
                all_goals go_region
                all_goals (try go_wp2_with fail)
                all_goals refine bodyPost_ret (res_ctc rfl _ _ w.heap.size 44 z9 (0, 0) _ rfl (by exact F2.out) Tryz.underlying44 rfl info44 (w.heap.size + 1) 32 (badG te) (0, 0) _ rfl (by exact F3.out) Tryz.underlying32 rfl (badGI te)) rfl ?_
                all_goals (rw [HR.out]; exact ⟨none, 0, rfl, SrcF.nilS _, F5.out.drew, fun _ _ e => by cases e⟩)
            · have htf : tok pm = false := by simpa using htk
              have HR : Hid (request l = ((noR, []), 0, .one 0 81)) := by
                have e : rline x = (noR, .one 0 81) := by rw [HRLN.out, if_neg (by rw [hve, hlf]; simp), if_pos htf]
                have := HREQ.out (by rw [e]; simp)
                rwa [e] at this
              rw [hlf] at HAL
              rw [hve] at HVE
              rw [htf] at HTK
              clear hln hlf hve htk htf
              go_wp2_with fail
              refine (HAL.out _).mono ?_
              rintro e wq ⟨rfl, rfl⟩
              go_wp2_with fail
              refine (HVE.out _).mono ?_
              rintro e wq ⟨rfl, rfl⟩
              go_wp2_with fail
              refine (HTK.out _).mono ?_
              rintro e w5 ⟨rfl, hb5⟩
              have R50 := hide (keepB hb5 R40.out)
              have R51 := hide (keepB hb5 R41.out)
              have B5 := hide (B4.out.trans (hb5.mono B4.out.size))
              clear hb5 d1' d30 d31 d32
              go_wp2_with fail
              refine (rfaultH_at 0 81 _).mono ?_
              rintro e wf ⟨rfl, hbf⟩
              obtain ⟨f1, f2, f3, f4⟩ := fin2 (keepB hbf R50.out) (keepB hbf R51.out) z9 (badG (.one 0 81))
              have f5 := f4 w (Nat.le_refl _) (B5.out.trans (hbf.mono B5.out.size))
              obtain ⟨Wa, hWa⟩ : ∃ W1, W1 = wf.setRow w.heap.size z9 := ⟨_, rfl⟩
              rw [← hWa] at f1 f2 f3 f4 f5
              obtain ⟨Wb, hWb⟩ : ∃ W2, W2 = Wa.setRow (w.heap.size + 1) (badG (.one 0 81)) := ⟨_, rfl⟩
              rw [← hWb] at f2 f3 f5
              have F0 := hide (keepB hbf R50.out)
              have F1 := hide f1
              have F2 := hide f2
              have F3 := hide f3
              have F5 := hide f5
              have HWa := hide hWa
              have HWb := hide hWb
              clear f1 f2 f3 f4 f5 hWa hWb hbf
              go_wp2_with (first
                | (refine wpList_store_rowW rfl 44 _ _ rfl w.heap.size z9 rfl rfl 44 z9 F0.out info44 rfl z9_one Wa HWa.out ?_)
                | (refine wpList_store_rowW rfl 32 _ _ rfl (w.heap.size + 1) (badG (.one 0 81)) rfl rfl 32 (badC .ok) F1.out (badGI (.one 0 81)) (by simp [badC_size, badG_size]) (badG_one _) Wb HWb.out ?_))
              refine bodyPost_ret (res_ctc rfl _ _ w.heap.size 44 z9 (0, 0) _ rfl F2.out Tryz.underlying44 rfl info44 (w.heap.size + 1) 32 (badG (.one 0 81)) (0, 0) _ rfl F3.out Tryz.underlying32 rfl (badGI (.one 0 81))) rfl ?_
              rw [HR.out]
              exact ⟨none, 0, rfl, SrcF.nilS _, F5.out, fun _ _ e => by cases e⟩
          · have hvf : ver pv = false := by simpa using hve
            have HR : Hid (request l = ((noR, []), 0, .one 0 80)) := by
              have e : rline x = (noR, .one 0 80) := by rw [HRLN.out, if_pos (Or.inl hvf)]
              have := HREQ.out (by rw [e]; simp)
              rwa [e] at this
            rw [hlf] at HAL
            rw [hvf] at HVE
            clear hln hlf hve hvf
            go_wp2_with fail
            refine (HAL.out _).mono ?_
            rintro e wq ⟨rfl, rfl⟩
            go_wp2_with fail
            refine (HVE.out _).mono ?_
            rintro e wq ⟨rfl, rfl⟩
            go_wp2_with fail
            refine (rfaultH_at 0 80 _).mono ?_
            rintro e wf ⟨rfl, hbf⟩
            obtain ⟨f1, f2, f3, f4⟩ := fin2 (keepB hbf R40.out) (keepB hbf R41.out) z9 (badG (.one 0 80))
            have f5 := f4 w (Nat.le_refl _) (B4.out.trans (hbf.mono B4.out.size))
            obtain ⟨Wa, hWa⟩ : ∃ W1, W1 = wf.setRow w.heap.size z9 := ⟨_, rfl⟩
            rw [← hWa] at f1 f2 f3 f4 f5
            obtain ⟨Wb, hWb⟩ : ∃ W2, W2 = Wa.setRow (w.heap.size + 1) (badG (.one 0 80)) := ⟨_, rfl⟩
            rw [← hWb] at f2 f3 f5
            have F0 := hide (keepB hbf R40.out)
            have F1 := hide f1
            have F2 := hide f2
            have F3 := hide f3
            have F5 := hide f5
            have HWa := hide hWa
            have HWb := hide hWb
            clear f1 f2 f3 f4 f5 hWa hWb hbf
            go_wp2_with (first
              | (refine wpList_store_rowW rfl 44 _ _ rfl w.heap.size z9 rfl rfl 44 z9 F0.out info44 rfl z9_one Wa HWa.out ?_)
              | (refine wpList_store_rowW rfl 32 _ _ rfl (w.heap.size + 1) (badG (.one 0 80)) rfl rfl 32 (badC .ok) F1.out (badGI (.one 0 80)) (by simp [badC_size, badG_size]) (badG_one _) Wb HWb.out ?_))
            refine bodyPost_ret (res_ctc rfl _ _ w.heap.size 44 z9 (0, 0) _ rfl F2.out Tryz.underlying44 rfl info44 (w.heap.size + 1) 32 (badG (.one 0 80)) (0, 0) _ rfl F3.out Tryz.underlying32 rfl (badGI (.one 0 80))) rfl ?_
            rw [HR.out]
            exact ⟨none, 0, rfl, SrcF.nilS _, F5.out, fun _ _ e => by cases e⟩
      · have HR : Hid (request l = ((noR, []), 0, .one 0 80)) := by
          have e := rline_not (bln99_not h3)
          show _ = _
          rw [HRQ.out]
          simp only [req, e]
        obtain ⟨n3, hn3⟩ : ∃ m, m = (bln 99 x).length := ⟨_, rfl⟩
        rw [← hn3] at hh4 ⊢
        have q3 : ((n3 : Int) != 3) = true := by simp; omega
        clear hn3 h3 sv3
        go_wp2_with fail
        refine (rfaultH_at 0 80 _).mono ?_
        rintro e wf ⟨rfl, hbf⟩
        obtain ⟨f1, f2, f3, f4⟩ := fin2 (keepB hbf R40.out) (keepB hbf R41.out) z9 (badG (.one 0 80))
        have f5 := f4 w (Nat.le_refl _) (B4.out.trans (hbf.mono B4.out.size))
        obtain ⟨Wa, hWa⟩ : ∃ W1, W1 = wf.setRow w.heap.size z9 := ⟨_, rfl⟩
        rw [← hWa] at f1 f2 f3 f4 f5
        obtain ⟨Wb, hWb⟩ : ∃ W2, W2 = Wa.setRow (w.heap.size + 1) (badG (.one 0 80)) := ⟨_, rfl⟩
        rw [← hWb] at f2 f3 f5
        have F0 := hide (keepB hbf R40.out)
        have F1 := hide f1
        have F2 := hide f2
        have F3 := hide f3
        have F5 := hide f5
        have HWa := hide hWa
        have HWb := hide hWb
        clear f1 f2 f3 f4 f5 hWa hWb hbf
        go_wp2_with (first
          | (refine wpList_store_rowW rfl 44 _ _ rfl w.heap.size z9 rfl rfl 44 z9 F0.out info44 rfl z9_one Wa HWa.out ?_)
          | (refine wpList_store_rowW rfl 32 _ _ rfl (w.heap.size + 1) (badG (.one 0 80)) rfl rfl 32 (badC .ok) F1.out (badGI (.one 0 80)) (by simp [badC_size, badG_size]) (badG_one _) Wb HWb.out ?_))
        refine bodyPost_ret (res_ctc rfl _ _ w.heap.size 44 z9 (0, 0) _ rfl F2.out Tryz.underlying44 rfl info44 (w.heap.size + 1) 32 (badG (.one 0 80)) (0, 0) _ rfl F3.out Tryz.underlying32 rfl (badGI (.one 0 80))) rfl ?_
        rw [HR.out]
        exact ⟨none, 0, rfl, SrcF.nilS _, F5.out, fun _ _ e => by cases e⟩
  · have hrq := request_short hno
    rw [her] at hrq
    have HR := hide hrq
    rw [show enE l = (0, .one ac cc) by rw [← hz, ← her]] at HEN
    clear hno hz her hrq
    go_enter Tryz.func14, Tryz.ntmps14
    go_wp2_with fail
    rw [HW0.out]
    refine HEN.out.mono ?_
    rintro e w1 ⟨rfl, hb1⟩
    obtain ⟨E, hE⟩ : ∃ E, E = w1.heap.size := ⟨_, rfl⟩
    obtain ⟨W2, hW2⟩ : ∃ W, W = (w1.alloc (.cells (badC .ok) 32)).setRow E (badG (.one ac cc)) := ⟨_, rfl⟩
    have z2 : (w1.alloc (.cells (badC .ok) 32)).heap[E]? = some (.cells (badC .ok) 32) := by rw [hE]; exact alloc_new _ _
    have b2 : Below w1.heap.size w1 W2 := by rw [hW2]; exact below_setRow ((Below.refl _ _).alloc (Nat.le_refl _) _) (by omega) _
    have p2 : W2.heap[E]? = some (.cells (badG (.one ac cc)) 32) := by rw [hW2]; exact setRow_heap _ _ _ _ _ z2
    have R20 := hide (keepB b2 (keepB hb1 R00.out))
    have R21 := hide (keepB b2 (keepB hb1 R01.out))
    have B2 : Hid (Below w.heap.size w W2) := (B0.out.trans (hb1.mono B0.out.size)).trans (b2.mono (B0.out.trans (hb1.mono B0.out.size)).size)
    have HE : Hid (w.heap.size + 1 < E) := by rw [hE]; exact lt_of_some (keepB hb1 R01.out)
    have hN2 : W2.cell? ⟨E, 0, none⟩ = some (.int .i64 1) := by simp only [World.cell?, p2]; rfl
    have Z2 := hide z2
    have P2 := hide p2
    have HW2 := hide hW2
    have HEE := hide hE.symm
    have hlt : w.heap.size + 1 < E := HE.out
    clear b2 p2 z2 hb1 hW2 hE HEN S0 B0 R00 R01
    have k1 : isRow W2 E 10 = true := isRow_of P2.out (badG_size _)
    have k2 : rowOf W2 E = badG (.one ac cc) := rowOf_of P2.out
    have k3 : canPut 9 44 W2 (.pointer (some ⟨w.heap.size, 0, none⟩)) (.agg #[.string ⟨#[]⟩, .int .u8 0, .int .u8 0, .int .u8 0, .int .u8 0, .string ⟨#[]⟩, .int .i64 0, .string ⟨#[]⟩, .slice none 0 0]) = true := canPut_row R20.out rfl rfl (by simp [Value.oneCell'])
    obtain ⟨f1, f2, f3, f4⟩ := fin2 R20.out R21.out z9 (badG (.one ac cc))
    have f5 := f4 w (Nat.le_refl _) B2.out
    obtain ⟨Wa, hWa⟩ : ∃ W6, W6 = W2.setRow w.heap.size z9 := ⟨_, rfl⟩
    rw [← hWa] at f1 f2 f3 f4 f5
    have p6 : Wa.heap[E]? = some (.cells (badG (.one ac cc)) 32) := by have := HE.out; rw [hWa, setRow_ne _ _ _ _ (by omega)]; exact P2.out
    have k5 : isRow Wa E 10 = true := isRow_of p6 (badG_size _)
    have k6 : rowOf Wa E = badG (.one ac cc) := rowOf_of p6
    have k4 : canPut 10 32 Wa (.pointer (some ⟨w.heap.size + 1, 0, none⟩)) (.agg (badG (.one ac cc))) = true := canPut_row f1 rfl (badG_size _) (badG_one _)
    have hWa' : W2.setRow w.heap.size #[.string ⟨#[]⟩, .int .u8 0, .int .u8 0, .int .u8 0, .int .u8 0, .string ⟨#[]⟩, .int .i64 0, .string ⟨#[]⟩, .slice none 0 0] = Wa := hWa.symm
    obtain ⟨Wb, hWb⟩ : ∃ W7, W7 = Wa.setRow (w.heap.size + 1) (badG (.one ac cc)) := ⟨_, rfl⟩
    rw [← hWb] at f2 f3 f5
    have hWb' : Wa.setRow (w.heap.size + 1) (badG (.one ac cc)) = Wb := hWb.symm
    have F2 := hide f2
    have F3 := hide f3
    have F5 := hide f5
    clear f1 f2 f3 f4 f5 hWb hWa p6
    go_wp2_with (first | (rw [HEE.out]) | (refine wpList_store_rowW rfl 32 _ _ rfl E (badG (.one ac cc)) rfl rfl 32 (badC .ok) Z2.out (badGI (.one ac cc)) (by simp [badC_size, badG_size]) (badG_one _) W2 HW2.out ?_))
    go_region
    all_goals (try go_wp2_with fail)
    all_goals refine bodyPost_ret (res_ctc rfl _ _ w.heap.size 44 z9 (0, 0) _ rfl (by exact F2.out) Tryz.underlying44 rfl info44 (w.heap.size + 1) 32 (badG (.one ac cc)) (0, 0) _ rfl (by exact F3.out) Tryz.underlying32 rfl (badGI (.one ac cc))) rfl ?_
    all_goals (rw [HR.out]; exact ⟨none, 0, rfl, SrcF.nilS _, F5.out.drew, fun _ _ e => by cases e⟩)
end Go.Proofs.YthbnbnfhbkekpaaGreatDoor
