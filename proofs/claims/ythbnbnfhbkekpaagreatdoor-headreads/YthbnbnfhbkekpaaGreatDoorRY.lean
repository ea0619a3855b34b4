/-
  The reference's readers: Reply; conditions as each theorem has them.
-/
import Derived.Test.YthbnbnfhbkekpaaGreatDoorRZ
import Derived.Test.YthbnbnfhbkekpaaGreatDoorRG
import Derived.Test.YthbnbnfhbkekpaaGreatDoorRF
set_option linter.unusedSimpArgs false
set_option linter.unusedVariables false
namespace Go.Proofs.YthbnbnfhbkekpaaGreatDoor
open Go.RowKit
theorem run_opst51 (ρ : Operand → Value) (dst : Option Tmp) (x y : Operand) (ty : TypeId) (pos : String) (after : Array Edge) (guard : Option (Nat × Bool)) (w : World) (h : canPut 3 51 w (ρ x) (ρ y) = true) :
    (execOp ρ { dst, op := .store 51 x y, type := ty, pos, after, guard }).run Tryz.prog w = .ok .skip (putAt w (ρ x) (ρ y)) := by
  unfold canPut at h
  split at h
  · rename_i g cs e1 e2
    simp only [Bool.and_eq_true, beq_iff_eq] at h
    obtain ⟨⟨h0, h1⟩, h3⟩ := h
    split at h0
    · rename_i old t' hg
      simp only [Bool.and_eq_true, beq_iff_eq] at h0
      have := run_storeVar_row (P := Tryz.prog) w g t' 51 old cs hg (by rw [h1]; exact info51) (by omega) h3
      unfold execOp
      simp only [e1, e2, Instr.storeAt, Instr.sureAddr, Sem.run_bind, Sem.run_pure, Result.andThen_ok, this, putAt]
    · cases h0
  · cases h
attribute [local go_sem ↓] run_op32 run_opst32 run_opst51 Go.wp_at_zero Go.wp_at_succ
attribute [local go_sem] rowOf_drew isRow_drew arrAt_ptr isAt_ptr putAt_ptr canPut_drew setRow_drew
set_option maxRecDepth 100000 in
set_option maxHeartbeats 64000000 in
theorem rreply_at (a : Option Addr) (n c : Nat) (l : List Nat) (w : World) (h : Src w a n c l) : Calls Tryz.prog 17 #[.slice a n c] w fun e w' => ∃ ad cap, e = .returned (.tuple #[.agg (ryC (reply l).1.1 (.slice ad (reply l).1.2.length cap)), .int .i64 ((reply l).2.1 : Nat), .agg (badG (reply l).2.2)]) ∧ SrcF w' ad (reply l).1.2.length cap (reply l).1.2 ∧ Below w.heap.size w w' ∧ (∀ b o, ad = some ⟨b, o, none⟩ → w.heap.size ≤ b) := by
  have b0 : Below w.heap.size w ((w.alloc (.cells z3 51)).alloc (.cells (badC .ok) 32)) := ((Below.refl _ _).alloc (Nat.le_refl _) _).alloc (by simp) _
  have s0 := h.below b0
  obtain ⟨W0, hW0⟩ : ∃ W0, W0 = (w.alloc (.cells z3 51)).alloc (.cells (badC .ok) 32) := ⟨_, rfl⟩
  rw [← hW0] at b0 s0
  have R00 : Hid (W0.heap[w.heap.size]? = some (.cells z3 51)) := by rw [hW0]; exact alloc_old _ (alloc_new _ _)
  have R01 : Hid (W0.heap[w.heap.size + 1]? = some (.cells (badC .ok) 32)) := by rw [hW0]; exact alloc_new2 _ _ _
  have HW0 : Hid ((w.alloc (.cells #[.int .i64 0, .string ⟨#[]⟩, .slice none 0 0] 51)).alloc (.cells #[.int .i64 0, .string ⟨#[]⟩, .string ⟨#[]⟩, .string ⟨#[]⟩, .string ⟨#[]⟩, .int .i64 0, .int .i64 0, .int .i64 0, .int .i64 0, .int .i64 0] 32) = W0) := hW0.symm
  have HEN := hide (rend_at a n c l W0 s0)
  have B0 := hide b0
  have S0 := hide s0
  have hcl := h.hcap
  have hmx := h.hmax
  unfold maxLen at hmx
  have HNL := hide h.hlen
  clear b0 s0 hW0 h
  rcases enE_two l with ⟨hok, ls, hls, htot⟩ | ⟨hno, hz, ac, cc, her⟩
  · have hen : enE l = (tot ls, .ok) := by rw [← htot, ← hok]
    rw [hen] at HEN
    obtain ⟨k, hk⟩ : ∃ k, k = tot ls := ⟨_, rfl⟩
    rw [← hk] at HEN
    obtain ⟨hpre, hLn, ht8, htl⟩ := hd_some hls
    rw [← hk] at ht8 htl
    have hk2 : 2 ≤ k := by rw [hk]; exact tot_ge ls
    have hkn : k ≤ n := by rw [← HNL.out]; exact htl
    have htk : l.take k = fl ls := by rw [hk]; exact hd_take hls
    have HLB : Hid (∀ x ∈ l, x < 256) := S0.out.byte
    have hfk : (fl ls).length = k := hk.symm
    have HTBB : Hid (∀ c ∈ fl ls, c < 256) := fun c hc => HLB.out c (by rw [← htk] at hc; exact List.mem_of_mem_take hc)
    have HRQ : Hid (reply l = match rep ls with
        | (q, .ok) => (q, k, .ok)
        | (_, e) => (((0, []), []), 0, e)) := by show _ = _; unfold reply; rw [hls, hk]; rfl
    obtain ⟨T, hT⟩ : ∃ T, T = strN (l.take k) := ⟨_, rfl⟩
    have hTb : byt T = fl ls := by rw [hT, htk]; exact byt_strN _ HTBB.out
    have hTs : T.size = k := by rw [← byt_length, hTb]; exact hfk
    have HLI : Hid (∀ W, Calls Tryz.prog 44 #[.string T] W fun e w' => ∃ a1 c1 a2 c2, e = .returned (.tuple #[.slice a1 ls.length c1, .slice a2 ls.length c2]) ∧ SrcV w' a1 ls.length c1 (strs ls) ∧ SrcV w' a2 ls.length c2 (ints (begs 0 ls)) ∧ (∀ b o, a1 = some ⟨b, o, none⟩ → W.heap.size ≤ b) ∧ (∀ b o, a2 = some ⟨b, o, none⟩ → W.heap.size ≤ b) ∧ Below W.heap.size W w') := fun W => rlines2_at T ls W (by rw [hTs]; exact ht8) hTb (fun x hx => (hLn x hx).2)
    have HTT : Hid (strN (l.take k) = T) := hT.symm
    have HFK := hide hfk
    clear hok htot hen hpre hk htk hls hLn hfk hTb hTs hT
    go_enter Tryz.func17, Tryz.ntmps17
    go_wp2_with fail
    rw [HW0.out]
    refine HEN.out.mono ?_
    rintro e w1 ⟨rfl, hb1⟩
    obtain ⟨E, hE⟩ : ∃ E, E = w1.heap.size := ⟨_, rfl⟩
    obtain ⟨W2, hW2⟩ : ∃ W, W = (w1.alloc (.cells (badC .ok) 32)).setRow E (badG .ok) := ⟨_, rfl⟩
    have z2 : (w1.alloc (.cells (badC .ok) 32)).heap[E]? = some (.cells (badC .ok) 32) := by rw [hE]; exact alloc_new _ _
    have b2 : Below w1.heap.size w1 W2 := by rw [hW2]; exact below_setRow ((Below.refl _ _).alloc (Nat.le_refl _) _) (by omega) _
    have p2 : W2.heap[E]? = some (.cells (badG .ok) 32) := by rw [hW2]; exact setRow_heap _ _ _ _ _ z2
    have R20 := hide (keepB b2 (keepB hb1 R00.out))
    have R21 := hide (keepB b2 (keepB hb1 R01.out))
    have B2 : Hid (Below w.heap.size w W2) := (B0.out.trans (hb1.mono B0.out.size)).trans (b2.mono (B0.out.trans (hb1.mono B0.out.size)).size)
    have HE : Hid (w.heap.size + 1 < E) := by rw [hE]; exact lt_of_some (keepB hb1 R01.out)
    have s2 := (S0.out.below hb1).below b2
    obtain ⟨bb, oo, rfl, hbb, hcel⟩ := s2.lies (by omega)
    have hstr := run_str W2 bb oo k c (l.take k) (by rw [List.length_take, HNL.out]; omega) (fun i hi => by rw [hcel i (by omega)]; simp [List.getD, List.getElem?_take, hi])
    rw [HTT.out] at hstr
    have hN2 : W2.cell? ⟨E, 0, none⟩ = some (.int .i64 0) := by simp only [World.cell?, p2]; rfl
    have Z2 := hide z2
    have P2 := hide p2
    have HW2 := hide hW2
    have HEE := hide hE.symm
    clear b2 p2 z2 hb1 hbb hcel s2 hW2 hE HEN S0 B0 R00 R01
    go_wp2_with (first
      | (rw [HEE.out])
      | (refine wpList_store_rowW rfl 32 _ _ rfl E (badG .ok) rfl rfl 32 (badC .ok) Z2.out (badGI .ok) (by simp [badC_size, badG_size]) (badG_one _) W2 HW2.out ?_))
    refine (HLI.out _).mono ?_
    rintro e w3 ⟨a1, c1, a2, c2, rfl, sv1, sv2, fr1, fr2, hb3⟩
    have HF1 : Hid (∀ b o, a1 = some ⟨b, o, none⟩ → E < b) := fun b o e => by have h1 := fr1 b o e; have h2 := lt_of_some P2.out; omega
    have HF2 : Hid (∀ b o, a2 = some ⟨b, o, none⟩ → E < b) := fun b o e => by have h1 := fr2 b o e; have h2 := lt_of_some P2.out; omega
    have R30 := hide (keepB hb3 R20.out)
    have R31 := hide (keepB hb3 R21.out)
    have P3 := hide (keepB hb3 P2.out)
    have B3 := hide (B2.out.trans (hb3.mono B2.out.size))
    clear hb3 R20 R21 P2 B2 hN2 hstr HLI fr1 fr2
    cases ls with
    | nil =>
      have HR : Hid (reply l = (((0, []), []), 0, .one 0 80)) := by show _ = _; rw [HRQ.out]; rfl
      simp only [List.length_nil]
      go_wp2_with fail
      refine (rfaultH_at 0 80 _).mono ?_
      rintro e wf ⟨rfl, hbf⟩
      obtain ⟨f1, f2, f3, f4⟩ := fin2 (keepB hbf R30.out) (keepB hbf R31.out) z3 (badG (.one 0 80))
      have f5 := f4 w (Nat.le_refl _) (B3.out.trans (hbf.mono B3.out.size))
      obtain ⟨Wa, hWa⟩ : ∃ W1, W1 = wf.setRow w.heap.size z3 := ⟨_, rfl⟩
      rw [← hWa] at f1 f2 f3 f4 f5
      obtain ⟨Wb, hWb⟩ : ∃ W2, W2 = Wa.setRow (w.heap.size + 1) (badG (.one 0 80)) := ⟨_, rfl⟩
      rw [← hWb] at f2 f3 f5
      have F0 := hide (keepB hbf R30.out)
      have F1 := hide f1
      have F2 := hide f2
      have F3 := hide f3
      have F5 := hide f5
      have HWa := hide hWa
      have HWb := hide hWb
      clear f1 f2 f3 f4 f5 hWa hWb hbf
      go_wp2_with (first
        | (refine wpList_store_rowW rfl 51 _ _ rfl w.heap.size z3 rfl rfl 51 z3 F0.out info51 rfl z3_one Wa HWa.out ?_)
        | (refine wpList_store_rowW rfl 32 _ _ rfl (w.heap.size + 1) (badG (.one 0 80)) rfl rfl 32 (badC .ok) F1.out (badGI (.one 0 80)) (by simp [badC_size, badG_size]) (badG_one _) Wb HWb.out ?_))
      refine bodyPost_ret (res_ctc rfl _ _ w.heap.size 51 z3 (0, 0) _ rfl F2.out Tryz.underlying51 rfl info51 (w.heap.size + 1) 32 (badG (.one 0 80)) (0, 0) _ rfl F3.out Tryz.underlying32 rfl (badGI (.one 0 80))) rfl ?_
      rw [HR.out]
      exact ⟨none, 0, rfl, SrcF.nilS _, F5.out, fun _ _ e => by cases e⟩
    | cons x r =>
      obtain ⟨X, hX⟩ : ∃ X, X = strN x := ⟨_, rfl⟩
      have hxb : ∀ y ∈ x, y < 256 := fun y hy => HTBB.out y (by rw [fl_cons]; simp [hy])
      have hx8 : x.length + 2 ≤ k := by rw [← HFK.out, fl_cons]; simp
      have hrb : ∀ y ∈ r, (∀ z ∈ y, z < 256) ∧ y.length ≤ 8192 := fun y hy => by
        refine ⟨fun z hz => HTBB.out z (by rw [fl_cons]; simp [fl_mem hy hz]), ?_⟩
        have h1 := tot_drop (ls := x :: r) (x := y) (by simp [hy])
        rw [HFK.out] at h1; omega
      have hXb : byt X = x := by rw [hX]; exact byt_strN x hxb
      have hXs : X.size = x.length := by rw [hX, strN_size]
      obtain ⟨n1, hn1⟩ : ∃ n1, n1 = (x :: r).length := ⟨_, rfl⟩
      have hn1' : n1 = r.length + 1 := by rw [hn1]; rfl
      rw [← hn1] at sv1 sv2 ⊢
      have qn1 : ((n1 : Int) == 0) = false := by simp; omega
      have qn0 : (0 : Int) < (n1 : Int) := by omega
      have qn0' : 0 < n1 := by omega
      obtain ⟨g1, y1, rfl, lg1, d1⟩ := sv1.at_ (Below.refl _ _) (i := 0) (u := .string X) (by rw [hX]; rfl)
      rw [Nat.add_zero] at d1
      have SV1 := hide sv1
      have SV2 := hide sv2
      have HCUT : Hid (∀ W, Calls Tryz.prog 45 #[.string X, .int .i64 3] W fun e w' => ∃ o, e = .returned o ∧ Own w' W.heap.size 9 o (strs (bln 3 x)) ∧ Below W.heap.size W w') := fun W => by
        have := rcut_at X 2 W (by rw [hXs]; omega) (by omega)
        rw [hXb] at this; exact this
      have HAL : Hid (∀ W, Calls Tryz.prog 46 #[.string X] W fun e w' => e = .returned (.bool (lone x)) ∧ W = w') := fun W => by
        have := raloneH_at X W (by rw [hXs]; omega)
        rwa [hXb] at this
      have HXB := hide hxb
      have HRB := hide hrb
      have HN1 := hide hn1'
      clear hX hxb hrb hXb hXs hn1 hn1' sv1 sv2 lg1
      go_wp2_with fail
      refine (HCUT.out _).mono ?_
      rintro e w4 ⟨o4, rfl, ow4, hb4⟩
      obtain ⟨a3, c3, rfl, sv3, _⟩ := own_srcVV ow4
      have HOF : Hid (∀ b o, a3 = some ⟨b, o, none⟩ → w3.heap.size ≤ b) := fun b o e => own_fresh ow4 (by rw [e])
      have HP3 : Hid (E < w3.heap.size) := lt_of_some P3.out
      rw [strs_length] at sv3 ⊢
      have d1' := (hb4.cell (lt_of_cell d1)).trans d1
      have R40 := hide (keepB hb4 R30.out)
      have R41 := hide (keepB hb4 R31.out)
      have P4 := hide (keepB hb4 P3.out)
      have B4 := hide (B3.out.trans (hb4.mono B3.out.size))
      have V1 := hide (SV1.out.below hb4)
      have V2 := hide (SV2.out.below hb4)
      have hh3 := sv3.hmax
      have hh4 := sv3.hcap
      unfold maxLen at hh3
      clear d1 R30 R31 P3 B3 SV1 SV2 HCUT ow4 hb4
      by_cases h3 : (bln 3 x).length = 3
      · obtain ⟨pv, pc, pr, hb3⟩ := len3 h3
        rw [hb3] at sv3 hh4 ⊢
        obtain ⟨g3, y3, rfl, lg3, d30⟩ := sv3.at_ (Below.refl _ _) (i := 0) (u := .string (strN pv)) rfl
        obtain ⟨g3', y3', he3, _, d31⟩ := sv3.at_ (Below.refl _ _) (i := 1) (u := .string (strN pc)) rfl
        simp only [Option.some.injEq, Addr.mk.injEq, and_true] at he3
        obtain ⟨rfl, rfl⟩ := he3
        obtain ⟨g3', y3', he3, _, d32⟩ := sv3.at_ (Below.refl _ _) (i := 2) (u := .string (strN pr)) rfl
        simp only [Option.some.injEq, Addr.mk.injEq, and_true] at he3
        obtain ⟨rfl, rfl⟩ := he3
        rw [Nat.add_zero] at d30
        have FG3 : Hid (E < g3) := by have h1 := HOF.out g3 y3 rfl; have h2 := HP3.out; show E < g3; omega
        have hmem : ∀ p ∈ [pv, pc, pr], (∀ y ∈ p, y < 256) ∧ p.length ≤ x.length := fun p hp => by
          have := bln_mem 3 x p (by rw [hb3]; exact hp)
          exact ⟨fun y hy => HXB.out y (this.1 y hy), this.2⟩
        obtain ⟨PV, hPV⟩ : ∃ S, S = strN pv := ⟨_, rfl⟩
        obtain ⟨PC, hPC⟩ : ∃ S, S = strN pc := ⟨_, rfl⟩
        obtain ⟨PR, hPR⟩ : ∃ S, S = strN pr := ⟨_, rfl⟩
        rw [← hPV] at d30
        rw [← hPC] at d31
        rw [← hPR] at d32
        have hPVb : byt PV = pv := by rw [hPV]; exact byt_strN _ (hmem pv (by simp)).1
        have hPCb : byt PC = pc := by rw [hPC]; exact byt_strN _ (hmem pc (by simp)).1
        have hPRb : byt PR = pr := by rw [hPR]; exact byt_strN _ (hmem pr (by simp)).1
        have HVE : Hid (∀ W, Calls Tryz.prog 47 #[.string PV] W fun e w' => e = .returned (.bool (ver pv)) ∧ W = w') := fun W => by
          have := rversion_at PV W
          rwa [hPVb] at this
        have HPL : Hid (∀ W, Calls Tryz.prog 51 #[.string PR, .int .u8 32, .int .i64 256] W fun e w' => e = .returned (.bool (reason pr)) ∧ W = w') := fun W => by
          have := rplain_at PR 32 256 W (by rw [hPR, strN_size]; unfold maxLen; have := (hmem pr (by simp)).2; omega)
          rw [hPRb] at this; exact this
        have HWH : Hid (∀ W, Calls Tryz.prog 52 #[.string PC, .int .i64 3] W fun e w' => e = .returned (two (wh pc 3)) ∧ W = w') := fun W => by
          have := whole_at PC 3 W (by rw [hPC, strN_size]; unfold maxLen; have := (hmem pc (by simp)).2; omega) (by omega)
          rw [hPCb] at this; exact this
        have HPR := hide hPR
        have HYT : Hid (yline x = if ver pv = false ∨ reason pr = false then ((0, []), .one 0 80) else match stat pc with
            | none => ((0, []), .one 0 80)
            | some n => ((n, pr), .ok)) := yline_three hb3
        clear h3 hb3 hmem hPV hPC hPR hPVb hPCb hPRb lg3 sv3
        simp only [List.length_cons, List.length_nil] at hh4 ⊢
        by_cases hln : lone x = true
        · have HR : Hid (reply l = (((0, []), []), 0, .one 0 80)) := by
            have e : yline x = ((0, []), .one 0 80) := yline_lone hln
            show _ = _
            rw [HRQ.out]
            simp only [rep, e]
          rw [hln] at HAL
          clear hln
          go_wp2_with fail
          refine (HAL.out _).mono ?_
          rintro e wq ⟨rfl, rfl⟩
          go_wp2_with fail
          refine (rfaultH_at 0 80 _).mono ?_
          rintro e wf ⟨rfl, hbf⟩
          obtain ⟨f1, f2, f3, f4⟩ := fin2 (keepB hbf R40.out) (keepB hbf R41.out) z3 (badG (.one 0 80))
          have f5 := f4 w (Nat.le_refl _) (B4.out.trans (hbf.mono B4.out.size))
          obtain ⟨Wa, hWa⟩ : ∃ W1, W1 = wf.setRow w.heap.size z3 := ⟨_, rfl⟩
          rw [← hWa] at f1 f2 f3 f4 f5
          obtain ⟨Wb, hWb⟩ : ∃ W2, W2 = Wa.setRow (w.heap.size + 1) (badG (.one 0 80)) := ⟨_, rfl⟩
          rw [← hWb] at f2 f3 f5
          have F0 := hide (keepB hbf R40.out)
          have F1 := hide f1
          have F2 := hide f2
          have F3 := hide f3
          have F5 := hide f5
          have HWa := hide hWa
          have HWb := hide hWb
          clear f1 f2 f3 f4 f5 hWa hWb hbf
          go_wp2_with (first
            | (refine wpList_store_rowW rfl 51 _ _ rfl w.heap.size z3 rfl rfl 51 z3 F0.out info51 rfl z3_one Wa HWa.out ?_)
            | (refine wpList_store_rowW rfl 32 _ _ rfl (w.heap.size + 1) (badG (.one 0 80)) rfl rfl 32 (badC .ok) F1.out (badGI (.one 0 80)) (by simp [badC_size, badG_size]) (badG_one _) Wb HWb.out ?_))
          refine bodyPost_ret (res_ctc rfl _ _ w.heap.size 51 z3 (0, 0) _ rfl F2.out Tryz.underlying51 rfl info51 (w.heap.size + 1) 32 (badG (.one 0 80)) (0, 0) _ rfl F3.out Tryz.underlying32 rfl (badGI (.one 0 80))) rfl ?_
          rw [HR.out]
          exact ⟨none, 0, rfl, SrcF.nilS _, F5.out, fun _ _ e => by cases e⟩
        · have hlf : lone x = false := by simpa using hln
          rw [hlf] at HAL
          clear hln hlf
          by_cases hve : ver pv = true
          · by_cases hre : reason pr = true
            · have HYS : Hid (yline x = match stat pc with
                | none => ((0, []), .one 0 80)
                | some n => ((n, pr), .ok)) := by show _ = _; rw [HYT.out, if_neg (by rw [hve, hre]; simp)]
              rw [hve] at HVE
              rw [hre] at HPL
              clear hve hre HYT
              cases hwh : wh pc 3 with
              | none =>
                have hst : stat pc = none := by rw [wh_stat, hwh]
                have HR : Hid (reply l = (((0, []), []), 0, .one 0 80)) := by
                  have e : yline x = ((0, []), .one 0 80) := by rw [HYS.out, hst]
                  show _ = _
                  rw [HRQ.out]
                  simp only [rep, e]
                rw [hwh] at HWH
                simp only [two, Option.getD_none, Option.isSome_none] at HWH
                clear hwh hst
                go_wp2_with fail
                refine (HAL.out _).mono ?_
                rintro e wq ⟨rfl, rfl⟩
                go_wp2_with fail
                refine (HVE.out _).mono ?_
                rintro e wq ⟨rfl, rfl⟩
                go_wp2_with fail
                refine (HPL.out _).mono ?_
                rintro e wq ⟨rfl, rfl⟩
                go_wp2_with fail
                refine (HWH.out _).mono ?_
                rintro e wq ⟨rfl, rfl⟩
                go_wp2_with fail
                refine (rfaultH_at 0 80 _).mono ?_
                rintro e wf ⟨rfl, hbf⟩
                obtain ⟨f1, f2, f3, f4⟩ := fin2 (keepB hbf R40.out) (keepB hbf R41.out) z3 (badG (.one 0 80))
                have f5 := f4 w (Nat.le_refl _) (B4.out.trans (hbf.mono B4.out.size))
                obtain ⟨Wa, hWa⟩ : ∃ W1, W1 = wf.setRow w.heap.size z3 := ⟨_, rfl⟩
                rw [← hWa] at f1 f2 f3 f4 f5
                obtain ⟨Wb, hWb⟩ : ∃ W2, W2 = Wa.setRow (w.heap.size + 1) (badG (.one 0 80)) := ⟨_, rfl⟩
                rw [← hWb] at f2 f3 f5
                have F0 := hide (keepB hbf R40.out)
                have F1 := hide f1
                have F2 := hide f2
                have F3 := hide f3
                have F5 := hide f5
                have HWa := hide hWa
                have HWb := hide hWb
                clear f1 f2 f3 f4 f5 hWa hWb hbf
                go_wp2_with (first
                  | (refine wpList_store_rowW rfl 51 _ _ rfl w.heap.size z3 rfl rfl 51 z3 F0.out info51 rfl z3_one Wa HWa.out ?_)
                  | (refine wpList_store_rowW rfl 32 _ _ rfl (w.heap.size + 1) (badG (.one 0 80)) rfl rfl 32 (badC .ok) F1.out (badGI (.one 0 80)) (by simp [badC_size, badG_size]) (badG_one _) Wb HWb.out ?_))
                refine bodyPost_ret (res_ctc rfl _ _ w.heap.size 51 z3 (0, 0) _ rfl F2.out Tryz.underlying51 rfl info51 (w.heap.size + 1) 32 (badG (.one 0 80)) (0, 0) _ rfl F3.out Tryz.underlying32 rfl (badGI (.one 0 80))) rfl ?_
                rw [HR.out]
                exact ⟨none, 0, rfl, SrcF.nilS _, F5.out, fun _ _ e => by cases e⟩
              | some cn =>
                rw [hwh] at HWH
                simp only [two, Option.getD_some, Option.isSome_some] at HWH
                by_cases h1 : 100 ≤ cn
                · by_cases h2 : cn ≤ 599
                  · have HYL : Hid (yline x = ((cn, pr), .ok)) := by
                      have hst : stat pc = some cn := by rw [wh_stat, hwh]; simp [h1, h2]
                      show _ = _
                      rw [HYS.out, hst]
                    have p1 : decide ((cn : Int) < 100) = false := decide_eq_false (by omega)
                    have p1' : decide (cn < 100) = false := decide_eq_false (by omega)
                    have p2 : decide (599 < (cn : Int)) = false := decide_eq_false (by omega)
                    have p2' : decide (599 < cn) = false := decide_eq_false (by omega)
                    clear hwh HYS h1 h2
                    obtain ⟨fs, fe, hfs⟩ : ∃ f e, flds (x.length + 2) r [] = (f, e) := ⟨_, _, rfl⟩
                    obtain ⟨L, hL⟩ : ∃ L, L = fs.length := ⟨_, rfl⟩
                    have HLF := hide hL
                    clear hL
                    obtain ⟨z1, r1, r1', t1⟩ := run_tailV2 91 und91 size91 (some ⟨g1, y1, none⟩) n1 c1 V1.out.hcap (by omega)
                    obtain ⟨z2, r2, r2', t2⟩ := run_tailV2 92 und92 size92 a2 n1 c2 V2.out.hcap (by omega)
                    have HFD : Hid (∀ W, SrcV W (some ⟨g1, y1, none⟩) n1 c1 (strs (x :: r)) → SrcV W a2 n1 c2 (ints (begs 0 (x :: r))) → Calls Tryz.prog 49 #[.slice z1 (n1 - 1) (c1 - 1), .slice z2 (n1 - 1) (c2 - 1)] W fun e w' => ∃ v, e = .returned (.tuple #[v, .agg (badG fe)]) ∧ OwnF w' W.heap.size v fs ∧ Below W.heap.size W w') := fun W h1 h2 => by
                      have hq := rfields_at (x.length + 2) (n1 - 1) r z1 z2 (c1 - 1) (c2 - 1) W (t1 W _ h1) (by have := t2 W _ h2; rw [begs] at this; simpa [ints] using this) (fun y hy => (HRB.out y hy).1) (fun y hy => (HRB.out y hy).2)
                      rwa [hfs] at hq
                    have hokb : okB fs := by
                      have := flds_byte r (x.length + 2) [] (fun y hy => (HRB.out y hy).1) (by intro f hf; simp at hf)
                      rw [hfs] at this; exact this
                    have HOKB := hide hokb
                    have HFP : Hid (fe ≠ .ok → 0 < hrN fe) := fun h => by have := flds_pos r (x.length + 2) [] (by rw [hfs]; exact h); rw [hfs] at this; exact this
                    have HREQ2 : Hid (reply l = match (fs, fe) with
                        | (f, .ok) => (((cn, pr), f), k, .ok)
                        | (_, e) => (((0, []), []), 0, e)) := by
                      show _ = _
                      have hr : rep (x :: r) = match (fs, fe) with
                        | (f, .ok) => (((cn, pr), f), .ok)
                        | (_, e) => (((0, []), []), e) := by
                        simp only [rep, HYL.out, hfs]
                        rfl
                      rw [HRQ.out, hr]
                      cases fe <;> rfl
                    clear t1 t2 hfs hokb HYL
                    by_cases hfe : fe = .ok
                    · subst hfe
                      have HR : Hid (reply l = (((cn, pr), fs), k, .ok)) := HREQ2.out
                      go_wp2_with fail
                      refine (HAL.out _).mono ?_
                      rintro e wq ⟨rfl, rfl⟩
                      go_wp2_with fail
                      refine (HVE.out _).mono ?_
                      rintro e wq ⟨rfl, rfl⟩
                      go_wp2_with fail
                      refine (HPL.out _).mono ?_
                      rintro e wq ⟨rfl, rfl⟩
                      go_wp2_with fail
                      refine (HWH.out _).mono ?_
                      rintro e wq ⟨rfl, rfl⟩
                      go_wp2_with fail
                      have HT9 : Hid (Calls Tryz.prog 49 #[.slice z1 (n1 - 1) (c1 - 1), .slice z2 (n1 - 1) (c2 - 1)] w4.drew fun e w9 => ∃ ad cap, e = .returned (.tuple #[.slice ad L cap, .agg (badG .ok)]) ∧ ∃ W10, (storeCells ⟨E, 0, none⟩ (badG .ok).toList).run Tryz.prog w9 = .ok () W10 ∧ W10.cell? ⟨E, 0, none⟩ = some (.int .i64 0) ∧ W10.heap[E]? = some (.cells (badG .ok) 32) ∧ W10.heap[w.heap.size]? = some (.cells z3 51) ∧ W10.heap[w.heap.size + 1]? = some (.cells (badC .ok) 32) ∧ Below w.heap.size w W10 ∧ SrcF W10 ad L cap fs ∧ W10.cell? ⟨g3, y3 + 2, none⟩ = some (.string PR) ∧ (∀ b o, ad = some ⟨b, o, none⟩ → E < b)) := by
                        refine (HFD.out w4.drew V1.out.drew V2.out.drew).mono fun e w9 h9 => ?_
                        obtain ⟨v9, he9, o9, b9'⟩ := h9
                        have b9 : Below w4.heap.size w4 w9 := ⟨b9'.os, b9'.tape, b9'.output, b9'.size, b9'.block⟩
                        obtain ⟨ad, cap, rfl, s9, f9⟩ := o9.src HOKB.out
                        have hE8 := lt_of_some P4.out
                        have hE := HE.out
                        have z9e := keepB b9 P4.out
                        have hg3 : g3 < w4.heap.size := lt_of_cell (a := ⟨g3, y3 + 2, none⟩) d32
                        have hg3E := FG3.out
                        have bw : Below w.heap.size w w9 := B4.out.trans (b9.mono B4.out.size)
                        refine ⟨ad, cap, by rw [he9, HLF.out], _, run_storeCells_row (P := Tryz.prog) E 32 (badG .ok) (badG .ok) _ z9e ((badG_size _).trans (badG_size _).symm) (badG_one _), ?_, setRow_heap _ _ _ _ _ z9e, ?_, ?_, below_setRow bw (by omega) _, ?_, ?_, fun b o e => ?_⟩
                        · have h8 := setRow_heap _ _ (badG .ok) _ _ z9e
                          simp only [World.cell?, h8]; exact badG_N _
                        · rw [setRow_ne _ _ _ _ (by omega)]; exact keepB b9 R40.out
                        · rw [setRow_ne _ _ _ _ (by omega)]; exact keepB b9 R41.out
                        · rw [HLF.out]
                          refine s9.keep (fun h0 b o e => setRow_ne _ _ _ _ ?_) (by simp [World.setRow])
                          have := f9 b o e
                          have h2 : w4.drew.heap.size = w4.heap.size := rfl
                          omega
                        · have h1 : (w9.setRow E (badG .ok)).heap[g3]? = w4.heap[g3]? := by
                            rw [setRow_ne _ _ _ _ (by omega), b9.block g3 hg3]
                          exact (World.cell?_of_block (a := ⟨g3, y3 + 2, none⟩) h1).trans d32
                        · have := f9 b o e
                          have h2 : w4.drew.heap.size = w4.heap.size := rfl
                          omega
                      clear HFD V1 V2 d1' d30 d31 d32
                      go_region_held3 (fun _ => True) (trivial) (first
                        | (go_at_call 49; with_reducible refine HT9.out.mono ?_; rintro e w9 ⟨ad, cap, rfl, W10, hst9, hN10, p10, r100, r101, b10, s10, e10, f10⟩; have P10 := hide p10; have R100 := hide r100; have R101 := hide r101; have B10 := hide b10; have S10 := hide s10; have F10 := hide f10; clear p10 r100 r101 b10 s10 f10))
                      clear HT9
                      obtain ⟨f1, f2, f3, f4⟩ := fin2 R100.out R101.out #[.int .i64 (cn : Nat), .string PR, .slice ad L cap] (badC .ok)
                      have f5 := f4 w (Nat.le_refl _) B10.out
                      obtain ⟨Wa, hWa⟩ : ∃ W6, W6 = W10.setRow w.heap.size #[.int .i64 (cn : Nat), .string PR, .slice ad L cap] := ⟨_, rfl⟩
                      rw [← hWa] at f1 f2 f3 f4 f5
                      obtain ⟨Wb, hWb⟩ : ∃ W7, W7 = Wa.setRow (w.heap.size + 1) (badC .ok) := ⟨_, rfl⟩
                      rw [← hWb] at f2 f3 f5
                      have F4 : Hid (SrcF Wb ad L cap fs) := by
                        have hE := HE.out
                        rw [hWb]
                        refine SrcF.keep (w := Wa) ?_ (fun h0 b o e => setRow_ne _ _ _ _ (by have := F10.out b o e; omega)) (by simp [World.setRow])
                        rw [hWa]
                        exact S10.out.keep (fun h0 b o e => setRow_ne _ _ _ _ (by have := F10.out b o e; omega)) (by simp [World.setRow])
                      have F1 := hide f1
                      have F2 := hide f2
                      have F3 := hide f3
                      have F5 := hide f5
                      have HWa := hide hWa
                      have HWb := hide hWb
                      clear f1 f2 f3 f4 f5 hWb hWa
                      go_wp2_with (first
                        | (refine wpList_store_rowW rfl 51 _ _ rfl w.heap.size #[.int .i64 (cn : Nat), .string PR, .slice ad L cap] rfl rfl 51 z3 R100.out info51 rfl (by simp [Value.oneCell']) Wa HWa.out ?_)
                        | (refine wpList_store_rowW rfl 32 _ _ rfl (w.heap.size + 1) (badC .ok) rfl rfl 32 (badC .ok) F1.out info32 rfl (badC_one _) Wb HWb.out ?_))
                      refine bodyPost_ret (res_ctc rfl _ _ w.heap.size 51 #[.int .i64 (cn : Nat), .string PR, .slice ad L cap] (0, 0) _ rfl F2.out Tryz.underlying51 rfl info51 (w.heap.size + 1) 32 (badC .ok) (0, 0) _ rfl F3.out Tryz.underlying32 rfl info32) rfl ?_
                      rw [HR.out]
                      refine ⟨ad, cap, ?_, by rw [← HLF.out]; exact F4.out, F5.out, fun b o e => by have h1 := F10.out b o e; have h2 := HE.out; omega⟩
                      rw [HPR.out, HLF.out]; rfl
                    · have hpos := HFP.out hfe
                      obtain ⟨en, hen⟩ : ∃ e, e = hrN fe := ⟨_, rfl⟩
                      rw [← hen] at hpos
                      have HR : Hid (reply l = (((0, []), []), 0, fe)) := by
                        show _ = _
                        rw [HREQ2.out]
                        cases fe with
                        | ok => exact absurd rfl hfe
                        | one a c => rfl
                        | wr a e => rfl
                      have HBN : Hid ((badG fe)[0]? = some (.int .i64 (en : Nat))) := by rw [hen]; exact badG_N fe
                      have q9 : decide (0 < (en : Int)) = true := decide_eq_true (by omega)
                      have q9' : decide (0 < en) = true := decide_eq_true hpos
                      have hbs : (badG fe).size = 10 := badG_size fe
                      clear hfe hen
                      go_wp2_with fail
                      refine (HAL.out _).mono ?_
                      rintro e wq ⟨rfl, rfl⟩
                      go_wp2_with fail
                      refine (HVE.out _).mono ?_
                      rintro e wq ⟨rfl, rfl⟩
                      go_wp2_with fail
                      refine (HPL.out _).mono ?_
                      rintro e wq ⟨rfl, rfl⟩
                      go_wp2_with fail
                      refine (HWH.out _).mono ?_
                      rintro e wq ⟨rfl, rfl⟩
                      go_wp2_with fail
                      have HT9 : Hid (Calls Tryz.prog 49 #[.slice z1 (n1 - 1) (c1 - 1), .slice z2 (n1 - 1) (c2 - 1)] w4.drew fun e w9 => ∃ ad cap, e = .returned (.tuple #[.slice ad L cap, .agg (badG fe)]) ∧ ∃ W10, (storeCells ⟨E, 0, none⟩ (badG fe).toList).run Tryz.prog w9 = .ok () W10 ∧ W10.cell? ⟨E, 0, none⟩ = some (.int .i64 (en : Nat)) ∧ W10.heap[E]? = some (.cells (badG fe) 32) ∧ W10.heap[w.heap.size]? = some (.cells z3 51) ∧ W10.heap[w.heap.size + 1]? = some (.cells (badC .ok) 32) ∧ Below w.heap.size w W10 ∧ SrcF W10 ad L cap fs ∧ W10.cell? ⟨g3, y3 + 2, none⟩ = some (.string PR) ∧ (∀ b o, ad = some ⟨b, o, none⟩ → E < b)) := by
                        refine (HFD.out w4.drew V1.out.drew V2.out.drew).mono fun e w9 h9 => ?_
                        obtain ⟨v9, he9, o9, b9'⟩ := h9
                        have b9 : Below w4.heap.size w4 w9 := ⟨b9'.os, b9'.tape, b9'.output, b9'.size, b9'.block⟩
                        obtain ⟨ad, cap, rfl, s9, f9⟩ := o9.src HOKB.out
                        have hE8 := lt_of_some P4.out
                        have hE := HE.out
                        have z9e := keepB b9 P4.out
                        have hg3 : g3 < w4.heap.size := lt_of_cell (a := ⟨g3, y3 + 2, none⟩) d32
                        have hg3E := FG3.out
                        have bw : Below w.heap.size w w9 := B4.out.trans (b9.mono B4.out.size)
                        refine ⟨ad, cap, by rw [he9, HLF.out], _, run_storeCells_row (P := Tryz.prog) E 32 (badG fe) (badG .ok) _ z9e ((badG_size _).trans (badG_size _).symm) (badG_one _), ?_, setRow_heap _ _ _ _ _ z9e, ?_, ?_, below_setRow bw (by omega) _, ?_, ?_, fun b o e => ?_⟩
                        · have h8 := setRow_heap _ _ (badG fe) _ _ z9e
                          simp only [World.cell?, h8]; exact HBN.out
                        · rw [setRow_ne _ _ _ _ (by omega)]; exact keepB b9 R40.out
                        · rw [setRow_ne _ _ _ _ (by omega)]; exact keepB b9 R41.out
                        · rw [HLF.out]
                          refine s9.keep (fun h0 b o e => setRow_ne _ _ _ _ ?_) (by simp [World.setRow])
                          have := f9 b o e
                          have h2 : w4.drew.heap.size = w4.heap.size := rfl
                          omega
                        · have h1 : (w9.setRow E (badG fe)).heap[g3]? = w4.heap[g3]? := by
                            rw [setRow_ne _ _ _ _ (by omega), b9.block g3 hg3]
                          exact (World.cell?_of_block (a := ⟨g3, y3 + 2, none⟩) h1).trans d32
                        · have := f9 b o e
                          have h2 : w4.drew.heap.size = w4.heap.size := rfl
                          omega
                      clear HFD V1 V2 d1' d30 d31 d32
                      go_region_held3 (fun _ => True) (trivial) (first
                        | (go_at_call 49; with_reducible refine HT9.out.mono ?_; rintro e w9 ⟨ad, cap, rfl, W10, hst9, hN10, p10, r100, r101, b10, s10, e10, f10⟩; have P10 := hide p10; have R100 := hide r100; have R101 := hide r101; have B10 := hide b10; have S10 := hide s10; have F10 := hide f10; clear p10 r100 r101 b10 s10 f10))
                      clear HT9
                      have hlt : w.heap.size + 1 < E := HE.out
                      go_wp2_with fail
                      have k1 : isRow W10 E 10 = true := isRow_of P10.out (badG_size _)
                      have k2 : rowOf W10 E = badG fe := rowOf_of P10.out
                      have k3 : canPut 3 51 W10 (.pointer (some ⟨w.heap.size, 0, none⟩)) (.agg #[.int .i64 0, .string ⟨#[]⟩, .slice none 0 0]) = true := canPut_row R100.out rfl rfl (by simp [Value.oneCell'])
                      obtain ⟨f1, f2, f3, f4⟩ := fin2 R100.out R101.out z3 (badG fe)
                      have f5 := f4 w (Nat.le_refl _) B10.out
                      obtain ⟨Wa, hWa⟩ : ∃ W6, W6 = W10.setRow w.heap.size z3 := ⟨_, rfl⟩
                      rw [← hWa] at f1 f2 f3 f4 f5
                      have p6 : Wa.heap[E]? = some (.cells (badG fe) 32) := by have := HE.out; rw [hWa, setRow_ne _ _ _ _ (by omega)]; exact P10.out
                      have k5 : isRow Wa E 10 = true := isRow_of p6 (badG_size _)
                      have k6 : rowOf Wa E = badG fe := rowOf_of p6
                      have k4 : canPut 10 32 Wa (.pointer (some ⟨w.heap.size + 1, 0, none⟩)) (.agg (badG fe)) = true := canPut_row f1 rfl (badG_size _) (badG_one _)
                      have hWa' : W10.setRow w.heap.size #[.int .i64 0, .string ⟨#[]⟩, .slice none 0 0] = Wa := hWa.symm
                      obtain ⟨Wb, hWb⟩ : ∃ W7, W7 = Wa.setRow (w.heap.size + 1) (badG fe) := ⟨_, rfl⟩
                      rw [← hWb] at f2 f3 f5
                      have hWb' : Wa.setRow (w.heap.size + 1) (badG fe) = Wb := hWb.symm
                      have F2 := hide f2
                      have F3 := hide f3
                      have F5 := hide f5
                      clear f1 f2 f3 f4 f5 hWb hWa p6

                      go_region
                      all_goals (try go_wp2_with fail)
                      all_goals refine bodyPost_ret (res_ctc rfl _ _ w.heap.size 51 z3 (0, 0) _ rfl (by exact F2.out) Tryz.underlying51 rfl info51 (w.heap.size + 1) 32 (badG fe) (0, 0) _ rfl (by exact F3.out) Tryz.underlying32 rfl (badGI fe)) rfl ?_
                      all_goals (rw [HR.out]; exact ⟨none, 0, rfl, SrcF.nilS _, F5.out.drew, fun _ _ e => by cases e⟩)
                  · have hst : stat pc = none := by rw [wh_stat, hwh]; simp; omega
                    have HR : Hid (reply l = (((0, []), []), 0, .one 0 80)) := by
                      have e : yline x = ((0, []), .one 0 80) := by rw [HYS.out, hst]
                      show _ = _
                      rw [HRQ.out]
                      simp only [rep, e]
                    have p1 : decide ((cn : Int) < 100) = false := decide_eq_false (by omega)
                    have p1' : decide (cn < 100) = false := decide_eq_false (by omega)
                    have p2 : decide (599 < (cn : Int)) = true := decide_eq_true (by omega)
                    have p2' : decide (599 < cn) = true := decide_eq_true (by omega)
                    clear hwh HYS hst h1 h2
                    go_wp2_with fail
                    refine (HAL.out _).mono ?_
                    rintro e wq ⟨rfl, rfl⟩
                    go_wp2_with fail
                    refine (HVE.out _).mono ?_
                    rintro e wq ⟨rfl, rfl⟩
                    go_wp2_with fail
                    refine (HPL.out _).mono ?_
                    rintro e wq ⟨rfl, rfl⟩
                    go_wp2_with fail
                    refine (HWH.out _).mono ?_
                    rintro e wq ⟨rfl, rfl⟩
                    go_wp2_with fail
                    refine (rfaultH_at 0 80 _).mono ?_
                    rintro e wf ⟨rfl, hbf⟩
                    obtain ⟨f1, f2, f3, f4⟩ := fin2 (keepB hbf R40.out) (keepB hbf R41.out) z3 (badG (.one 0 80))
                    have f5 := f4 w (Nat.le_refl _) (B4.out.trans (hbf.mono B4.out.size))
                    obtain ⟨Wa, hWa⟩ : ∃ W1, W1 = wf.setRow w.heap.size z3 := ⟨_, rfl⟩
                    rw [← hWa] at f1 f2 f3 f4 f5
                    obtain ⟨Wb, hWb⟩ : ∃ W2, W2 = Wa.setRow (w.heap.size + 1) (badG (.one 0 80)) := ⟨_, rfl⟩
                    rw [← hWb] at f2 f3 f5
                    have F0 := hide (keepB hbf R40.out)
                    have F1 := hide f1
                    have F2 := hide f2
                    have F3 := hide f3
                    have F5 := hide f5
                    have HWa := hide hWa
                    have HWb := hide hWb
                    clear f1 f2 f3 f4 f5 hWa hWb hbf
                    go_wp2_with (first
                      | (refine wpList_store_rowW rfl 51 _ _ rfl w.heap.size z3 rfl rfl 51 z3 F0.out info51 rfl z3_one Wa HWa.out ?_)
                      | (refine wpList_store_rowW rfl 32 _ _ rfl (w.heap.size + 1) (badG (.one 0 80)) rfl rfl 32 (badC .ok) F1.out (badGI (.one 0 80)) (by simp [badC_size, badG_size]) (badG_one _) Wb HWb.out ?_))
                    refine bodyPost_ret (res_ctc rfl _ _ w.heap.size 51 z3 (0, 0) _ rfl F2.out Tryz.underlying51 rfl info51 (w.heap.size + 1) 32 (badG (.one 0 80)) (0, 0) _ rfl F3.out Tryz.underlying32 rfl (badGI (.one 0 80))) rfl ?_
                    rw [HR.out]
                    exact ⟨none, 0, rfl, SrcF.nilS _, F5.out, fun _ _ e => by cases e⟩
                · have hst : stat pc = none := by rw [wh_stat, hwh]; simp; omega
                  have HR : Hid (reply l = (((0, []), []), 0, .one 0 80)) := by
                    have e : yline x = ((0, []), .one 0 80) := by rw [HYS.out, hst]
                    show _ = _
                    rw [HRQ.out]
                    simp only [rep, e]
                  have p1 : decide ((cn : Int) < 100) = true := decide_eq_true (by omega)
                  have p1' : decide (cn < 100) = true := decide_eq_true (by omega)
                  clear hwh HYS hst h1
                  go_wp2_with fail
                  refine (HAL.out _).mono ?_
                  rintro e wq ⟨rfl, rfl⟩
                  go_wp2_with fail
                  refine (HVE.out _).mono ?_
                  rintro e wq ⟨rfl, rfl⟩
                  go_wp2_with fail
                  refine (HPL.out _).mono ?_
                  rintro e wq ⟨rfl, rfl⟩
                  go_wp2_with fail
                  refine (HWH.out _).mono ?_
                  rintro e wq ⟨rfl, rfl⟩
                  go_wp2_with fail
                  refine (rfaultH_at 0 80 _).mono ?_
                  rintro e wf ⟨rfl, hbf⟩
                  obtain ⟨f1, f2, f3, f4⟩ := fin2 (keepB hbf R40.out) (keepB hbf R41.out) z3 (badG (.one 0 80))
                  have f5 := f4 w (Nat.le_refl _) (B4.out.trans (hbf.mono B4.out.size))
                  obtain ⟨Wa, hWa⟩ : ∃ W1, W1 = wf.setRow w.heap.size z3 := ⟨_, rfl⟩
                  rw [← hWa] at f1 f2 f3 f4 f5
                  obtain ⟨Wb, hWb⟩ : ∃ W2, W2 = Wa.setRow (w.heap.size + 1) (badG (.one 0 80)) := ⟨_, rfl⟩
                  rw [← hWb] at f2 f3 f5
                  have F0 := hide (keepB hbf R40.out)
                  have F1 := hide f1
                  have F2 := hide f2
                  have F3 := hide f3
                  have F5 := hide f5
                  have HWa := hide hWa
                  have HWb := hide hWb
                  clear f1 f2 f3 f4 f5 hWa hWb hbf
                  go_wp2_with (first
                    | (refine wpList_store_rowW rfl 51 _ _ rfl w.heap.size z3 rfl rfl 51 z3 F0.out info51 rfl z3_one Wa HWa.out ?_)
                    | (refine wpList_store_rowW rfl 32 _ _ rfl (w.heap.size + 1) (badG (.one 0 80)) rfl rfl 32 (badC .ok) F1.out (badGI (.one 0 80)) (by simp [badC_size, badG_size]) (badG_one _) Wb HWb.out ?_))
                  refine bodyPost_ret (res_ctc rfl _ _ w.heap.size 51 z3 (0, 0) _ rfl F2.out Tryz.underlying51 rfl info51 (w.heap.size + 1) 32 (badG (.one 0 80)) (0, 0) _ rfl F3.out Tryz.underlying32 rfl (badGI (.one 0 80))) rfl ?_
                  rw [HR.out]
                  exact ⟨none, 0, rfl, SrcF.nilS _, F5.out, fun _ _ e => by cases e⟩
            · have hrf : reason pr = false := by simpa using hre
              have HR : Hid (reply l = (((0, []), []), 0, .one 0 80)) := by
                have e : yline x = ((0, []), .one 0 80) := by rw [HYT.out, if_pos (Or.inr hrf)]
                show _ = _
                rw [HRQ.out]
                simp only [rep, e]
              rw [hve] at HVE
              rw [hrf] at HPL
              clear hve hre hrf
              go_wp2_with fail
              refine (HAL.out _).mono ?_
              rintro e wq ⟨rfl, rfl⟩
              go_wp2_with fail
              refine (HVE.out _).mono ?_
              rintro e wq ⟨rfl, rfl⟩
              go_wp2_with fail
              refine (HPL.out _).mono ?_
              rintro e wq ⟨rfl, rfl⟩
              go_wp2_with fail
              refine (rfaultH_at 0 80 _).mono ?_
              rintro e wf ⟨rfl, hbf⟩
              obtain ⟨f1, f2, f3, f4⟩ := fin2 (keepB hbf R40.out) (keepB hbf R41.out) z3 (badG (.one 0 80))
              have f5 := f4 w (Nat.le_refl _) (B4.out.trans (hbf.mono B4.out.size))
              obtain ⟨Wa, hWa⟩ : ∃ W1, W1 = wf.setRow w.heap.size z3 := ⟨_, rfl⟩
              rw [← hWa] at f1 f2 f3 f4 f5
              obtain ⟨Wb, hWb⟩ : ∃ W2, W2 = Wa.setRow (w.heap.size + 1) (badG (.one 0 80)) := ⟨_, rfl⟩
              rw [← hWb] at f2 f3 f5
              have F0 := hide (keepB hbf R40.out)
              have F1 := hide f1
              have F2 := hide f2
              have F3 := hide f3
              have F5 := hide f5
              have HWa := hide hWa
              have HWb := hide hWb
              clear f1 f2 f3 f4 f5 hWa hWb hbf
              go_wp2_with (first
                | (refine wpList_store_rowW rfl 51 _ _ rfl w.heap.size z3 rfl rfl 51 z3 F0.out info51 rfl z3_one Wa HWa.out ?_)
                | (refine wpList_store_rowW rfl 32 _ _ rfl (w.heap.size + 1) (badG (.one 0 80)) rfl rfl 32 (badC .ok) F1.out (badGI (.one 0 80)) (by simp [badC_size, badG_size]) (badG_one _) Wb HWb.out ?_))
              refine bodyPost_ret (res_ctc rfl _ _ w.heap.size 51 z3 (0, 0) _ rfl F2.out Tryz.underlying51 rfl info51 (w.heap.size + 1) 32 (badG (.one 0 80)) (0, 0) _ rfl F3.out Tryz.underlying32 rfl (badGI (.one 0 80))) rfl ?_
              rw [HR.out]
              exact ⟨none, 0, rfl, SrcF.nilS _, F5.out, fun _ _ e => by cases e⟩
          · have hvf : ver pv = false := by simpa using hve
            have HR : Hid (reply l = (((0, []), []), 0, .one 0 80)) := by
              have e : yline x = ((0, []), .one 0 80) := by rw [HYT.out, if_pos (Or.inl hvf)]
              show _ = _
              rw [HRQ.out]
              simp only [rep, e]
            rw [hvf] at HVE
            clear hve hvf
            go_wp2_with fail
            refine (HAL.out _).mono ?_
            rintro e wq ⟨rfl, rfl⟩
            go_wp2_with fail
            refine (HVE.out _).mono ?_
            rintro e wq ⟨rfl, rfl⟩
            go_wp2_with fail
            refine (rfaultH_at 0 80 _).mono ?_
            rintro e wf ⟨rfl, hbf⟩
            obtain ⟨f1, f2, f3, f4⟩ := fin2 (keepB hbf R40.out) (keepB hbf R41.out) z3 (badG (.one 0 80))
            have f5 := f4 w (Nat.le_refl _) (B4.out.trans (hbf.mono B4.out.size))
            obtain ⟨Wa, hWa⟩ : ∃ W1, W1 = wf.setRow w.heap.size z3 := ⟨_, rfl⟩
            rw [← hWa] at f1 f2 f3 f4 f5
            obtain ⟨Wb, hWb⟩ : ∃ W2, W2 = Wa.setRow (w.heap.size + 1) (badG (.one 0 80)) := ⟨_, rfl⟩
            rw [← hWb] at f2 f3 f5
            have F0 := hide (keepB hbf R40.out)
            have F1 := hide f1
            have F2 := hide f2
            have F3 := hide f3
            have F5 := hide f5
            have HWa := hide hWa
            have HWb := hide hWb
            clear f1 f2 f3 f4 f5 hWa hWb hbf
            go_wp2_with (first
              | (refine wpList_store_rowW rfl 51 _ _ rfl w.heap.size z3 rfl rfl 51 z3 F0.out info51 rfl z3_one Wa HWa.out ?_)
              | (refine wpList_store_rowW rfl 32 _ _ rfl (w.heap.size + 1) (badG (.one 0 80)) rfl rfl 32 (badC .ok) F1.out (badGI (.one 0 80)) (by simp [badC_size, badG_size]) (badG_one _) Wb HWb.out ?_))
            refine bodyPost_ret (res_ctc rfl _ _ w.heap.size 51 z3 (0, 0) _ rfl F2.out Tryz.underlying51 rfl info51 (w.heap.size + 1) 32 (badG (.one 0 80)) (0, 0) _ rfl F3.out Tryz.underlying32 rfl (badGI (.one 0 80))) rfl ?_
            rw [HR.out]
            exact ⟨none, 0, rfl, SrcF.nilS _, F5.out, fun _ _ e => by cases e⟩
      · have HR : Hid (reply l = (((0, []), []), 0, .one 0 80)) := by
          have e : yline x = ((0, []), .one 0 80) := yline_not h3
          show _ = _
          rw [HRQ.out]
          simp only [rep, e]
        obtain ⟨n3, hn3⟩ : ∃ m, m = (bln 3 x).length := ⟨_, rfl⟩
        rw [← hn3] at hh4 ⊢
        have q3 : ((n3 : Int) != 3) = true := by simp; omega
        clear hn3 h3 sv3
        go_wp2_with fail
        refine (rfaultH_at 0 80 _).mono ?_
        rintro e wf ⟨rfl, hbf⟩
        obtain ⟨f1, f2, f3, f4⟩ := fin2 (keepB hbf R40.out) (keepB hbf R41.out) z3 (badG (.one 0 80))
        have f5 := f4 w (Nat.le_refl _) (B4.out.trans (hbf.mono B4.out.size))
        obtain ⟨Wa, hWa⟩ : ∃ W1, W1 = wf.setRow w.heap.size z3 := ⟨_, rfl⟩
        rw [← hWa] at f1 f2 f3 f4 f5
        obtain ⟨Wb, hWb⟩ : ∃ W2, W2 = Wa.setRow (w.heap.size + 1) (badG (.one 0 80)) := ⟨_, rfl⟩
        rw [← hWb] at f2 f3 f5
        have F0 := hide (keepB hbf R40.out)
        have F1 := hide f1
        have F2 := hide f2
        have F3 := hide f3
        have F5 := hide f5
        have HWa := hide hWa
        have HWb := hide hWb
        clear f1 f2 f3 f4 f5 hWa hWb hbf
        go_wp2_with (first
          | (refine wpList_store_rowW rfl 51 _ _ rfl w.heap.size z3 rfl rfl 51 z3 F0.out info51 rfl z3_one Wa HWa.out ?_)
          | (refine wpList_store_rowW rfl 32 _ _ rfl (w.heap.size + 1) (badG (.one 0 80)) rfl rfl 32 (badC .ok) F1.out (badGI (.one 0 80)) (by simp [badC_size, badG_size]) (badG_one _) Wb HWb.out ?_))
        refine bodyPost_ret (res_ctc rfl _ _ w.heap.size 51 z3 (0, 0) _ rfl F2.out Tryz.underlying51 rfl info51 (w.heap.size + 1) 32 (badG (.one 0 80)) (0, 0) _ rfl F3.out Tryz.underlying32 rfl (badGI (.one 0 80))) rfl ?_
        rw [HR.out]
        exact ⟨none, 0, rfl, SrcF.nilS _, F5.out, fun _ _ e => by cases e⟩
  · have hrq := reply_short hno
    rw [her] at hrq
    have HR := hide hrq
    rw [show enE l = (0, .one ac cc) by rw [← hz, ← her]] at HEN
    clear hno hz her hrq
    go_enter Tryz.func17, Tryz.ntmps17
    go_wp2_with fail
    rw [HW0.out]
    refine HEN.out.mono ?_
    rintro e w1 ⟨rfl, hb1⟩
    obtain ⟨E, hE⟩ : ∃ E, E = w1.heap.size := ⟨_, rfl⟩
    obtain ⟨W2, hW2⟩ : ∃ W, W = (w1.alloc (.cells (badC .ok) 32)).setRow E (badG (.one ac cc)) := ⟨_, rfl⟩
    have z2 : (w1.alloc (.cells (badC .ok) 32)).heap[E]? = some (.cells (badC .ok) 32) := by rw [hE]; exact alloc_new _ _
    have b2 : Below w1.heap.size w1 W2 := by rw [hW2]; exact below_setRow ((Below.refl _ _).alloc (Nat.le_refl _) _) (by omega) _
    have p2 : W2.heap[E]? = some (.cells (badG (.one ac cc)) 32) := by rw [hW2]; exact setRow_heap _ _ _ _ _ z2
    have R20 := hide (keepB b2 (keepB hb1 R00.out))
    have R21 := hide (keepB b2 (keepB hb1 R01.out))
    have B2 : Hid (Below w.heap.size w W2) := (B0.out.trans (hb1.mono B0.out.size)).trans (b2.mono (B0.out.trans (hb1.mono B0.out.size)).size)
    have HE : Hid (w.heap.size + 1 < E) := by rw [hE]; exact lt_of_some (keepB hb1 R01.out)
    have hN2 : W2.cell? ⟨E, 0, none⟩ = some (.int .i64 1) := by simp only [World.cell?, p2]; rfl
    have Z2 := hide z2
    have P2 := hide p2
    have HW2 := hide hW2
    have HEE := hide hE.symm
    have hlt : w.heap.size + 1 < E := HE.out
    clear b2 p2 z2 hb1 hW2 hE HEN S0 B0 R00 R01
    have k1 : isRow W2 E 10 = true := isRow_of P2.out (badG_size _)
    have k2 : rowOf W2 E = badG (.one ac cc) := rowOf_of P2.out
    have k3 : canPut 3 51 W2 (.pointer (some ⟨w.heap.size, 0, none⟩)) (.agg #[.int .i64 0, .string ⟨#[]⟩, .slice none 0 0]) = true := canPut_row R20.out rfl rfl (by simp [Value.oneCell'])
    obtain ⟨f1, f2, f3, f4⟩ := fin2 R20.out R21.out z3 (badG (.one ac cc))
    have f5 := f4 w (Nat.le_refl _) B2.out
    obtain ⟨Wa, hWa⟩ : ∃ W6, W6 = W2.setRow w.heap.size z3 := ⟨_, rfl⟩
    rw [← hWa] at f1 f2 f3 f4 f5
    have p6 : Wa.heap[E]? = some (.cells (badG (.one ac cc)) 32) := by have := HE.out; rw [hWa, setRow_ne _ _ _ _ (by omega)]; exact P2.out
    have k5 : isRow Wa E 10 = true := isRow_of p6 (badG_size _)
    have k6 : rowOf Wa E = badG (.one ac cc) := rowOf_of p6
    have k4 : canPut 10 32 Wa (.pointer (some ⟨w.heap.size + 1, 0, none⟩)) (.agg (badG (.one ac cc))) = true := canPut_row f1 rfl (badG_size _) (badG_one _)
    have hWa' : W2.setRow w.heap.size #[.int .i64 0, .string ⟨#[]⟩, .slice none 0 0] = Wa := hWa.symm
    obtain ⟨Wb, hWb⟩ : ∃ W7, W7 = Wa.setRow (w.heap.size + 1) (badG (.one ac cc)) := ⟨_, rfl⟩
    rw [← hWb] at f2 f3 f5
    have hWb' : Wa.setRow (w.heap.size + 1) (badG (.one ac cc)) = Wb := hWb.symm
    have F2 := hide f2
    have F3 := hide f3
    have F5 := hide f5
    clear f1 f2 f3 f4 f5 hWb hWa p6
    go_wp2_with (first | (rw [HEE.out]) | (refine wpList_store_rowW rfl 32 _ _ rfl E (badG (.one ac cc)) rfl rfl 32 (badC .ok) Z2.out (badGI (.one ac cc)) (by simp [badC_size, badG_size]) (badG_one _) W2 HW2.out ?_))
    go_region
    all_goals (try go_wp2_with fail)
    all_goals refine bodyPost_ret (res_ctc rfl _ _ w.heap.size 51 z3 (0, 0) _ rfl (by exact F2.out) Tryz.underlying51 rfl info51 (w.heap.size + 1) 32 (badG (.one ac cc)) (0, 0) _ rfl (by exact F3.out) Tryz.underlying32 rfl (badGI (.one ac cc))) rfl ?_
    all_goals (rw [HR.out]; exact ⟨none, 0, rfl, SrcF.nilS _, F5.out.drew, fun _ _ e => by cases e⟩)
end Go.Proofs.YthbnbnfhbkekpaaGreatDoor
