/-
  meant of package policy; conditions as each theorem has them.
-/
import Derived.Test.YtiejandeoopiiaaGreatDoorRG
set_option linter.unusedSimpArgs false
set_option linter.unusedVariables false
namespace Go.Proofs.YtiejandeoopiiaaGreatDoor
open Go.RowKit
theorem strN_lt {l : List Nat} (h : ∀ x ∈ l, x < 256) : byt (strN l) = l := byt_strN l h
set_option maxRecDepth 100000 in
set_option maxHeartbeats 2000000 in
theorem meant_at (t : ByteArray) (w : World) (hs : t.size ≤ 285) (hV : Vars w) (hE : Errs w) : Calls Tryz.prog 34 #[.string t] w fun e w' => e = .returned (.agg (ruC (meant (byt t))).toArray) ∧ Below w.heap.size w w' := by
  obtain ⟨l, hl⟩ : ∃ l, l = byt t := ⟨_, rfl⟩
  have hlt : ∀ x ∈ l, x < 256 := by rw [hl]; exact byt_lt t
  have hll : l.length ≤ 285 := by rw [hl, byt_length]; exact hs
  rw [← hl]
  have C1 : Hid (∀ W, Vars W → Calls Tryz.prog 48 #[.string t, .string ⟨#[32]⟩] W fun e w' => e = .returned (.tuple #[.string (strN (cutB 32 l)), .string (strN (cutA 32 l)), .bool (decide (32 ∈ l))]) ∧ Below W.heap.size W w') := fun W hv => by rw [hl]; exact cut_at 32 t W (by omega) hv
  obtain ⟨v1, hv1⟩ : ∃ v1, v1 = cutB 32 l := ⟨_, rfl⟩
  obtain ⟨rs, hrs⟩ : ∃ rs, rs = cutA 32 l := ⟨_, rfl⟩
  obtain ⟨f1, hf1⟩ : ∃ f1, f1 = decide (32 ∈ l) := ⟨_, rfl⟩
  rw [← hv1, ← hrs, ← hf1] at C1
  have rlt : ∀ x ∈ rs, x < 256 := by rw [hrs]; exact fun x hx => hlt x (cutA_mem l x hx)
  have rll : rs.length ≤ 285 := by have := cutA_len (c := 32) l; rw [hrs]; omega
  have vlt : ∀ x ∈ v1, x < 256 := by rw [hv1]; exact fun x hx => hlt x (cutB_mem l x hx)
  have C2 : Hid (∀ W, Vars W → Calls Tryz.prog 48 #[.string (strN rs), .string ⟨#[32]⟩] W fun e w' => e = .returned (.tuple #[.string (strN (cutB 32 rs)), .string (strN (cutA 32 rs)), .bool (decide (32 ∈ rs))]) ∧ Below W.heap.size W w') := fun W hv => by
    have := cut_at 32 (strN rs) W (by rw [strN_size]; omega) hv
    rw [strN_lt rlt] at this
    exact this
  obtain ⟨tg, htg⟩ : ∃ tg, tg = cutB 32 rs := ⟨_, rfl⟩
  obtain ⟨po, hpo⟩ : ∃ po, po = cutA 32 rs := ⟨_, rfl⟩
  obtain ⟨f2, hf2⟩ : ∃ f2, f2 = decide (32 ∈ rs) := ⟨_, rfl⟩
  rw [← htg, ← hpo, ← hf2] at C2
  have tlt : ∀ x ∈ tg, x < 256 := by rw [htg]; exact fun x hx => rlt x (cutB_mem rs x hx)
  have tll : tg.length ≤ 285 := by have := cutB_len (c := 32) rs; rw [htg]; omega
  have plt : ∀ x ∈ po, x < 256 := by rw [hpo]; exact fun x hx => rlt x (cutA_mem rs x hx)
  have pll : po.length ≤ 285 := by have := cutA_len (c := 32) rs; rw [hpo]; omega
  have C3 : Hid (∀ W, Vars W → Calls Tryz.prog 48 #[.string (strN tg), .string ⟨#[47]⟩] W fun e w' => e = .returned (.tuple #[.string (strN (cutB 47 tg)), .string (strN (cutA 47 tg)), .bool (decide (47 ∈ tg))]) ∧ Below W.heap.size W w') := fun W hv => by
    have := cut_at 47 (strN tg) W (by rw [strN_size]; omega) hv
    rw [strN_lt tlt] at this
    exact this
  have C4 : Hid (∀ W, Vars W → Calls Tryz.prog 48 #[.string (strN po), .string ⟨#[45]⟩] W fun e w' => e = .returned (.tuple #[.string (strN (cutB 45 po)), .string (strN (cutA 45 po)), .bool (decide (45 ∈ po))]) ∧ Below W.heap.size W w') := fun W hv => by
    have := cut_at 45 (strN po) W (by rw [strN_size]; omega) hv
    rw [strN_lt plt] at this
    exact this
  have LB := hide (cutB_mem (c := 45) po)
  have LA := hide (cutA_mem (c := 45) po)
  have AB := hide (cutB_mem (c := 47) tg)
  have AA := hide (cutA_mem (c := 47) tg)
  have LBl := cutB_len (c := 45) po
  have LAl := cutA_len (c := 45) po
  have ABl := cutB_len (c := 47) tg
  have AAl := cutA_len (c := 47) tg
  have HM : Hid (meant l = ⟨decide (v1 = allowT), (tarM tg).1, (tarM tg).2.1, (tarM tg).2.2, ((port (cutB 45 po)).1 : Nat), ((port (hghT po)).1 : Nat)⟩) := by
    show _ = _
    unfold meant
    rw [hv1, htg, hpo, hrs]
  obtain ⟨M, hM⟩ : ∃ M, M = meant l := ⟨_, rfl⟩
  rw [← hM] at HM ⊢
  have PLT := hide plt
  have TLT := hide tlt
  have HV := hide hV
  have HE := hide hE
  have hq : ((strN v1).toList == [97, 108, 108, 111, 119]) = decide (v1 = allowT) := by
    have := eq_byt (strN v1) ⟨#[97, 108, 108, 111, 119]⟩
    rw [strN_lt vlt, show (⟨#[97, 108, 108, 111, 119]⟩ : ByteArray).toList = [97, 108, 108, 111, 119] by rw [Lib.toList_data]] at this
    rw [this]
    rfl
  have HQ := hide hq
  clear hl hlt hll hv1 hrs hf1 rlt rll vlt htg hpo hf2 tlt plt hM hV hE hs hq
  go_enter Tryz.func34, Tryz.ntmps34
  go_wp2_with fail
  obtain ⟨w0, hw0⟩ : ∃ w0, w0 = w.alloc (.cells zRu 37) := ⟨_, rfl⟩
  have B0 : Hid (Below w.heap.size w w0) := by rw [hw0]; exact (Below.refl _ _).alloc (Nat.le_refl _) _
  have r0 : Hid (w0.heap[w.heap.size]? = some (.cells zRu 37)) := by rw [hw0]; exact alloc_new _ _
  simp only [show w.alloc (.cells #[.bool false, .int .u8 0, .int .u8 0, .int .u8 0, .int .u8 0, .int .i64 0, .string ⟨#[]⟩, .int .i64 0, .int .i64 0] 37) = w0 from hw0.symm]
  have V0 := hide (HV.out.below B0.out)
  have E0 := hide (HE.out.below B0.out)
  clear hw0
  refine (C1.out _ V0.out).mono ?_
  rintro e w1 ⟨rfl, hb⟩
  have B1 := hide (B0.out.trans (hb.mono B0.out.size))
  have r1 := hide (keepB hb r0.out)
  have V1 := hide (V0.out.below hb)
  have E1 := hide (E0.out.below hb)
  clear hb
  go_wp2_with fail
  refine (C2.out _ V1.out).mono ?_
  rintro e w2 ⟨rfl, hb⟩
  have B2 := hide (B1.out.trans (hb.mono B1.out.size))
  have r2 := hide (keepB hb r1.out)
  have V2 := hide (V1.out.below hb)
  have E2 := hide (E1.out.below hb)
  clear hb
  have hq := HQ.out
  obtain ⟨al, hal⟩ : ∃ al, al = decide (v1 = allowT) := ⟨_, rfl⟩
  rw [← hal] at hq HM
  clear hal
  go_wp2_with fail
  have hlt3 : w.heap.size < w2.heap.size := lt_of_some r2.out
  obtain ⟨w3, hw3⟩ : ∃ w3, w3 = w2.alloc (.cells #[.bool al, .int .u8 0, .int .u8 0, .int .u8 0, .int .u8 0, .int .i64 0, .string ⟨#[]⟩, .int .i64 0, .int .i64 0] 37) := ⟨_, rfl⟩
  have hb : Below w2.heap.size w2 w3 := by rw [hw3]; exact (Below.refl _ _).alloc (Nat.le_refl _) _
  have S3 : Hid (MS w w3 w2.heap.size ⟨al, (0, 0, 0, 0), 0, ⟨#[]⟩, 0, 0⟩) :=
    ⟨B2.out.trans (hb.mono B2.out.size), hlt3, keepB hb r2.out, by rw [hw3]; exact alloc_new _ _, V2.out.below hb, E2.out.below hb⟩
  simp only [hq, show w2.alloc (.cells #[.bool al, .int .u8 0, .int .u8 0, .int .u8 0, .int .u8 0, .int .i64 0, .string ⟨#[]⟩, .int .i64 0, .int .i64 0] 37) = w3 from hw3.symm]
  clear hw3 hb hq HQ
  refine (C3.out _ S3.out.v).mono ?_
  rintro e w4 ⟨rfl, hb⟩
  have S4 := hide (S3.out.keep hb)
  clear hb
  by_cases h47 : 47 ∈ tg
  · rw [decide_eq_true h47]
    have hAB : byt (strN (cutB 47 tg)) = cutB 47 tg := strN_lt fun x hx => TLT.out x (AB.out x hx)
    have hAA : byt (strN (cutA 47 tg)) = cutA 47 tg := strN_lt fun x hx => TLT.out x (AA.out x hx)
    obtain ⟨x0, x1, x2, x3, hx⟩ := four (addr_len (cutB 47 tg))
    have CA : Hid (∀ W, Vars W → Calls Tryz.prog 49 #[.string (strN (cutB 47 tg))] W fun e w' => ∃ v, e = .returned (.tuple #[.agg #[.int .u8 (x0 : Nat), .int .u8 (x1 : Nat), .int .u8 (x2 : Nat), .int .u8 (x3 : Nat)], v]) ∧ Below W.heap.size W w') := fun W hv => by
      refine (parseAddr_at (strN (cutB 47 tg)) W (by rw [strN_size]; unfold maxLen; omega) hv).mono ?_
      rintro e w' ⟨v, rfl, _, hb⟩
      refine ⟨v, ?_, hb⟩
      rw [hAB, hx]
      rfl
    have CT : Hid (∀ W, Errs W → Calls Tryz.prog 50 #[.string (strN (cutA 47 tg))] W fun e w' => ∃ v, e = .returned (.tuple #[.int .i64 (atoiV (cutA 47 tg)), v]) ∧ Below W.heap.size W w') := fun W hv => by
      have := atoi_at (strN (cutA 47 tg)) W (by rw [strN_size]; omega) hv
      rw [hAA] at this
      exact this
    have HTM : Hid (tarM tg = ((x0, x1, x2, x3), atoiV (cutA 47 tg), ⟨#[]⟩)) := by
      show _ = _
      rw [tarM, if_pos h47, hx]
      rfl
    obtain ⟨N, hN⟩ : ∃ N, N = atoiV (cutA 47 tg) := ⟨_, rfl⟩
    rw [← hN] at CT HTM
    clear hAB hAA hx hN h47
    go_wp2_with fail
    refine (CA.out _ S4.out.v).mono ?_
    rintro e w5 ⟨v5, rfl, hb⟩
    have S5 := hide (S4.out.keep hb)
    clear hb
    obtain ⟨w6, hw6, s6⟩ := S5.out.net x0 x1 x2 x3
    have S6 := hide s6
    have HW6 := hide hw6
    clear hw6 s6
    go_wp2_with (first | (refine wpList_store_midW rfl 24 _ _ rfl w2.heap.size 1 #[.int .u8 (x0 : Nat), .int .u8 (x1 : Nat), .int .u8 (x2 : Nat), .int .u8 (x3 : Nat)] rfl rfl S5.out.there infoAd (by simp [Value.oneCell']) w6 HW6.out ?_))
    refine (CT.out _ S6.out.e).mono ?_
    rintro e w7 ⟨v7, rfl, hb⟩
    have S7 := hide (S6.out.keep hb)
    clear hb
    obtain ⟨⟨c5, _, _, _⟩, f5, _, _, _⟩ := S7.out.cells
    have S8 := hide (S7.out.bits N)
    obtain ⟨w8, hw8⟩ : ∃ w8, w8 = w7.setCell ⟨w2.heap.size, 5, none⟩ (.int .i64 N) := ⟨_, rfl⟩
    rw [← hw8] at S8
    have HW8 := hide hw8
    clear hw8
    go_wp2_with fail
    rw [← HW8.out]
    clear c5 f5
    refine (C4.out _ S8.out.v).mono ?_
    rintro e wa ⟨rfl, hb⟩
    have SA := hide (S8.out.keep hb)
    clear hb
    by_cases h45 : 45 ∈ po
    · rw [decide_eq_true h45]
      have HH : Hid (hghT po = cutA 45 po) := by show _ = _; rw [hghT, if_pos h45]
      clear h45
      have hLB : byt (strN (cutB 45 po)) = cutB 45 po := strN_lt fun x hx => PLT.out x (LB.out x hx)
      have hLA : byt (strN (cutA 45 po)) = cutA 45 po := strN_lt fun x hx => PLT.out x (LA.out x hx)
      have CL : Hid (∀ W, Calls Tryz.prog 51 #[.string (strN (cutB 45 po))] W fun e w' => ∃ v, e = .returned (.tuple #[.int .i64 ((port (cutB 45 po)).1 : Nat), v]) ∧ Below W.heap.size W w') := fun W => by
        refine (parsePort_at (strN (cutB 45 po)) W (by rw [strN_size]; unfold maxLen; omega)).mono ?_
        rintro e w' ⟨v, rfl, _, hb⟩
        exact ⟨v, by rw [hLB], hb⟩
      have CH : Hid (∀ W, Calls Tryz.prog 51 #[.string (strN (cutA 45 po))] W fun e w' => ∃ v, e = .returned (.tuple #[.int .i64 ((port (cutA 45 po)).1 : Nat), v]) ∧ Below W.heap.size W w') := fun W => by
        refine (parsePort_at (strN (cutA 45 po)) W (by rw [strN_size]; unfold maxLen; omega)).mono ?_
        rintro e w' ⟨v, rfl, _, hb⟩
        exact ⟨v, by rw [hLA], hb⟩
      rw [HH.out] at HM
      obtain ⟨y1, hy1⟩ : ∃ y1, y1 = (port (cutB 45 po)).1 := ⟨_, rfl⟩
      rw [← hy1] at CL HM
      obtain ⟨y2, hy2⟩ : ∃ y2, y2 = (port (cutA 45 po)).1 := ⟨_, rfl⟩
      rw [← hy2] at CH HM
      clear hy2
      clear hy1 hLB hLA
      go_wp2_with fail
      refine (CL.out _).mono ?_
      rintro e wb ⟨vb, rfl, hb⟩
      have SB := hide (SA.out.keep hb)
      clear hb
      obtain ⟨⟨_, _, c7, _⟩, _, _, f7, _⟩ := SB.out.cells
      go_wp2_with fail
      have SC := hide (SB.out.lw (y1 : Int))
      clear c7 f7
      obtain ⟨wc, hwc⟩ : ∃ wc, wc = wb.setCell ⟨w2.heap.size, 7, none⟩ (.int .i64 (y1 : Int)) := ⟨_, rfl⟩
      rw [← hwc] at SC ⊢
      clear hwc
      refine (CH.out _).mono ?_
      rintro e wd ⟨vd, rfl, hb⟩
      have SD := hide (SC.out.keep hb)
      clear hb
      obtain ⟨⟨_, _, _, c8⟩, _, _, _, f8⟩ := SD.out.cells
      have SE := hide (SD.out.hg (y2 : Int))
      obtain ⟨we, hwe⟩ : ∃ we, we = wd.setCell ⟨w2.heap.size, 8, none⟩ (.int .i64 (y2 : Int)) := ⟨_, rfl⟩
      rw [← hwe] at SE
      have HWE := hide hwe
      obtain ⟨q, hq⟩ : ∃ q : Ru, q = ⟨al, (x0, x1, x2, x3), N, ⟨#[]⟩, (y1 : Int), (y2 : Int)⟩ := ⟨_, rfl⟩
      have SF : Hid (MS w we w2.heap.size q) := by rw [hq]; exact SE.out
      have HMQ : Hid (M = q) := by show _ = _; rw [HM.out, HTM.out, hq]
      obtain ⟨wf, hwf⟩ : ∃ wf, wf = we.setRow w.heap.size (ruC q).toArray := ⟨_, rfl⟩
      have HWF := hide hwf
      have RF : Hid (wf.heap[w.heap.size]? = some (.cells (ruC q).toArray 37)) := by rw [hwf]; exact setRow_heap _ _ _ _ _ SF.out.res
      have BF : Hid (Below w.heap.size w wf) := by rw [hwf]; exact below_setRow SF.out.below (Nat.le_refl _) _
      clear hwf hwe hq SE
      go_wp2_with (first | (rw [← HWE.out]; refine wpList_load_row rfl 37 _ rfl w2.heap.size rfl 37 _ (0, 0) _ SF.out.box Tryz.underlying37 rfl infoRu ?_) | (refine wpList_store_rowW rfl 37 _ _ rfl w.heap.size (ruC q).toArray rfl rfl 37 zRu SF.out.res infoRu rfl (ruC_all q) wf HWF.out ?_))
      rw [HMQ.out]
      refine bodyPost_ret (results_cell_row rfl _ _ w.heap.size 37 (ruC q).toArray (0, 0) _ rfl RF.out Tryz.underlying37 rfl infoRu) rfl ⟨rfl, BF.out⟩
    · rw [decide_eq_false h45]
      have HH : Hid (hghT po = cutB 45 po) := by show _ = _; rw [hghT, if_neg h45]
      clear h45
      have hLB : byt (strN (cutB 45 po)) = cutB 45 po := strN_lt fun x hx => PLT.out x (LB.out x hx)
      have hLA : byt (strN (cutA 45 po)) = cutA 45 po := strN_lt fun x hx => PLT.out x (LA.out x hx)
      have CL : Hid (∀ W, Calls Tryz.prog 51 #[.string (strN (cutB 45 po))] W fun e w' => ∃ v, e = .returned (.tuple #[.int .i64 ((port (cutB 45 po)).1 : Nat), v]) ∧ Below W.heap.size W w') := fun W => by
        refine (parsePort_at (strN (cutB 45 po)) W (by rw [strN_size]; unfold maxLen; omega)).mono ?_
        rintro e w' ⟨v, rfl, _, hb⟩
        exact ⟨v, by rw [hLB], hb⟩
      rw [HH.out] at HM
      obtain ⟨y1, hy1⟩ : ∃ y1, y1 = (port (cutB 45 po)).1 := ⟨_, rfl⟩
      rw [← hy1] at CL HM
      clear hy1 hLB hLA
      go_wp2_with fail
      refine (CL.out _).mono ?_
      rintro e wb ⟨vb, rfl, hb⟩
      have SB := hide (SA.out.keep hb)
      clear hb
      obtain ⟨⟨_, _, c7, _⟩, _, _, f7, _⟩ := SB.out.cells
      go_wp2_with fail
      have SC := hide (SB.out.lw (y1 : Int))
      clear c7 f7
      obtain ⟨wc, hwc⟩ : ∃ wc, wc = wb.setCell ⟨w2.heap.size, 7, none⟩ (.int .i64 (y1 : Int)) := ⟨_, rfl⟩
      rw [← hwc] at SC ⊢
      clear hwc
      refine (CL.out _).mono ?_
      rintro e wd ⟨vd, rfl, hb⟩
      have SD := hide (SC.out.keep hb)
      clear hb
      obtain ⟨⟨_, _, _, c8⟩, _, _, _, f8⟩ := SD.out.cells
      have SE := hide (SD.out.hg (y1 : Int))
      obtain ⟨we, hwe⟩ : ∃ we, we = wd.setCell ⟨w2.heap.size, 8, none⟩ (.int .i64 (y1 : Int)) := ⟨_, rfl⟩
      rw [← hwe] at SE
      have HWE := hide hwe
      obtain ⟨q, hq⟩ : ∃ q : Ru, q = ⟨al, (x0, x1, x2, x3), N, ⟨#[]⟩, (y1 : Int), (y1 : Int)⟩ := ⟨_, rfl⟩
      have SF : Hid (MS w we w2.heap.size q) := by rw [hq]; exact SE.out
      have HMQ : Hid (M = q) := by show _ = _; rw [HM.out, HTM.out, hq]
      obtain ⟨wf, hwf⟩ : ∃ wf, wf = we.setRow w.heap.size (ruC q).toArray := ⟨_, rfl⟩
      have HWF := hide hwf
      have RF : Hid (wf.heap[w.heap.size]? = some (.cells (ruC q).toArray 37)) := by rw [hwf]; exact setRow_heap _ _ _ _ _ SF.out.res
      have BF : Hid (Below w.heap.size w wf) := by rw [hwf]; exact below_setRow SF.out.below (Nat.le_refl _) _
      clear hwf hwe hq SE
      go_wp2_with (first | (rw [← HWE.out]; refine wpList_load_row rfl 37 _ rfl w2.heap.size rfl 37 _ (0, 0) _ SF.out.box Tryz.underlying37 rfl infoRu ?_) | (refine wpList_store_rowW rfl 37 _ _ rfl w.heap.size (ruC q).toArray rfl rfl 37 zRu SF.out.res infoRu rfl (ruC_all q) wf HWF.out ?_))
      rw [HMQ.out]
      refine bodyPost_ret (results_cell_row rfl _ _ w.heap.size 37 (ruC q).toArray (0, 0) _ rfl RF.out Tryz.underlying37 rfl infoRu) rfl ⟨rfl, BF.out⟩
  · rw [decide_eq_false h47]
    have hTG : byt (strN tg) = tg := strN_lt TLT.out
    have CN : Hid (∀ W, Vars W → Calls Tryz.prog 42 #[.string (strN tg)] W fun e w' => ∃ v, e = .returned (.tuple #[.string (strN (name tg).1), v]) ∧ Below W.heap.size W w') := fun W hv => by
      refine (parseName_at (strN tg) W (by rw [strN_size]; unfold maxLen; omega) hv).mono ?_
      rintro e w' ⟨v, rfl, _, hb⟩
      exact ⟨v, by rw [hTG], hb⟩
    have HTM : Hid (tarM tg = ((0, 0, 0, 0), 0, strN (name tg).1)) := by
      show _ = _
      rw [tarM, if_neg h47]
    obtain ⟨N, hN⟩ : ∃ N, N = strN (name tg).1 := ⟨_, rfl⟩
    rw [← hN] at CN HTM
    clear hTG hN h47
    go_wp2_with fail
    refine (CN.out _ S4.out.v).mono ?_
    rintro e w7 ⟨v7, rfl, hb⟩
    have S7 := hide (S4.out.keep hb)
    clear hb
    obtain ⟨⟨_, c6, _, _⟩, _, f6, _, _⟩ := S7.out.cells
    have S8 := hide (S7.out.suf N)
    obtain ⟨w8, hw8⟩ : ∃ w8, w8 = w7.setCell ⟨w2.heap.size, 6, none⟩ (.string N) := ⟨_, rfl⟩
    rw [← hw8] at S8
    have HW8 := hide hw8
    clear hw8
    go_wp2_with fail
    rw [← HW8.out]
    clear c6 f6
    refine (C4.out _ S8.out.v).mono ?_
    rintro e wa ⟨rfl, hb⟩
    have SA := hide (S8.out.keep hb)
    clear hb
    by_cases h45 : 45 ∈ po
    · rw [decide_eq_true h45]
      have HH : Hid (hghT po = cutA 45 po) := by show _ = _; rw [hghT, if_pos h45]
      clear h45
      have hLB : byt (strN (cutB 45 po)) = cutB 45 po := strN_lt fun x hx => PLT.out x (LB.out x hx)
      have hLA : byt (strN (cutA 45 po)) = cutA 45 po := strN_lt fun x hx => PLT.out x (LA.out x hx)
      have CL : Hid (∀ W, Calls Tryz.prog 51 #[.string (strN (cutB 45 po))] W fun e w' => ∃ v, e = .returned (.tuple #[.int .i64 ((port (cutB 45 po)).1 : Nat), v]) ∧ Below W.heap.size W w') := fun W => by
        refine (parsePort_at (strN (cutB 45 po)) W (by rw [strN_size]; unfold maxLen; omega)).mono ?_
        rintro e w' ⟨v, rfl, _, hb⟩
        exact ⟨v, by rw [hLB], hb⟩
      have CH : Hid (∀ W, Calls Tryz.prog 51 #[.string (strN (cutA 45 po))] W fun e w' => ∃ v, e = .returned (.tuple #[.int .i64 ((port (cutA 45 po)).1 : Nat), v]) ∧ Below W.heap.size W w') := fun W => by
        refine (parsePort_at (strN (cutA 45 po)) W (by rw [strN_size]; unfold maxLen; omega)).mono ?_
        rintro e w' ⟨v, rfl, _, hb⟩
        exact ⟨v, by rw [hLA], hb⟩
      rw [HH.out] at HM
      obtain ⟨y1, hy1⟩ : ∃ y1, y1 = (port (cutB 45 po)).1 := ⟨_, rfl⟩
      rw [← hy1] at CL HM
      obtain ⟨y2, hy2⟩ : ∃ y2, y2 = (port (cutA 45 po)).1 := ⟨_, rfl⟩
      rw [← hy2] at CH HM
      clear hy2
      clear hy1 hLB hLA
      go_wp2_with fail
      refine (CL.out _).mono ?_
      rintro e wb ⟨vb, rfl, hb⟩
      have SB := hide (SA.out.keep hb)
      clear hb
      obtain ⟨⟨_, _, c7, _⟩, _, _, f7, _⟩ := SB.out.cells
      go_wp2_with fail
      have SC := hide (SB.out.lw (y1 : Int))
      clear c7 f7
      obtain ⟨wc, hwc⟩ : ∃ wc, wc = wb.setCell ⟨w2.heap.size, 7, none⟩ (.int .i64 (y1 : Int)) := ⟨_, rfl⟩
      rw [← hwc] at SC ⊢
      clear hwc
      refine (CH.out _).mono ?_
      rintro e wd ⟨vd, rfl, hb⟩
      have SD := hide (SC.out.keep hb)
      clear hb
      obtain ⟨⟨_, _, _, c8⟩, _, _, _, f8⟩ := SD.out.cells
      have SE := hide (SD.out.hg (y2 : Int))
      obtain ⟨we, hwe⟩ : ∃ we, we = wd.setCell ⟨w2.heap.size, 8, none⟩ (.int .i64 (y2 : Int)) := ⟨_, rfl⟩
      rw [← hwe] at SE
      have HWE := hide hwe
      obtain ⟨q, hq⟩ : ∃ q : Ru, q = ⟨al, (0, 0, 0, 0), 0, N, (y1 : Int), (y2 : Int)⟩ := ⟨_, rfl⟩
      have SF : Hid (MS w we w2.heap.size q) := by rw [hq]; exact SE.out
      have HMQ : Hid (M = q) := by show _ = _; rw [HM.out, HTM.out, hq]
      obtain ⟨wf, hwf⟩ : ∃ wf, wf = we.setRow w.heap.size (ruC q).toArray := ⟨_, rfl⟩
      have HWF := hide hwf
      have RF : Hid (wf.heap[w.heap.size]? = some (.cells (ruC q).toArray 37)) := by rw [hwf]; exact setRow_heap _ _ _ _ _ SF.out.res
      have BF : Hid (Below w.heap.size w wf) := by rw [hwf]; exact below_setRow SF.out.below (Nat.le_refl _) _
      clear hwf hwe hq SE
      go_wp2_with (first | (rw [← HWE.out]; refine wpList_load_row rfl 37 _ rfl w2.heap.size rfl 37 _ (0, 0) _ SF.out.box Tryz.underlying37 rfl infoRu ?_) | (refine wpList_store_rowW rfl 37 _ _ rfl w.heap.size (ruC q).toArray rfl rfl 37 zRu SF.out.res infoRu rfl (ruC_all q) wf HWF.out ?_))
      rw [HMQ.out]
      refine bodyPost_ret (results_cell_row rfl _ _ w.heap.size 37 (ruC q).toArray (0, 0) _ rfl RF.out Tryz.underlying37 rfl infoRu) rfl ⟨rfl, BF.out⟩
    · rw [decide_eq_false h45]
      have HH : Hid (hghT po = cutB 45 po) := by show _ = _; rw [hghT, if_neg h45]
      clear h45
      have hLB : byt (strN (cutB 45 po)) = cutB 45 po := strN_lt fun x hx => PLT.out x (LB.out x hx)
      have hLA : byt (strN (cutA 45 po)) = cutA 45 po := strN_lt fun x hx => PLT.out x (LA.out x hx)
      have CL : Hid (∀ W, Calls Tryz.prog 51 #[.string (strN (cutB 45 po))] W fun e w' => ∃ v, e = .returned (.tuple #[.int .i64 ((port (cutB 45 po)).1 : Nat), v]) ∧ Below W.heap.size W w') := fun W => by
        refine (parsePort_at (strN (cutB 45 po)) W (by rw [strN_size]; unfold maxLen; omega)).mono ?_
        rintro e w' ⟨v, rfl, _, hb⟩
        exact ⟨v, by rw [hLB], hb⟩
      rw [HH.out] at HM
      obtain ⟨y1, hy1⟩ : ∃ y1, y1 = (port (cutB 45 po)).1 := ⟨_, rfl⟩
      rw [← hy1] at CL HM
      clear hy1 hLB hLA
      go_wp2_with fail
      refine (CL.out _).mono ?_
      rintro e wb ⟨vb, rfl, hb⟩
      have SB := hide (SA.out.keep hb)
      clear hb
      obtain ⟨⟨_, _, c7, _⟩, _, _, f7, _⟩ := SB.out.cells
      go_wp2_with fail
      have SC := hide (SB.out.lw (y1 : Int))
      clear c7 f7
      obtain ⟨wc, hwc⟩ : ∃ wc, wc = wb.setCell ⟨w2.heap.size, 7, none⟩ (.int .i64 (y1 : Int)) := ⟨_, rfl⟩
      rw [← hwc] at SC ⊢
      clear hwc
      refine (CL.out _).mono ?_
      rintro e wd ⟨vd, rfl, hb⟩
      have SD := hide (SC.out.keep hb)
      clear hb
      obtain ⟨⟨_, _, _, c8⟩, _, _, _, f8⟩ := SD.out.cells
      have SE := hide (SD.out.hg (y1 : Int))
      obtain ⟨we, hwe⟩ : ∃ we, we = wd.setCell ⟨w2.heap.size, 8, none⟩ (.int .i64 (y1 : Int)) := ⟨_, rfl⟩
      rw [← hwe] at SE
      have HWE := hide hwe
      obtain ⟨q, hq⟩ : ∃ q : Ru, q = ⟨al, (0, 0, 0, 0), 0, N, (y1 : Int), (y1 : Int)⟩ := ⟨_, rfl⟩
      have SF : Hid (MS w we w2.heap.size q) := by rw [hq]; exact SE.out
      have HMQ : Hid (M = q) := by show _ = _; rw [HM.out, HTM.out, hq]
      obtain ⟨wf, hwf⟩ : ∃ wf, wf = we.setRow w.heap.size (ruC q).toArray := ⟨_, rfl⟩
      have HWF := hide hwf
      have RF : Hid (wf.heap[w.heap.size]? = some (.cells (ruC q).toArray 37)) := by rw [hwf]; exact setRow_heap _ _ _ _ _ SF.out.res
      have BF : Hid (Below w.heap.size w wf) := by rw [hwf]; exact below_setRow SF.out.below (Nat.le_refl _) _
      clear hwf hwe hq SE
      go_wp2_with (first | (rw [← HWE.out]; refine wpList_load_row rfl 37 _ rfl w2.heap.size rfl 37 _ (0, 0) _ SF.out.box Tryz.underlying37 rfl infoRu ?_) | (refine wpList_store_rowW rfl 37 _ _ rfl w.heap.size (ruC q).toArray rfl rfl 37 zRu SF.out.res infoRu rfl (ruC_all q) wf HWF.out ?_))
      rw [HMQ.out]
      refine bodyPost_ret (results_cell_row rfl _ _ w.heap.size 37 (ruC q).toArray (0, 0) _ rfl RF.out Tryz.underlying37 rfl infoRu) rfl ⟨rfl, BF.out⟩

end Go.Proofs.YtiejandeoopiiaaGreatDoor
