/-
  The reference's Parse; conditions as each theorem has them.
-/
import Derived.Test.YtiejandeoopiiaaGreatDoorTRB
set_option linter.unusedSimpArgs false
set_option linter.unusedVariables false
namespace Go.Proofs.YtiejandeoopiiaaGreatDoor
open Go.RowKit

set_option maxRecDepth 100000 in
set_option maxHeartbeats 4000000 in
theorem rParse_d1 (t : ByteArray) (w : World) (hm : t.size ≤ 2000000) (hV : Vars w) (hE : Errs w) (HRD : Rd (byt t) false 1) : Calls Tryz.prog 18 #[.string t] w fun e w' => e = .returned (.tuple #[.agg (ruC (prsR (byt t))).toArray, .int .i64 (prsE (byt t) : Nat)]) ∧ Below w.heap.size w w' := by
  obtain ⟨w0, hw0⟩ : ∃ w0, w0 = w.alloc (.cells zRu 37) := ⟨_, rfl⟩
  have B0 : Hid (Below w.heap.size w w0) := by rw [hw0]; exact (Below.refl _ _).alloc (Nat.le_refl _) _
  have r0 : Hid (w0.heap[w.heap.size]? = some (.cells zRu 37)) := by rw [hw0]; exact alloc_new _ _
  have HW0 : Hid (w.alloc (.cells #[.bool false, .int .u8 0, .int .u8 0, .int .u8 0, .int .u8 0, .int .i64 0, .string ⟨#[]⟩, .int .i64 0, .int .i64 0] 37) = w0) := hw0.symm
  have V0 := hide (hV.below B0.out)
  have E0 := hide (hE.below B0.out)
  have HWD := hide (words_at t 32 w0 (by unfold maxLen; omega) (by omega) (by omega))
  have hlt := byt_lt t
  have hlen : (byt t).length = t.size := byt_length t
  obtain ⟨l, hl⟩ : ∃ l, l = byt t := ⟨_, rfl⟩
  rw [← hl] at HWD hlt hlen HRD
  have HRDl := hide HRD
  clear HRD
  obtain ⟨PR, hPR⟩ : ∃ PR, PR = prsR (byt t) := ⟨_, rfl⟩
  obtain ⟨PE, hPE⟩ : ∃ PE, PE = prsE (byt t) := ⟨_, rfl⟩
  rw [← hPR, ← hPE]
  rw [← hl] at hPR hPE
  have bad : Hid (rprs l = none → PR = noRu ∧ PE = 120) := fun h => by
    rw [rprs_eq hlt] at h
    exact ⟨by rw [hPR, prsR, h]; rfl, by rw [hPE, prsE, h]; rfl⟩
  have good : Hid (∀ r, rprs l = some r → PR = r ∧ PE = 0) := fun r h => by
    rw [rprs_eq hlt] at h
    exact ⟨by rw [hPR, prsR, h]; rfl, by rw [hPE, prsE, h]; rfl⟩
  obtain ⟨N, hN⟩ : ∃ N, N = t.size := ⟨_, rfl⟩
  have hNI : (t.size : Int) = (N : Int) := by rw [hN]
  rw [← hN] at hlen hm
  have HLEN := hide hlen
  have HLT := hide hlt
  have hwl := (wrd_len 32 l).1
  rw [hlen] at hwl
  clear hw0 hV hE hPR hPE hN hlen hlt hl
  go_enter Tryz.func18, Tryz.ntmps18
  go_wp2_with fail
  rw [HW0.out]
  refine HWD.out.mono ?_
  rintro e w1 ⟨o1, rfl, ho, hb⟩
  have B1 := hide (B0.out.trans (hb.mono B0.out.size))
  have r1 := hide (keepB hb r0.out)
  have V1 := hide (V0.out.below hb)
  have E1 := hide (E0.out.below hb)
  obtain ⟨a1, c1, rfl, s1⟩ := own_srcV ho
  rw [strs_length] at s1 ⊢
  have S1 := hide s1
  have hc1 := s1.hcap
  have hx1 := s1.hmax
  unfold maxLen at hx1
  obtain ⟨n1, hn1⟩ : ∃ n, n = (wrd 32 l).length := ⟨_, rfl⟩
  rw [← hn1] at S1 hc1 hwl ⊢
  have HN1 := hide hn1
  clear hn1 s1 ho hb HWD V0 E0 B0 r0 HW0
  by_cases h285 : 285 < N
  · have q0 : decide ((285 : Int) < (N : Int)) = true := decide_eq_true (by omega)
    have q0' : decide (285 < N) = true := decide_eq_true h285
    obtain ⟨rfl, rfl⟩ := bad.out (rprs_long (by rw [HLEN.out]; exact h285))
    obtain ⟨wz, hwz⟩ : ∃ wz, wz = w1.setRow w.heap.size zRu := ⟨_, rfl⟩
    have RZ : Hid (wz.heap[w.heap.size]? = some (.cells zRu 37)) := by rw [hwz]; exact setRow_heap _ _ _ _ _ r1.out
    have BZ : Hid (Below w.heap.size w wz) := by rw [hwz]; exact below_setRow B1.out (Nat.le_refl _) _
    have HWZ := hide hwz
    clear hwz
    go_wp2_with (first | (refine wpList_store_rowW rfl 37 _ _ rfl w.heap.size zRu rfl rfl 37 zRu r1.out infoRu rfl (ruC_all noRu) wz HWZ.out ?_))
    refine bodyPost_ret (res_cell_tmp rfl _ _ w.heap.size 37 zRu (0, 0) _ rfl RZ.out Tryz.underlying37 rfl infoRu) rfl ⟨rfl, BZ.out⟩
  have q0 : decide ((285 : Int) < (N : Int)) = false := decide_eq_false (by omega)
  have q0' : decide (285 < N) = false := decide_eq_false (by omega)
  by_cases h3 : n1 = 3
  case neg =>
    have q1 : ((n1 : Int) != 3) = true := by simp; omega
    have q1' : ((n1 : Int) == 3) = false := by simp; omega
    obtain ⟨rfl, rfl⟩ := bad.out (rprs_not (by rw [← HN1.out]; exact h3))
    obtain ⟨wz, hwz⟩ : ∃ wz, wz = w1.setRow w.heap.size zRu := ⟨_, rfl⟩
    have RZ : Hid (wz.heap[w.heap.size]? = some (.cells zRu 37)) := by rw [hwz]; exact setRow_heap _ _ _ _ _ r1.out
    have BZ : Hid (Below w.heap.size w wz) := by rw [hwz]; exact below_setRow B1.out (Nat.le_refl _) _
    have HWZ := hide hwz
    clear hwz
    go_wp2_with (first | (refine wpList_store_rowW rfl 37 _ _ rfl w.heap.size zRu rfl rfl 37 zRu r1.out infoRu rfl (ruC_all noRu) wz HWZ.out ?_))
    refine bodyPost_ret (res_cell_tmp rfl _ _ w.heap.size 37 zRu (0, 0) _ rfl RZ.out Tryz.underlying37 rfl infoRu) rfl ⟨rfl, BZ.out⟩
  subst h3
  obtain ⟨v, tg, po, hw3⟩ := len_three HN1.out.symm
  rw [hw3] at S1
  have HR := hide (rprs_three (by rw [HLEN.out]; omega) hw3)
  have HRX := hide (HRDl.out v tg po hw3)
  have hmem := wrd_mem 32 l
  have hsz := (wrd_len 32 l).2
  rw [hw3] at hmem hsz
  have vlt : ∀ x ∈ v, x < 256 := fun x hx => HLT.out x (hmem v (by simp) x hx)
  have tlt : ∀ x ∈ tg, x < 256 := fun x hx => HLT.out x (hmem tg (by simp) x hx)
  have plt : ∀ x ∈ po, x < 256 := fun x hx => HLT.out x (hmem po (by simp) x hx)
  have tll : tg.length ≤ 285 := by have := hsz tg (by simp); rw [HLEN.out] at this; omega
  have pll : po.length ≤ 285 := by have := hsz po (by simp); rw [HLEN.out] at this; omega
  obtain ⟨b1, o1, rfl, hb1, _, hcell⟩ := S1.out.lies (by omega)
  have k0 : w1.cell? ⟨b1, o1, none⟩ = some (.string (strN v)) := hcell 0 _ rfl
  have k1 : w1.cell? ⟨b1, o1 + 1, none⟩ = some (.string (strN tg)) := hcell 1 _ rfl
  have k2 : w1.cell? ⟨b1, o1 + 2, none⟩ = some (.string (strN po)) := hcell 2 _ rfl
  have e0 := toList_byt (strN v) [97, 108, 108, 111, 119]
  have e1 := toList_byt (strN v) [100, 101, 110, 121]
  rw [strN_lt vlt, show ([97, 108, 108, 111, 119] : List UInt8).map UInt8.toNat = allowT from rfl] at e0
  rw [strN_lt vlt, show ([100, 101, 110, 121] : List UInt8).map UInt8.toNat = denyT from rfl] at e1
  obtain ⟨VV, hVV⟩ : ∃ x, x = strN v := ⟨_, rfl⟩
  rw [← hVV] at k0 e0 e1
  have K0 := hide k0
  have K1 := hide k1
  have K2 := hide k2
  have HW2 : Hid (∀ W, Calls Tryz.prog 35 #[.string (strN po), .int .u8 45] W fun e w' => ∃ o, e = .returned o ∧ Own w' W.heap.size 9 o (strs (wrd 45 po)) ∧ Below W.heap.size W w') := fun W => by
    have := words_at (strN po) 45 W (by rw [strN_size]; unfold maxLen; omega) (by rw [strN_size]; omega) (by omega)
    rw [strN_lt plt] at this
    exact this
  obtain ⟨PP, hPP⟩ : ∃ x, x = strN po := ⟨_, rfl⟩
  rw [← hPP] at k2 K2 HW2
  clear hmem hsz vlt hcell hVV hw3 S1 k1 hPP
  have HW47 : Hid (∀ W, Calls Tryz.prog 35 #[.string (strN tg), .int .u8 47] W fun e w' => ∃ o, e = .returned o ∧ Own w' W.heap.size 9 o (strs (wrd 47 tg)) ∧ Below W.heap.size W w') := fun W => by
    have := words_at (strN tg) 47 W (by rw [strN_size]; unfold maxLen; omega) (by rw [strN_size]; omega) (by omega)
    rw [strN_lt tlt] at this
    exact this
  have TLT := hide tlt
  have HR0 := HR
  by_cases hv : v = allowT ∨ v = denyT
  case neg =>
    rw [decide_eq_false (fun h => hv (Or.inl h))] at e0
    rw [decide_eq_false (fun h => hv (Or.inr h))] at e1
    obtain ⟨rfl, rfl⟩ := bad.out (by rw [HR.out, if_neg hv])
    obtain ⟨wz, hwz⟩ : ∃ wz, wz = w1.setRow w.heap.size zRu := ⟨_, rfl⟩
    have RZ : Hid (wz.heap[w.heap.size]? = some (.cells zRu 37)) := by rw [hwz]; exact setRow_heap _ _ _ _ _ r1.out
    have BZ : Hid (Below w.heap.size w wz) := by rw [hwz]; exact below_setRow B1.out (Nat.le_refl _) _
    have HWZ := hide hwz
    clear hwz
    go_wp2_with (first | (refine wpList_store_rowW rfl 37 _ _ rfl w.heap.size zRu rfl rfl 37 zRu r1.out infoRu rfl (ruC_all noRu) wz HWZ.out ?_))
    refine bodyPost_ret (res_cell_tmp rfl _ _ w.heap.size 37 zRu (0, 0) _ rfl RZ.out Tryz.underlying37 rfl infoRu) rfl ⟨rfl, BZ.out⟩

  rcases hv with ha | ha
  ·
    exact absurd (HRX.out (Or.inl ha)).1 (by rw [ha]; decide)
  · have hv : v = allowT ∨ v = denyT := Or.inr ha
    have HLN := hide (HRX.out hv).2
    have hal : decide (v = allowT) = false := decide_eq_false (fun h => by rw [h] at ha; exact absurd ha (by decide))
    rw [hal] at e0
    rw [decide_eq_true ha] at e1
    have HR : Hid (rprs l = (porR po).bind fun q => (tarR tg).bind fun z => if (mkA false q z).right = true then some (mkA false q z) else none) := rprs_al hv hal HR0.out
    have m2 : (w1.alloc (.cells #[.bool false, .int .u8 0, .int .u8 0, .int .u8 0, .int .u8 0, .int .i64 0, .string ⟨#[]⟩, .int .i64 0, .int .i64 0] 37)).cell? ⟨b1, o1 + 2, none⟩ = some (.string PP) := (((Below.refl w1.heap.size w1).alloc (Nat.le_refl _) _).cell (p := ⟨b1, o1 + 2, none⟩) hb1).trans k2
    clear hv hal ha HR0
    go_wp2_with fail
    obtain ⟨w3, hw3⟩ : ∃ w3, w3 = w1.alloc (.cells #[.bool false, .int .u8 0, .int .u8 0, .int .u8 0, .int .u8 0, .int .i64 0, .string ⟨#[]⟩, .int .i64 0, .int .i64 0] 37) := ⟨_, rfl⟩
    have hb : Below w1.heap.size w1 w3 := by rw [hw3]; exact (Below.refl _ _).alloc (Nat.le_refl _) _
    have hlt3 : w.heap.size < w1.heap.size := lt_of_some r1.out
    have S3 : Hid (MS w w3 w1.heap.size ⟨false, (0, 0, 0, 0), 0, ⟨#[]⟩, 0, 0⟩) :=
      ⟨B1.out.trans (hb.mono B1.out.size), hlt3, keepB hb r1.out, by rw [hw3]; exact alloc_new _ _, V1.out.below hb, E1.out.below hb⟩
    have K1' := hide ((hb.cell (p := ⟨b1, o1 + 1, none⟩) hb1).trans K1.out)
    have hb3 : b1 < w3.heap.size := Nat.lt_of_lt_of_le hb1 hb.size
    have hg3 : w1.heap.size < w3.heap.size := by rw [hw3]; simp
    rw [← hw3]
    clear hw3 hb m2 k0 k2 e0 e1 K0 K2
    refine (HW2.out _).mono ?_
    rintro e w4 ⟨o4, rfl, ho4, hb4⟩
    have S4 := hide (S3.out.keep hb4)
    have K4 := hide ((hb4.cell (p := ⟨b1, o1 + 1, none⟩) hb3).trans K1'.out)
    obtain ⟨a4, c4, rfl, s4⟩ := own_srcV ho4
    rw [strs_length] at s4 ⊢
    clear ho4 hb4 K1' HW2 S3
    obtain ⟨p0, pr, hpw⟩ := List.exists_cons_of_ne_nil (wrd_ne 45 po)
    rw [hpw] at s4 ⊢
    have hsp := (wrd_len 45 po).2
    have hmp := wrd_mem 45 po
    rw [hpw] at hsp hmp
    have p0t : ∀ x ∈ p0, x < 256 := fun x hx => plt x (hmp p0 (by simp) x hx)
    have p0l : p0.length ≤ 285 := by have := hsp p0 (by simp); omega
    obtain ⟨b4, o4, rfl, hb4, hB4, hcell⟩ := s4.lies (by simp)
    have hc4 := s4.hcap
    have hx4 := s4.hmax
    unfold maxLen at hx4
    have j0 : w4.cell? ⟨b4, o4, none⟩ = some (.string (strN p0)) := hcell 0 _ rfl
    have HWH : Hid (∀ W, Calls Tryz.prog 36 #[.string (strN p0), .int .i64 5] W fun e w' => e = .returned (two (wh p0 5)) ∧ W = w') := fun W => by
      have := whole_at (strN p0) 5 W (by rw [strN_size]; unfold maxLen; omega) (by omega)
      rw [strN_lt p0t] at this
      exact this
    obtain ⟨P0, hP0⟩ : ∃ x, x = strN p0 := ⟨_, rfl⟩
    rw [← hP0] at j0 HWH
    obtain ⟨n4, hn4⟩ : ∃ n, n = (p0 :: pr).length := ⟨_, rfl⟩
    have h14 : 1 ≤ n4 := by rw [hn4]; simp
    rw [← hn4] at hc4 ⊢
    have HN4 := hide hn4
    have S4L := hide s4
    clear hP0 hn4 s4
    go_wp2_with fail
    refine (HWH.out _).mono ?_
    rintro e w5 ⟨rfl, rfl⟩
    clear HWH j0
    unfold two
    rcases pr with _ | ⟨p1, _ | ⟨p2, pr⟩⟩
    · obtain rfl : n4 = 1 := HN4.out
      have HP : Hid (porR po = (wh p0 5).map fun n => (n, n)) := by show _ = _; unfold porR; rw [hpw]
      obtain ⟨O, hO⟩ : ∃ x, x = wh p0 5 := ⟨_, rfl⟩
      rw [← hO] at HP ⊢
      obtain ⟨⟨_, _, c7, c8⟩, _, _, f7, f8⟩ := S4.out.cells
      obtain ⟨nl, hnl⟩ : ∃ n : Nat, n = O.getD 0 := ⟨_, rfl⟩
      rw [← hnl]
      obtain ⟨w6, hw6⟩ : ∃ w6, w6 = (w4.setCell ⟨w1.heap.size, 7, none⟩ (.int .i64 (nl : Int))).setCell ⟨w1.heap.size, 8, none⟩ (.int .i64 (nl : Int)) := ⟨_, rfl⟩
      have S6 : Hid (MS w w6 w1.heap.size ⟨false, (0, 0, 0, 0), 0, ⟨#[]⟩, (nl : Int), (nl : Int)⟩) := by rw [hw6]; exact (S4.out.lw _).hg _
      have HW6 := hide hw6
      have hbg : b1 ≠ w1.heap.size := by omega
      have K6 : Hid (w6.cell? ⟨b1, o1 + 1, none⟩ = some (.string (strN tg))) := by
        rw [hw6]
        exact (World.cell?_of_block (by rw [Below.heap_setCell _ _ _ _ (by simpa using hbg), Below.heap_setCell _ _ _ _ (by simpa using hbg)])).trans K4.out
      have HLE : Hid (w1.heap.size ≤ w6.heap.size) := by have := lt_of_some S6.out.box; show _ ≤ _; omega
    
      have HO9 := hide (fun n (e : O = some n) => wh_lt (e ▸ hO) (show 5 ≤ 5 by omega))
      clear hw6 hpw hO
      cases O with
      | none =>
        clear hnl
        obtain ⟨rfl, rfl⟩ := bad.out (by rw [HR.out, HP.out]; rfl)
        obtain ⟨wz, hwz⟩ : ∃ wz, wz = w6.setRow w.heap.size zRu := ⟨_, rfl⟩
        have RZ : Hid (wz.heap[w.heap.size]? = some (.cells zRu 37)) := by rw [hwz]; exact setRow_heap _ _ _ _ _ S6.out.res
        have BZ : Hid (Below w.heap.size w wz) := by rw [hwz]; exact below_setRow S6.out.below (Nat.le_refl _) _
        have HWZ := hide hwz
        clear hwz
        go_wp2_with (first | (rw [← HW6.out]; refine wpList_store_rowW rfl 37 _ _ rfl w.heap.size zRu rfl rfl 37 zRu S6.out.res infoRu rfl (ruC_all noRu) wz HWZ.out ?_))
        refine bodyPost_ret (res_cell_tmp rfl _ _ w.heap.size 37 zRu (0, 0) _ rfl RZ.out Tryz.underlying37 rfl infoRu) rfl ⟨rfl, BZ.out⟩
    
      | some n =>
        obtain rfl : nl = n := hnl
        have HP : Hid (porR po = some (nl, nl)) := HP.out
        have hnl9 := HO9.out nl rfl
        have k6 := K6.out
        rw [HW6.out] at k6
        go_wp2_with fail
        rw [← HW6.out]
        clear k6 c7 c8 f7 f8
        refine (HW47.out _).mono ?_
        rintro e w7 ⟨o7, rfl, ho7, hb7⟩
        have S7 := hide (S6.out.keep hb7)
        have K7 := hide ((hb7.cell (p := ⟨b1, o1 + 1, none⟩) (Nat.lt_of_lt_of_le hb1 HLE.out)).trans K6.out)
        have HB7 : Hid (w1.heap.size < w6.heap.size) := lt_of_some S6.out.box
        obtain ⟨a7, c7, rfl, s7⟩ := own_srcV ho7
        rw [strs_length] at s7 ⊢
        obtain ⟨b7, o7, rfl, hb7', hB7, hcell⟩ := s7.lies (List.length_pos_iff.2 (by simp [strs]; exact wrd_ne 47 tg) |> fun h => by simpa using h)
        have hc7 := s7.hcap
        have hx7 := s7.hmax
        unfold maxLen at hx7
        clear ho7 hb7 s7
        obtain ⟨n7, hn7⟩ : ∃ n, n = (wrd 47 tg).length := ⟨_, rfl⟩
        rw [← hn7] at hc7 ⊢
        by_cases h2 : n7 = 2
        case neg =>
          have q2 : ((n7 : Int) == 2) = false := by simp; omega
          have HT : Hid (tarR tg = if tg = [] then none else some ((0, 0, 0, 0), 0, strN tg)) := by
            show _ = _
            unfold tarR
            split
            · rename_i e; rw [e] at hn7; exact absurd hn7 h2
            · rfl
          have k7 := K7.out
          obtain ⟨⟨_, c6, _, _⟩, _, f6, _, _⟩ := S7.out.cells
          obtain ⟨TG, hTG⟩ : ∃ x, x = strN tg := ⟨_, rfl⟩
          have htl := toList_byt TG []
          rw [hTG, strN_lt TLT.out] at htl
          rw [← hTG] at k7 htl HT
          have hTs : TG.size ≤ 285 := by rw [hTG, strN_size]; exact tll
          obtain ⟨w8, hw8⟩ : ∃ w8, w8 = w7.setCell ⟨w1.heap.size, 6, none⟩ (.string TG) := ⟨_, rfl⟩
          have S8 := hide (S7.out.suf TG)
          rw [← hw8] at S8
          have k8 : (w7.setCell ⟨w1.heap.size, 6, none⟩ (.string TG)).cell? ⟨b1, o1 + 1, none⟩ = some (.string TG) := (World.cell?_of_block (Below.heap_setCell _ _ _ _ (by show b1 ≠ w1.heap.size; omega))).trans k7
          have HW8 := hide hw8
          have HTS := hide hTs
          clear hn7 hTG hcell hw8 hTs
          by_cases h0 : tg = []
          · rw [if_pos h0] at HT
            have htl' : (TG.toList == []) = true := by rw [htl]; simp [h0]
            clear htl h0
            obtain ⟨rfl, rfl⟩ := bad.out (by rw [HR.out, HP.out, HT.out]; rfl)
            obtain ⟨wz, hwz⟩ : ∃ wz, wz = w8.setRow w.heap.size zRu := ⟨_, rfl⟩
            have RZ : Hid (wz.heap[w.heap.size]? = some (.cells zRu 37)) := by rw [hwz]; exact setRow_heap _ _ _ _ _ S8.out.res
            have BZ : Hid (Below w.heap.size w wz) := by rw [hwz]; exact below_setRow S8.out.below (Nat.le_refl _) _
            have HWZ := hide hwz
            clear hwz
            go_wp2_with (first | (rw [← HW8.out]; refine wpList_store_rowW rfl 37 _ _ rfl w.heap.size zRu rfl rfl 37 zRu S8.out.res infoRu rfl (ruC_all noRu) wz HWZ.out ?_))
            refine bodyPost_ret (res_cell_tmp rfl _ _ w.heap.size 37 zRu (0, 0) _ rfl RZ.out Tryz.underlying37 rfl infoRu) rfl ⟨rfl, BZ.out⟩
        
          · rw [if_neg h0] at HT
            have htl' : (TG.toList == []) = false := by rw [htl]; simp [h0]
            clear htl h0
            obtain ⟨q, hq⟩ : ∃ q : Ru, q = ⟨false, (0, 0, 0, 0), 0, TG, (nl : Int), (nl : Int)⟩ := ⟨_, rfl⟩
            have SQ : Hid (MS w w8 w1.heap.size q) := by rw [hq]; exact S8.out
            have HQ : Hid (rprs l = if q.right = true then some q else none) := by show _ = _; rw [HR.out, HP.out, HT.out, hq]; rfl
            have HQK : Hid (q.ok) := by rw [hq]; exact ⟨⟨show (0 : Nat) < 256 by omega, show (0 : Nat) < 256 by omega, show (0 : Nat) < 256 by omega, show (0 : Nat) < 256 by omega⟩, by have := HTS.out; unfold maxLen; simp only []; omega, by unfold in64; simp only []; omega, by unfold in64; simp only []; omega, by unfold in64; simp only []; omega⟩
            skip
            clear hq
            go_wp2_with (first | (rw [← HW8.out]; refine wpList_load_row rfl 37 _ rfl w1.heap.size rfl 37 _ (0, 0) _ SQ.out.box Tryz.underlying37 rfl infoRu ?_))
            refine (rrule_at q _ HQK.out).mono ?_
            rintro e w9 ⟨rfl, hb⟩
            have S9 := hide (SQ.out.keep hb)
            clear hb
            cases hr : q.right with
            | false =>
              obtain ⟨rfl, rfl⟩ := bad.out (by rw [HQ.out, hr]; rfl)
              obtain ⟨wz, hwz⟩ : ∃ wz, wz = w9.setRow w.heap.size zRu := ⟨_, rfl⟩
              have RZ : Hid (wz.heap[w.heap.size]? = some (.cells zRu 37)) := by rw [hwz]; exact setRow_heap _ _ _ _ _ S9.out.res
              have BZ : Hid (Below w.heap.size w wz) := by rw [hwz]; exact below_setRow S9.out.below (Nat.le_refl _) _
              have HWZ := hide hwz
              clear hwz
              go_wp2_with (first | (refine wpList_store_rowW rfl 37 _ _ rfl w.heap.size zRu rfl rfl 37 zRu S9.out.res infoRu rfl (ruC_all noRu) wz HWZ.out ?_))
              refine bodyPost_ret (res_cell_tmp rfl _ _ w.heap.size 37 zRu (0, 0) _ rfl RZ.out Tryz.underlying37 rfl infoRu) rfl ⟨rfl, BZ.out⟩
            
            | true =>
              obtain ⟨rfl, rfl⟩ := good.out q (by rw [HQ.out, hr]; rfl)
              obtain ⟨wz, hwz⟩ : ∃ wz, wz = w9.setRow w.heap.size (ruC PR).toArray := ⟨_, rfl⟩
              have RZ : Hid (wz.heap[w.heap.size]? = some (.cells (ruC PR).toArray 37)) := by rw [hwz]; exact setRow_heap _ _ _ _ _ S9.out.res
              have BZ : Hid (Below w.heap.size w wz) := by rw [hwz]; exact below_setRow S9.out.below (Nat.le_refl _) _
              have HWZ := hide hwz
              clear hwz
              go_wp2_with (first | (refine wpList_load_row rfl 37 _ rfl w1.heap.size rfl 37 _ (0, 0) _ S9.out.box Tryz.underlying37 rfl infoRu ?_) | (refine wpList_store_rowW rfl 37 _ _ rfl w.heap.size (ruC PR).toArray rfl rfl 37 zRu S9.out.res infoRu rfl (ruC_all PR) wz HWZ.out ?_))
              refine bodyPost_ret (res_cell_tmp rfl _ _ w.heap.size 37 (ruC PR).toArray (0, 0) _ rfl RZ.out Tryz.underlying37 rfl infoRu) rfl ⟨rfl, BZ.out⟩
        
        case pos =>
          subst h2
          obtain ⟨ta, tb, hw2⟩ := len_two hn7.symm
          rw [hw2] at hcell
          have j0 : w7.cell? ⟨b7, o7, none⟩ = some (.string (strN ta)) := hcell 0 _ rfl
          have j1 : w7.cell? ⟨b7, o7 + 1, none⟩ = some (.string (strN tb)) := hcell 1 _ rfl
          have hml := (wrd_len 47 tg).2
          have hmm := wrd_mem 47 tg
          rw [hw2] at hml hmm
          have tal : ∀ x ∈ ta, x < 256 := fun x hx => TLT.out x (hmm ta (by simp) x hx)
          have tbl : ∀ x ∈ tb, x < 256 := fun x hx => TLT.out x (hmm tb (by simp) x hx)
          have tas : ta.length ≤ 285 := by have := hml ta (by simp); omega
          have tbs : tb.length ≤ 285 := by have := hml tb (by simp); omega
          have HPA : Hid (∀ W, Calls Tryz.prog 37 #[.string (strN ta)] W fun e w' => e = .returned (.tuple #[.agg (nums .u8 (addr ta).1).toArray, badV (addr ta).2]) ∧ Below W.heap.size W w') := fun W => by
            have := rparseAddr_at (strN ta) W (by rw [strN_size]; unfold maxLen; omega)
            rw [strN_lt tal] at this
            exact this
          have HWB : Hid (∀ W, Calls Tryz.prog 36 #[.string (strN tb), .int .i64 2] W fun e w' => e = .returned (two (wh tb 2)) ∧ W = w') := fun W => by
            have := whole_at (strN tb) 2 W (by rw [strN_size]; unfold maxLen; omega) (by omega)
            rw [strN_lt tbl] at this
            exact this
          have HTR : Hid (tarR tg = if (addr ta).2 = .ok then (wh tb 2).map fun (n : Nat) => (adOf (addr ta).1, (n : Int), ⟨#[]⟩) else none) := by show _ = _; unfold tarR; rw [hw2]
          obtain ⟨x0, x1, x2, x3, hx⟩ := four (addr_len ta)
          have hxl := addr_bytes ta
          rw [hx] at HPA HTR hxl
          replace HPA : Hid (∀ W, Calls Tryz.prog 37 #[.string (strN ta)] W fun e w' => e = .returned (.tuple #[.agg #[.int .u8 (x0 : Nat), .int .u8 (x1 : Nat), .int .u8 (x2 : Nat), .int .u8 (x3 : Nat)], badV (addr ta).2]) ∧ Below W.heap.size W w') := HPA
          rw [badV_badC] at HPA
          obtain ⟨ER, hER⟩ : ∃ x, x = (addr ta).2 := ⟨_, rfl⟩
          rw [← hER] at HPA HTR
          obtain ⟨TA, hTA⟩ : ∃ x, x = strN ta := ⟨_, rfl⟩
          rw [← hTA] at j0 HPA
          obtain ⟨TB, hTB⟩ : ∃ x, x = strN tb := ⟨_, rfl⟩
          rw [← hTB] at j1 HWB
          have J1 := hide j1
          have HB7' := hide hb7'
          have HXL := hide hxl
          clear hn7 hcell hw2 hml hmm tal tbl hx hER hTA hTB hxl
          go_wp2_with fail
          refine (HPA.out _).mono ?_
          rintro e w7a ⟨rfl, hba⟩
          have S7a0 := hide hba.size
          have S7a := hide (S7.out.keep hba)
          have j1 := (hba.cell (p := ⟨b7, o7 + 1, none⟩) HB7'.out).trans J1.out
          have J1a := hide j1
          clear hba
          obtain ⟨V1, hV1⟩ : ∃ V, V = (w7a.alloc (.cells #[.int .u8 (x0 : Nat), .int .u8 (x1 : Nat), .int .u8 (x2 : Nat), .int .u8 (x3 : Nat)] 24)).alloc (.cells #[.int .i64 0, .string ⟨#[]⟩, .string ⟨#[]⟩, .string ⟨#[]⟩, .string ⟨#[]⟩, .int .i64 0, .int .i64 0, .int .i64 0, .int .i64 0, .int .i64 0] 64) := ⟨_, rfl⟩
          have hv : Below w7a.heap.size w7a V1 := by rw [hV1]; exact ((Below.refl _ _).alloc (Nat.le_refl _) _).alloc (by simp) _
          have z2 : V1.heap[w7a.heap.size + 1]? = some (.cells (badC .ok) 64) := by
            rw [hV1]
            have := alloc_new (w7a.alloc (.cells #[.int .u8 (x0 : Nat), .int .u8 (x1 : Nat), .int .u8 (x2 : Nat), .int .u8 (x3 : Nat)] 24)) (.cells (badC .ok) 64)
            rw [show (w7a.alloc (.cells #[.int .u8 (x0 : Nat), .int .u8 (x1 : Nat), .int .u8 (x2 : Nat), .int .u8 (x3 : Nat)] 24)).heap.size = w7a.heap.size + 1 by simp] at this
            exact this
          have z1 : V1.heap[w7a.heap.size]? = some (.cells #[.int .u8 (x0 : Nat), .int .u8 (x1 : Nat), .int .u8 (x2 : Nat), .int .u8 (x3 : Nat)] 24) := by
            rw [hV1, Below.heap_alloc _ _ _ (by simp)]
            exact alloc_new _ _
          obtain ⟨W2, hW2⟩ : ∃ W, W = V1.setRow (w7a.heap.size + 1) (badC ER) := ⟨_, rfl⟩
          have y2 : W2.heap[w7a.heap.size + 1]? = some (.cells (badC ER) 64) := by rw [hW2]; exact setRow_heap _ _ _ _ _ z2
          have hv2 : Below (w7a.heap.size + 1) V1 W2 := by rw [hW2]; exact below_setRow (Below.refl _ _) (Nat.le_refl _) _
          have y1 := (hv2.block w7a.heap.size (by omega)).trans z1
          have k2 : Below w7a.heap.size w7a W2 := by rw [hW2]; exact below_setRow hv (Nat.le_succ _) _
          have S2 := hide (S7a.out.keep k2)
          have j2 := (k2.cell (p := ⟨b7, o7 + 1, none⟩) (Nat.lt_of_lt_of_le HB7'.out S7a0.out)).trans j1
          have d0 : W2.cell? ⟨w7a.heap.size, 0, none⟩ = some (.int .u8 (x0 : Nat)) := by simp [World.cell?, y1]
          have d1 : W2.cell? ⟨w7a.heap.size, 1, none⟩ = some (.int .u8 (x1 : Nat)) := by simp [World.cell?, y1]
          have d2 : W2.cell? ⟨w7a.heap.size, 2, none⟩ = some (.int .u8 (x2 : Nat)) := by simp [World.cell?, y1]
          have d3 : W2.cell? ⟨w7a.heap.size, 3, none⟩ = some (.int .u8 (x3 : Nat)) := by simp [World.cell?, y1]
          have cN : W2.cell? ⟨w7a.heap.size + 1, 0, none⟩ = some (.int .i64 (erN ER : Nat)) := by simp only [World.cell?, y2]; exact badC_N ER
          have Z2 := hide z2
          have HW2 := hide hW2
          have HV1 := hide hV1
          clear hV1 hv z2 z1 hW2 y2 hv2 y1 k2 j1
          by_cases hok : ER = .ok
          case neg =>
            have hpos : 0 < erN ER := by
              cases ER with
              | none => exact absurd rfl hok
              | some p => simp [erN]
            rw [if_neg hok] at HTR
            have qN : decide ((0 : Int) < (erN ER : Int)) = true := decide_eq_true (by omega)
            have qN' : decide (0 < erN ER) = true := decide_eq_true hpos
            generalize erN ER = en at cN qN qN' hpos
            clear hok hpos
            go_wp2_with (first | (rw [← HV1.out]; refine wpList_store_rowW rfl 64 _ _ rfl (w7a.heap.size + 1) (badC ER) rfl rfl 64 (badC .ok) Z2.out (badI ER) (by simp [badC_size]) (badC_one _) W2 HW2.out ?_))
            refine (HWB.out _).mono ?_
            rintro e w7b ⟨rfl, rfl⟩
            unfold two
            obtain ⟨rfl, rfl⟩ := bad.out (by rw [HR.out, HP.out, HTR.out]; rfl)
            obtain ⟨wz, hwz⟩ : ∃ wz, wz = W2.setRow w.heap.size zRu := ⟨_, rfl⟩
            have RZ : Hid (wz.heap[w.heap.size]? = some (.cells zRu 37)) := by rw [hwz]; exact setRow_heap _ _ _ _ _ S2.out.res
            have BZ : Hid (Below w.heap.size w wz) := by rw [hwz]; exact below_setRow S2.out.below (Nat.le_refl _) _
            have HWZ := hide hwz
            clear hwz
            go_wp2_with (first | (refine wpList_store_rowW rfl 37 _ _ rfl w.heap.size zRu rfl rfl 37 zRu S2.out.res infoRu rfl (ruC_all noRu) wz HWZ.out ?_))
            refine bodyPost_ret (res_cell_tmp rfl _ _ w.heap.size 37 zRu (0, 0) _ rfl RZ.out Tryz.underlying37 rfl infoRu) rfl ⟨rfl, BZ.out⟩
        
          case pos =>
            subst hok
            simp only [erN] at cN
            rw [if_pos rfl] at HTR
            obtain ⟨BI, hBI⟩ : ∃ x, x = wh tb 2 := ⟨_, rfl⟩
            rw [← hBI] at HWB HTR
            have HO2 := hide (fun n (e : BI = some n) => wh_lt (e ▸ hBI) (show 2 ≤ 5 by omega))
            clear hBI
            cases BI with
            | none =>
              go_wp2_with (first | (rw [← HV1.out]; refine wpList_store_rowW rfl 64 _ _ rfl (w7a.heap.size + 1) (badC .ok) rfl rfl 64 (badC .ok) Z2.out (badI .ok) (by simp [badC_size]) (badC_one _) W2 HW2.out ?_))
              refine (HWB.out _).mono ?_
              rintro e w7b ⟨rfl, rfl⟩
              unfold two
              obtain ⟨rfl, rfl⟩ := bad.out (by rw [HR.out, HP.out, HTR.out]; rfl)
              obtain ⟨wz, hwz⟩ : ∃ wz, wz = W2.setRow w.heap.size zRu := ⟨_, rfl⟩
              have RZ : Hid (wz.heap[w.heap.size]? = some (.cells zRu 37)) := by rw [hwz]; exact setRow_heap _ _ _ _ _ S2.out.res
              have BZ : Hid (Below w.heap.size w wz) := by rw [hwz]; exact below_setRow S2.out.below (Nat.le_refl _) _
              have HWZ := hide hwz
              clear hwz
              go_wp2_with (first | (refine wpList_store_rowW rfl 37 _ _ rfl w.heap.size zRu rfl rfl 37 zRu S2.out.res infoRu rfl (ruC_all noRu) wz HWZ.out ?_))
              refine bodyPost_ret (res_cell_tmp rfl _ _ w.heap.size 37 zRu (0, 0) _ rfl RZ.out Tryz.underlying37 rfl infoRu) rfl ⟨rfl, BZ.out⟩
        
            | some m =>
              have hm9 := HO2.out m rfl
              have HT : Hid (tarR tg = some ((x0, x1, x2, x3), (m : Int), ⟨#[]⟩)) := HTR.out
              obtain ⟨w8a, hw8a, s8a⟩ := S2.out.net x0 x1 x2 x3
              have HW8a := hide hw8a
              have S8a := hide s8a
              obtain ⟨⟨c5, _, _, _⟩, f5, _, _, _⟩ := S8a.out.cells
              obtain ⟨w8, hw8⟩ : ∃ w8, w8 = w8a.setCell ⟨w1.heap.size, 5, none⟩ (.int .i64 (m : Int)) := ⟨_, rfl⟩
              have S8 := hide (S8a.out.bits (m : Int))
              rw [← hw8] at S8
              have HW8 := hide hw8
              clear hw8a s8a hw8
              go_wp2_with (first | (rw [← HV1.out]; refine wpList_store_rowW rfl 64 _ _ rfl (w7a.heap.size + 1) (badC .ok) rfl rfl 64 (badC .ok) Z2.out (badI .ok) (by simp [badC_size]) (badC_one _) W2 HW2.out ?_))
              refine (HWB.out _).mono ?_
              rintro e w7b ⟨rfl, rfl⟩
              unfold two
              go_wp2_with (first | (refine wpList_store_midW rfl 24 _ _ rfl w1.heap.size 1 #[.int .u8 (x0 : Nat), .int .u8 (x1 : Nat), .int .u8 (x2 : Nat), .int .u8 (x3 : Nat)] rfl rfl S2.out.there infoAd (by simp [Value.oneCell']) w8a HW8a.out ?_) | (rw [← HW8.out]; refine wpList_load_row rfl 37 _ rfl w1.heap.size rfl 37 _ (0, 0) _ S8.out.box Tryz.underlying37 rfl infoRu ?_))
              obtain ⟨q, hq⟩ : ∃ q : Ru, q = ⟨false, (x0, x1, x2, x3), (m : Int), ⟨#[]⟩, (nl : Int), (nl : Int)⟩ := ⟨_, rfl⟩
              have SQ : Hid (MS w w8 w1.heap.size q) := by rw [hq]; exact S8.out
              have HQ : Hid (rprs l = if q.right = true then some q else none) := by show _ = _; rw [HR.out, HP.out, HT.out, hq]; rfl
              have HQK : Hid (q.ok) := by rw [hq]; exact ⟨⟨HXL.out x0 (by simp), HXL.out x1 (by simp), HXL.out x2 (by simp), HXL.out x3 (by simp)⟩, show (0 : Nat) ≤ maxLen from Nat.zero_le _, by unfold in64; simp only []; omega, by unfold in64; simp only []; omega, by unfold in64; simp only []; omega⟩
              rw [← hq]
              clear hq
              skip
              refine (rrule_at q _ HQK.out).mono ?_
              rintro e w9 ⟨rfl, hb⟩
              have S9 := hide (SQ.out.keep hb)
              clear hb
              cases hr : q.right with
              | false =>
                obtain ⟨rfl, rfl⟩ := bad.out (by rw [HQ.out, hr]; rfl)
                obtain ⟨wz, hwz⟩ : ∃ wz, wz = w9.setRow w.heap.size zRu := ⟨_, rfl⟩
                have RZ : Hid (wz.heap[w.heap.size]? = some (.cells zRu 37)) := by rw [hwz]; exact setRow_heap _ _ _ _ _ S9.out.res
                have BZ : Hid (Below w.heap.size w wz) := by rw [hwz]; exact below_setRow S9.out.below (Nat.le_refl _) _
                have HWZ := hide hwz
                clear hwz
                go_wp2_with (first | (refine wpList_store_rowW rfl 37 _ _ rfl w.heap.size zRu rfl rfl 37 zRu S9.out.res infoRu rfl (ruC_all noRu) wz HWZ.out ?_))
                refine bodyPost_ret (res_cell_tmp rfl _ _ w.heap.size 37 zRu (0, 0) _ rfl RZ.out Tryz.underlying37 rfl infoRu) rfl ⟨rfl, BZ.out⟩
              
              | true =>
                obtain ⟨rfl, rfl⟩ := good.out q (by rw [HQ.out, hr]; rfl)
                obtain ⟨wz, hwz⟩ : ∃ wz, wz = w9.setRow w.heap.size (ruC PR).toArray := ⟨_, rfl⟩
                have RZ : Hid (wz.heap[w.heap.size]? = some (.cells (ruC PR).toArray 37)) := by rw [hwz]; exact setRow_heap _ _ _ _ _ S9.out.res
                have BZ : Hid (Below w.heap.size w wz) := by rw [hwz]; exact below_setRow S9.out.below (Nat.le_refl _) _
                have HWZ := hide hwz
                clear hwz
                go_wp2_with (first | (refine wpList_load_row rfl 37 _ rfl w1.heap.size rfl 37 _ (0, 0) _ S9.out.box Tryz.underlying37 rfl infoRu ?_) | (refine wpList_store_rowW rfl 37 _ _ rfl w.heap.size (ruC PR).toArray rfl rfl 37 zRu S9.out.res infoRu rfl (ruC_all PR) wz HWZ.out ?_))
                refine bodyPost_ret (res_cell_tmp rfl _ _ w.heap.size 37 (ruC PR).toArray (0, 0) _ rfl RZ.out Tryz.underlying37 rfl infoRu) rfl ⟨rfl, BZ.out⟩
    
    · exact absurd (HLN.out (by rw [hpw]; simp)) (by rw [hpw]; simp)
    · have h34 : 3 ≤ n4 := by rw [HN4.out]; simp
      have HP : Hid (porR po = none) := by show _ = _; unfold porR; rw [hpw]
      obtain ⟨O, hO⟩ : ∃ x, x = wh p0 5 := ⟨_, rfl⟩
      rw [← hO]
      have qa : ((n4 : Int) == 2) = false := by simp; omega
      have qb : decide ((2 : Int) < (n4 : Int)) = true := decide_eq_true (by omega)
      have qb' : decide (2 < n4) = true := decide_eq_true (by omega)
      have qa' : (n4 == 2) = false := by simp; omega
      obtain ⟨⟨_, _, c7, c8⟩, _, _, f7, f8⟩ := S4.out.cells
      obtain ⟨nl, hnl⟩ : ∃ n : Nat, n = O.getD 0 := ⟨_, rfl⟩
      rw [← hnl]
      obtain ⟨w6, hw6⟩ : ∃ w6, w6 = (w4.setCell ⟨w1.heap.size, 7, none⟩ (.int .i64 (nl : Int))).setCell ⟨w1.heap.size, 8, none⟩ (.int .i64 (nl : Int)) := ⟨_, rfl⟩
      have S6 : Hid (MS w w6 w1.heap.size ⟨false, (0, 0, 0, 0), 0, ⟨#[]⟩, (nl : Int), (nl : Int)⟩) := by rw [hw6]; exact (S4.out.lw _).hg _
      have HW6 := hide hw6
      have hbg : b1 ≠ w1.heap.size := by omega
      have K6 : Hid (w6.cell? ⟨b1, o1 + 1, none⟩ = some (.string (strN tg))) := by
        rw [hw6]
        exact (World.cell?_of_block (by rw [Below.heap_setCell _ _ _ _ (by simpa using hbg), Below.heap_setCell _ _ _ _ (by simpa using hbg)])).trans K4.out
      have HLE : Hid (w1.heap.size ≤ w6.heap.size) := by have := lt_of_some S6.out.box; show _ ≤ _; omega
    
      clear hw6 hpw hO hcell
      cases O with
      | none =>
        clear hnl
        obtain ⟨rfl, rfl⟩ := bad.out (by rw [HR.out, HP.out]; rfl)
        obtain ⟨wz, hwz⟩ : ∃ wz, wz = w6.setRow w.heap.size zRu := ⟨_, rfl⟩
        have RZ : Hid (wz.heap[w.heap.size]? = some (.cells zRu 37)) := by rw [hwz]; exact setRow_heap _ _ _ _ _ S6.out.res
        have BZ : Hid (Below w.heap.size w wz) := by rw [hwz]; exact below_setRow S6.out.below (Nat.le_refl _) _
        have HWZ := hide hwz
        clear hwz
        go_wp2_with (first | (rw [← HW6.out]; refine wpList_store_rowW rfl 37 _ _ rfl w.heap.size zRu rfl rfl 37 zRu S6.out.res infoRu rfl (ruC_all noRu) wz HWZ.out ?_))
        refine bodyPost_ret (res_cell_tmp rfl _ _ w.heap.size 37 zRu (0, 0) _ rfl RZ.out Tryz.underlying37 rfl infoRu) rfl ⟨rfl, BZ.out⟩
    
      | some n =>
        obtain rfl : nl = n := hnl
        obtain ⟨rfl, rfl⟩ := bad.out (by rw [HR.out, HP.out]; rfl)
        obtain ⟨wz, hwz⟩ : ∃ wz, wz = w6.setRow w.heap.size zRu := ⟨_, rfl⟩
        have RZ : Hid (wz.heap[w.heap.size]? = some (.cells zRu 37)) := by rw [hwz]; exact setRow_heap _ _ _ _ _ S6.out.res
        have BZ : Hid (Below w.heap.size w wz) := by rw [hwz]; exact below_setRow S6.out.below (Nat.le_refl _) _
        have HWZ := hide hwz
        clear hwz
        go_wp2_with (first | (rw [← HW6.out]; refine wpList_store_rowW rfl 37 _ _ rfl w.heap.size zRu rfl rfl 37 zRu S6.out.res infoRu rfl (ruC_all noRu) wz HWZ.out ?_))
        refine bodyPost_ret (res_cell_tmp rfl _ _ w.heap.size 37 zRu (0, 0) _ rfl RZ.out Tryz.underlying37 rfl infoRu) rfl ⟨rfl, BZ.out⟩
end Go.Proofs.YtiejandeoopiiaaGreatDoor
