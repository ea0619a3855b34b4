/-
  The walk of DnsBack; conditions as each theorem has them.
-/
import Derived.Test.YtelfikbahcckaaaDoorMT
import Derived.Test.YtelfikbahcckaaaDoorQU
import Derived.Test.YtelfikbahcckaaaDoorPG
import Derived.Test.YtelfikbahcckaaaDoorWK
set_option linter.unusedSimpArgs false
set_option linter.unusedVariables false
namespace Go.Proofs.YtelfikbahcckaaaDoor
open Go.RowKit
theorem putAr_good {id : Nat} {n : List Nat} {cd : Int} {l : List Ad} {tl : Int} {PR : List Nat × Nat} (hP : PR = putAr id n cd l tl) (h : PR.2 = 0) : ∃ C L : Nat, cd = (C : Int) ∧ tl = (L : Int) ∧ C < 16 ∧ L ≤ 1048576 ∧ l.length ≤ 16 ∧ (C ≠ 0 → l = []) ∧ (l = [] → L = 0) ∧ PR = (putA id C L n l, 0) ∧ (putA id C L n l).length ≤ 512 := by
  subst hP
  unfold putAr at h ⊢
  split at h
  · rename_i ha
    obtain ⟨h1, h2, h3, h4, h5, h6, h7, h8⟩ := isAn_ok ha
    split at h
    · cases h
    · rename_i hl
      refine ⟨cd.toNat, tl.toNat, by omega, by omega, by omega, by omega, h6, fun e => ?_, fun e => ?_, ?_, ?_⟩
      · rcases h7 with h7 | h7
        · exact absurd (by omega) e
        · exact List.length_eq_zero_iff.1 h7
      · rcases h8 with h8 | h8
        · omega
        · exact absurd (by rw [e]; rfl) h8
      · rw [if_pos ha, if_neg hl]; rfl
      · have : ((id : Int)).toNat = id := rfl
        rw [this] at hl; omega
  · cases h
theorem putAr_bad {id : Int} {n : List Nat} {cd : Int} {l : List Ad} {tl : Int} {PR : List Nat × Nat} (hP : PR = putAr id n cd l tl) (h : ¬ PR.2 = 0) : PR.1 = [] := by
  subst hP
  unfold putAr at h ⊢
  split
  · rename_i ha
    rw [if_pos ha] at h
    split
    · rfl
    · rename_i hl
      rw [if_neg hl] at h
      exact absurd rfl h
  · rfl
theorem mat_iff {id : Nat} {n : List Nat} {b : List Nat} {cd tl : Nat} {l : List Ad} {id2 : Int} {t2 : ByteArray} (h : ans b = (⟨id, n, cd, l, tl⟩, .ok)) : (mat id2 (byt t2) b).2 = .ok ↔ id2 = (id : Int) ∧ byt t2 = n := by
  unfold mat
  rw [h, if_pos rfl]
  constructor
  · intro e
    split at e
    · rename_i h1
      split at e
      · rename_i h2; exact ⟨h1.symm, h2.symm⟩
      · cases e
    · cases e
  · rintro ⟨rfl, rfl⟩
    rw [if_pos rfl, if_pos rfl]
theorem mat_same {id : Nat} {n : List Nat} {b : List Nat} {cd tl : Nat} {l : List Ad} (h : ans b = (⟨id, n, cd, l, tl⟩, .ok)) : mat id n b = (⟨id, n, cd, l, tl⟩, .ok) := by
  unfold mat
  rw [h, if_pos rfl, if_pos rfl, if_pos rfl]
set_option maxRecDepth 100000 in
set_option maxHeartbeats 16000000 in
theorem back_walk (id : Int) (t : ByteArray) (cd : Int) (x : Option Addr) (n c : Nat) (l : List Ad) (tl : Int) (id2 : Int) (t2 : ByteArray) (w : World) (hV : Vars w) (h : SrcA w x n c l) (ht : t.size ≤ 140737488351232) (hn : n ≤ 140737488351232) (ht2 : t2.size ≤ 140737488351232) : Calls Tryd.prog 5 #[.agg #[.int .i64 id, .string t, .int .i64 cd, .slice x n c, .int .i64 tl], .agg #[.int .i64 id2, .string t2]] w fun e w' => e = .returned (.bool true) ∧ Below w.heap.size w w' := by
  obtain ⟨W1, hW1⟩ : ∃ W1, W1 = (w.alloc (.cells #[.int .i64 id, .string t, .int .i64 cd, .slice x n c, .int .i64 tl] 43)).alloc (.cells #[.int .i64 id2, .string t2] 40) := ⟨_, rfl⟩
  have b1 : Below w.heap.size w W1 := by rw [hW1]; exact ((Below.refl _ _).alloc (Nat.le_refl _) _).alloc (by simp) _
  have T1 : Hid (Row W1 w.heap.size 43 [.int .i64 id, .string t, .int .i64 cd, .slice x n c, .int .i64 tl]) := by rw [hW1]; exact (Row.new w _ 43).alloc _
  have U1 : Hid (Row W1 (w.heap.size + 1) 40 [.int .i64 id2, .string t2]) := by rw [hW1]; exact alloc_new2 w _ _
  have hs1 : W1.heap.size = w.heap.size + 2 := by rw [hW1]; simp
  have HWK := hide (works_at W1 (hV.below b1))
  have V1 := hide (hV.below b1)
  have S1 := hide (h.below b1)
  have B1 := hide b1
  have HW1 := hide hW1.symm
  have hmx : t.size ≤ maxLen := by unfold maxLen; omega
  have hmx2 : t2.size ≤ maxLen := by unfold maxLen; omega
  have hln := h.hlen
  clear h hV hW1 b1
  go_enter Tryd.func5, Tryd.ntmps5
  go_wp2_with fail
  rw [HW1.out]
  refine HWK.out.mono ?_
  rintro e w2 ⟨rfl, b2⟩
  have t2_ := T1.out.below b2 (by omega)
  have u2_ := U1.out.below b2 (by omega)
  have c0 : w2.cell? ⟨w.heap.size, 0, none⟩ = some (.int .i64 id) := t2_.cell 0
  have c1 : w2.cell? ⟨w.heap.size, 1, none⟩ = some (.string t) := t2_.cell 1
  have hg2 := t2_.lt
  have hs2 := b2.size
  have B2 := hide (B1.out.trans (b2.mono (by omega)))
  have T2 := hide t2_
  have U2 := hide u2_
  have V2 := hide (V1.out.below b2)
  have S2 := hide (S1.out.below b2)
  have HPQ := hide (pputQuestion_at id t w2 hmx V2.out)
  clear b2 t2_ u2_ HWK T1 U1 V1 S1 B1
  obtain ⟨PR, hPR⟩ : ∃ PR, PR = putAr id (byt t) cd l tl := ⟨_, rfl⟩
  by_cases hq : qry id (byt t) = true
  · obtain ⟨q1, q2, q3, q4⟩ := qry_ok hq
    rw [byt_length] at q4
    obtain ⟨I, rfl⟩ : ∃ I : Nat, id = (I : Int) := ⟨id.toNat, by omega⟩
    have hR : putQr (I : Int) (byt t) = (putQ I 256 0 (byt t), 0) := by rw [putQr, if_pos hq]; rfl
    rw [hR] at HPQ
    have HQB := hide (qus_put (id := I) (by omega) q3)
    have Q3 := hide q3
    clear hR q3 hq
    go_wp2_with fail
    refine HPQ.out.mono ?_
    rintro e w3 ⟨a3, k3, rfl, s3, b3⟩
    rw [show ((putQ I 256 0 (byt t), 0) : List Nat × Nat).2 = 0 from rfl, show ((0 : Nat) : Int) = 0 from rfl]
    have hl3 := putQ_len I 256 0 (byt t)
    rw [byt_length] at hl3
    have HQT := hide (question_tells a3 _ k3 _ w3 s3 (V2.out.below b3) (by show (putQ I 256 0 (byt t)).length ≤ _; omega))
    rw [show ((putQ I 256 0 (byt t), 0) : List Nat × Nat).1 = putQ I 256 0 (byt t) from rfl] at HQT ⊢
    rw [HQB.out] at HQT
    have t3 := T2.out.below b3 (by omega)
    have u3 := U2.out.below b3 (by omega)
    have T3 := hide t3
    have U3 := hide u3
    have V3 := hide (V2.out.below b3)
    have S3 := hide (S2.out.below b3)
    have B3 := hide (B2.out.trans (b3.mono (by omega)))
    have hs3 := b3.size
    obtain ⟨L3, hL3⟩ : ∃ L3, L3 = (putQ I 256 0 (byt t)).length := ⟨_, rfl⟩
    rw [← hL3] at HQT ⊢
    clear t3 u3 b3 s3 HPQ c0 c1 T2 U2 V2 S2 B2 hl3 hL3
    go_wp2_with fail
    refine HQT.out.mono ?_
    rintro e w4 ⟨er, rfl, i4, b4⟩
    obtain rfl := i4.nil rfl
    simp only [strN_byt]
    obtain ⟨W5, hW5⟩ : ∃ W5, W5 = w4.alloc (.cells #[.int .i64 (I : Nat), .string t] 40) := ⟨_, rfl⟩
    have b5 : Below w4.heap.size w4 W5 := by rw [hW5]; exact (Below.refl _ _).alloc (Nat.le_refl _) _
    have b35 : Below w3.heap.size w3 W5 := b4.trans (b5.mono b4.size)
    have p5 : Row W5 w4.heap.size 40 [.int .i64 (I : Nat), .string t] := by rw [hW5]; exact Row.new w4 _ 40
    have t5 := T3.out.below b35 (by omega)
    have u5 := U3.out.below b35 (by omega)
    have y0 : W5.cell? ⟨w4.heap.size, 0, none⟩ = some (.int .i64 (I : Nat)) := p5.cell 0
    have y1 : W5.cell? ⟨w4.heap.size, 1, none⟩ = some (.string t) := p5.cell 1
    have c0 : W5.cell? ⟨w.heap.size, 0, none⟩ = some (.int .i64 (I : Nat)) := t5.cell 0
    have c1 : W5.cell? ⟨w.heap.size, 1, none⟩ = some (.string t) := t5.cell 1
    have c2 : W5.cell? ⟨w.heap.size, 2, none⟩ = some (.int .i64 cd) := t5.cell 2
    have c3 : W5.cell? ⟨w.heap.size, 3, none⟩ = some (.slice x n c) := t5.cell 3
    have c4 : W5.cell? ⟨w.heap.size, 4, none⟩ = some (.int .i64 tl) := t5.cell 4
    have hp5 := p5.lt
    have hq5 := t5.lt
    have T5 := hide t5
    have U5 := hide u5
    have V5 := hide (V3.out.below b35)
    have S5 := hide (S3.out.below b35)
    have hs5 := b35.size
    have B5 := hide (B3.out.trans (b35.mono (by omega)))
    have HPA := hide (putAnswer_at (I : Int) t cd x n c l tl W5 hmx V5.out hn S5.out)
    rw [← hPR] at HPA
    have HW5 := hide hW5.symm
    have qt : (t.toList == t.toList) = true := by simp
    have qi : ((I : Int) == (I : Int)) = true := by simp
    have HPR := hide hPR
    clear i4 b4 b5 b35 p5 t5 u5 hW5 HQT T3 U3 V3 S3 B3 hPR HQB
    go_wp2_with (first | rw [HW5.out])
    refine HPA.out.mono ?_
    rintro e w6 ⟨a6, k6, rfl, s6, b6⟩
    have B6 := hide (B5.out.trans (b6.mono (by omega)))
    by_cases hgood : PR.2 = 0
    · obtain ⟨C, L, rfl, rfl, g1, g2, g3, g4, g5, g6, g7⟩ := putAr_good HPR.out hgood
      rw [hln] at g3
      rw [g6] at s6
      rw [g6, show ((0 : Nat) : Int) = 0 from rfl]
      have g8 := hide (ans_put (id := I) (cd := C) (tl := L) (n := byt t) (l := l) (by omega) Q3.out g1 g2 (by rw [hln]; exact g3) g4 g5 g7)
      obtain ⟨PB, hPB⟩ : ∃ PB, PB = putA I C L (byt t) l := ⟨_, rfl⟩
      have s6' : Src w6 a6 PB.length k6 PB := by rw [hPB]; exact s6
      have g7' : PB.length ≤ 512 := by rw [hPB]; exact g7
      rw [← hPB] at g8
      rw [show ((putA I C L (byt t) l, 0) : List Nat × Nat).1 = PB from hPB.symm]
      have S6 := hide s6'
      have t6 := T5.out.below b6 (by omega)
      have u6 := U5.out.below b6 (by omega)
      have hs6 := b6.size
      have T6 := hide t6
      have U6 := hide u6
      have V6 := hide (V5.out.below b6)
      have A6 := hide (S5.out.below b6)
      have HAN := hide (answer_at a6 _ k6 PB w6 s6' V6.out (by omega))
      rw [g8.out] at HAN
      obtain ⟨LB, hLB⟩ : ∃ LB, LB = PB.length := ⟨_, rfl⟩
      rw [← hLB] at HAN S6 ⊢
      have hLB' : LB ≤ 512 := by omega
      have HAD := hide A6.out.byte
      clear s6 s6' t6 u6 b6 HPA c0 c1 c2 c3 c4 y0 y1 T5 U5 V5 S5 B5 HPR hgood g4 g5 g6 g7 g7' hPB hLB HW5
      go_wp2_with fail
      refine HAN.out.mono ?_
      rintro e w7 ⟨v7, er7, rfl, o7, i7, b7⟩
      obtain rfl := i7.nil rfl
      obtain ⟨xa, xc, rfl, xs, _⟩ := o7.src HAD.out
      simp only [strN_byt] at xs ⊢
      rw [hln] at xs ⊢
      obtain ⟨W8, hW8⟩ : ∃ W8, W8 = w7.alloc (.cells #[.int .i64 (I : Nat), .string t, .int .i64 (C : Nat), .slice xa n xc, .int .i64 (L : Nat)] 43) := ⟨_, rfl⟩
      have b8 : Below w7.heap.size w7 W8 := by rw [hW8]; exact (Below.refl _ _).alloc (Nat.le_refl _) _
      have b68 : Below w6.heap.size w6 W8 := b7.trans (b8.mono b7.size)
      have X8 : Hid (Row W8 w7.heap.size 43 [.int .i64 (I : Nat), .string t, .int .i64 (C : Nat), .slice xa n xc, .int .i64 (L : Nat)]) := by rw [hW8]; exact Row.new w7 _ 43
      have t8 := T6.out.below b68 (by omega)
      have c0 : W8.cell? ⟨w.heap.size, 0, none⟩ = some (.int .i64 (I : Nat)) := t8.cell 0
      have c1 : W8.cell? ⟨w.heap.size, 1, none⟩ = some (.string t) := t8.cell 1
      have hl8 := t8.lt
      have hs8 := b68.size
      have hs7 := b7.size
      have T8 := hide t8
      have U8 := hide (U6.out.below b68 (by omega))
      have V8 := hide (V6.out.below b68)
      have A8 := hide (A6.out.below b68)
      have S8 := hide (S6.out.below b68)
      have XS8 := hide (xs.below b8)
      have B8 := hide (B6.out.trans (b68.mono (by have := B6.out.size; omega)))
      have HMA := hide (match_at (I : Int) t a6 LB k6 PB W8 S8.out V8.out (by omega))
      rw [mat_same g8.out] at HMA
      have HW8 := hide hW8.symm
      clear HAN xs o7 i7 b7 b8 b68 t8 hW8 T6 U6 V6 A6 S6 B6
      go_wp2_with (first | rw [HW8.out])
      refine HMA.out.mono ?_
      rintro e w9 ⟨v9, er9, rfl, o9, i9, b9⟩
      obtain rfl := i9.nil rfl
      obtain ⟨ya, yc, rfl, ys, _⟩ := o9.src HAD.out
      simp only [strN_byt] at ys ⊢
      rw [hln] at ys ⊢
      obtain ⟨W10, hW10⟩ : ∃ W10, W10 = w9.alloc (.cells #[.int .i64 (I : Nat), .string t, .int .i64 (C : Nat), .slice ya n yc, .int .i64 (L : Nat)] 43) := ⟨_, rfl⟩
      have b10 : Below w9.heap.size w9 W10 := by rw [hW10]; exact (Below.refl _ _).alloc (Nat.le_refl _) _
      have b810 : Below W8.heap.size W8 W10 := b9.trans (b10.mono b9.size)
      have Y10 : Hid (Row W10 w9.heap.size 43 [.int .i64 (I : Nat), .string t, .int .i64 (C : Nat), .slice ya n yc, .int .i64 (L : Nat)]) := by rw [hW10]; exact Row.new w9 _ 43
      have u10 := U8.out.below b810 (by omega)
      have e0 : W10.cell? ⟨w.heap.size + 1, 0, none⟩ = some (.int .i64 id2) := u10.cell 0
      have e1 : W10.cell? ⟨w.heap.size + 1, 1, none⟩ = some (.string t2) := u10.cell 1
      have hl10 := u10.lt
      have hl9 : w9.heap.size < W10.heap.size := Y10.out.lt
      have hs10 := b810.size
      have hs9 := b9.size
      have hlx := X8.out.lt
      have T10 := hide (T8.out.below b810 (by omega))
      have U10 := hide u10
      have X10 := hide (X8.out.below b810 (by omega))
      have V10 := hide (V8.out.below b810)
      have A10 := hide (A8.out.below b810)
      have S10 := hide (S8.out.below b810)
      have XS10 := hide (XS8.out.below b810)
      have YS10 := hide (ys.below b10)
      have B10 := hide (B8.out.trans (b810.mono (by have := B8.out.size; omega)))
      have HMB := hide (match_at id2 t2 a6 LB k6 PB W10 S10.out V10.out (by omega))
      have HW10 := hide hW10.symm
      clear HMA ys o9 i9 b9 b10 b810 u10 hW10 T8 U8 V8 A8 S8 XS8 B8 X8 c0 c1 HW8
      go_wp2_with (first | rw [HW10.out])
      refine HMB.out.mono ?_
      rintro e w11 ⟨v11, er11, rfl, o11, i11, b11⟩
      obtain ⟨za, zc, rfl⟩ := o11.shape
      obtain ⟨M1, hM1⟩ : ∃ M, M = (mat id2 (byt t2) PB).1.id := ⟨_, rfl⟩
      obtain ⟨M2, hM2⟩ : ∃ M, M = strN (mat id2 (byt t2) PB).1.nm := ⟨_, rfl⟩
      obtain ⟨M3, hM3⟩ : ∃ M, M = (mat id2 (byt t2) PB).1.cd := ⟨_, rfl⟩
      obtain ⟨M4, hM4⟩ : ∃ M, M = (mat id2 (byt t2) PB).1.ad.length := ⟨_, rfl⟩
      obtain ⟨M5, hM5⟩ : ∃ M, M = (mat id2 (byt t2) PB).1.tl := ⟨_, rfl⟩
      rw [← hM1, ← hM2, ← hM3, ← hM4, ← hM5]
      have hs11 := b11.size
      have T11 := hide (T10.out.below b11 (by omega))
      have U11 := hide (U10.out.below b11 (by omega))
      have X11 := hide (X10.out.below b11 (by omega))
      have Y11 := hide (Y10.out.below b11 (by omega))
      have A11 := hide (A10.out.below b11)
      have XS11 := hide (XS10.out.below b11)
      have YS11 := hide (YS10.out.below b11)
      have B11 := hide (B10.out.trans (b11.mono (by have := B10.out.size; omega)))
      have I11 := hide i11
      obtain ⟨W12, hW12⟩ : ∃ W12, W12 = w11.alloc (.cells #[.int .i64 (M1 : Nat), .string M2, .int .i64 (M3 : Nat), .slice za M4 zc, .int .i64 (M5 : Nat)] 43) := ⟨_, rfl⟩
      have b12 : Below w11.heap.size w11 W12 := by rw [hW12]; exact (Below.refl _ _).alloc (Nat.le_refl _) _
      have T12 := hide (T11.out.below b12 (by omega))
      have U12 := hide (U11.out.below b12 (by omega))
      have X12 := hide (X11.out.below b12 (by omega))
      have Y12 := hide (Y11.out.below b12 (by omega))
      have A12 := hide (A11.out.below b12)
      have XS12 := hide (XS11.out.below b12)
      have YS12 := hide (YS11.out.below b12)
      have hs12 := b12.size
      have B12 := hide (B11.out.trans (b12.mono (by have := B11.out.size; omega)))
      have x0 : W12.cell? ⟨w7.heap.size, 0, none⟩ = some (.int .i64 (I : Nat)) := X12.out.cell 0
      have x1 : W12.cell? ⟨w7.heap.size, 1, none⟩ = some (.string t) := X12.out.cell 1
      have x2 : W12.cell? ⟨w7.heap.size, 2, none⟩ = some (.int .i64 (C : Nat)) := X12.out.cell 2
      have x3 : W12.cell? ⟨w7.heap.size, 3, none⟩ = some (.slice xa n xc) := X12.out.cell 3
      have x4 : W12.cell? ⟨w7.heap.size, 4, none⟩ = some (.int .i64 (L : Nat)) := X12.out.cell 4
      have c0 : W12.cell? ⟨w.heap.size, 0, none⟩ = some (.int .i64 (I : Nat)) := T12.out.cell 0
      have c1 : W12.cell? ⟨w.heap.size, 1, none⟩ = some (.string t) := T12.out.cell 1
      have c2 : W12.cell? ⟨w.heap.size, 2, none⟩ = some (.int .i64 (C : Nat)) := T12.out.cell 2
      have c3 : W12.cell? ⟨w.heap.size, 3, none⟩ = some (.slice x n c) := T12.out.cell 3
      have c4 : W12.cell? ⟨w.heap.size, 4, none⟩ = some (.int .i64 (L : Nat)) := T12.out.cell 4
      have hl11 := X12.out.lt
      have hl12 := T12.out.lt
      have HSA := hide (same_answer W12.drew (I : Int) t (C : Int) (L : Int) xa x n xc n c l (XS12.out.keep (fun _ _ _ _ => rfl) (Nat.le_refl _)) (A12.out.keep (fun _ _ _ _ => rfl) (Nat.le_refl _)))
      have HW12 := hide hW12.symm
      have HMT := hide (mat_iff (b := PB) (id2 := id2) (t2 := t2) g8.out)
      clear o11 b11 hM1 hM2 hM3 hM4 hM5 HMB T10 U10 X10 Y10 A10 S10 XS10 YS10 B10 V10 e0 e1 HW10 T11 U11 X11 Y11 A11 XS11 YS11 B11 b12 hW12
      by_cases heq : id2 = (I : Int) ∧ byt t2 = byt t
      · obtain rfl := i11.nil (HMT.out.2 heq)
        obtain ⟨rfl, ht_⟩ := heq
        obtain rfl : t = t2 := by rw [← strN_byt t2, ht_, strN_byt]
        clear i11 ht_ HMT
        go_wp2_with (first | rw [HW12.out])
        go_region_with (first
          | (go_at_call 21; refine HSA.out.mono ?_; rintro e w13 ⟨rfl, b13'⟩; have b13 : Below W12.heap.size W12 w13 := ⟨b13'.os, b13'.tape, b13'.output, b13'.size, b13'.block⟩; have hs13 := b13.size; have T13 := hide (T12.out.below b13 (by omega)); have U13 := hide (U12.out.below b13 (by omega)); have Y13 := hide (Y12.out.below b13 (by omega)); have B13 := hide (B12.out.trans (b13.mono (by have := B12.out.size; omega))); have y0 : w13.cell? ⟨w9.heap.size, 0, none⟩ = some (.int .i64 (I : Nat)) := Y13.out.cell 0; have y1 : w13.cell? ⟨w9.heap.size, 1, none⟩ = some (.string t) := Y13.out.cell 1; have y2 : w13.cell? ⟨w9.heap.size, 2, none⟩ = some (.int .i64 (C : Nat)) := Y13.out.cell 2; have y3 : w13.cell? ⟨w9.heap.size, 3, none⟩ = some (.slice ya n yc) := Y13.out.cell 3; have y4 : w13.cell? ⟨w9.heap.size, 4, none⟩ = some (.int .i64 (L : Nat)) := Y13.out.cell 4; have f0 : w13.cell? ⟨w.heap.size, 0, none⟩ = some (.int .i64 (I : Nat)) := T13.out.cell 0; have f1 : w13.cell? ⟨w.heap.size, 1, none⟩ = some (.string t) := T13.out.cell 1; have f2 : w13.cell? ⟨w.heap.size, 2, none⟩ = some (.int .i64 (C : Nat)) := T13.out.cell 2; have f3 : w13.cell? ⟨w.heap.size, 3, none⟩ = some (.slice x n c) := T13.out.cell 3; have f4 : w13.cell? ⟨w.heap.size, 4, none⟩ = some (.int .i64 (L : Nat)) := T13.out.cell 4; have hl13 := Y13.out.lt; have hl14 := T13.out.lt; have HSB := hide (same_answer w13 (I : Int) t (C : Int) (L : Int) ya x n yc n c l (YS12.out.below b13) (A12.out.below b13)); clear b13 b13' x0 x1 x2 x3 x4 c0 c1 c2 c3 c4 HSA)
          | (go_at_call 21; refine HSB.out.mono ?_; rintro e w14 ⟨rfl, b14⟩; have hs14 := b14.size; have T14 := hide (T13.out.below b14 (by omega)); have U14 := hide (U13.out.below b14 (by omega)); have B14 := hide (B13.out.trans (b14.mono (by have := B13.out.size; omega))); have h0 : w14.cell? ⟨w.heap.size, 0, none⟩ = some (.int .i64 (I : Nat)) := T14.out.cell 0; have h1 : w14.cell? ⟨w.heap.size, 1, none⟩ = some (.string t) := T14.out.cell 1; have k0 : w14.cell? ⟨w.heap.size + 1, 0, none⟩ = some (.int .i64 (I : Nat)) := U14.out.cell 0; have k1 : w14.cell? ⟨w.heap.size + 1, 1, none⟩ = some (.string t) := U14.out.cell 1; have hl15 := T14.out.lt; have hl16 := U14.out.lt; clear b14 y0 y1 y2 y3 y4 f0 f1 f2 f3 f4 HSB))
        all_goals go_wp2_with fail
        all_goals go_ret
        all_goals exact ⟨rfl, B14.out⟩
      · obtain ⟨xe, rfl⟩ := i11.ptr (fun e => heq (HMT.out.1 e))
        clear i11 HMT
        by_cases hi2 : id2 = (I : Int)
        · have ht2_ : ¬ byt t2 = byt t := fun e => heq ⟨hi2, e⟩
          have e2 : (t2.toList == t.toList) = false := by rw [eq_byt]; simp [ht2_]
          have e2' : (t.toList == t2.toList) = false := by rw [eq_byt]; simp; exact fun e => ht2_ e.symm
          subst hi2
          clear heq ht2_
          go_wp2_with (first | rw [HW12.out])
          go_region_with (first
            | (go_at_call 21; refine HSA.out.mono ?_; rintro e w13 ⟨rfl, b13'⟩; have b13 : Below W12.heap.size W12 w13 := ⟨b13'.os, b13'.tape, b13'.output, b13'.size, b13'.block⟩; have hs13 := b13.size; have T13 := hide (T12.out.below b13 (by omega)); have U13 := hide (U12.out.below b13 (by omega)); have Y13 := hide (Y12.out.below b13 (by omega)); have B13 := hide (B12.out.trans (b13.mono (by have := B12.out.size; omega))); have y0 : w13.cell? ⟨w9.heap.size, 0, none⟩ = some (.int .i64 (I : Nat)) := Y13.out.cell 0; have y1 : w13.cell? ⟨w9.heap.size, 1, none⟩ = some (.string t) := Y13.out.cell 1; have y2 : w13.cell? ⟨w9.heap.size, 2, none⟩ = some (.int .i64 (C : Nat)) := Y13.out.cell 2; have y3 : w13.cell? ⟨w9.heap.size, 3, none⟩ = some (.slice ya n yc) := Y13.out.cell 3; have y4 : w13.cell? ⟨w9.heap.size, 4, none⟩ = some (.int .i64 (L : Nat)) := Y13.out.cell 4; have f0 : w13.cell? ⟨w.heap.size, 0, none⟩ = some (.int .i64 (I : Nat)) := T13.out.cell 0; have f1 : w13.cell? ⟨w.heap.size, 1, none⟩ = some (.string t) := T13.out.cell 1; have f2 : w13.cell? ⟨w.heap.size, 2, none⟩ = some (.int .i64 (C : Nat)) := T13.out.cell 2; have f3 : w13.cell? ⟨w.heap.size, 3, none⟩ = some (.slice x n c) := T13.out.cell 3; have f4 : w13.cell? ⟨w.heap.size, 4, none⟩ = some (.int .i64 (L : Nat)) := T13.out.cell 4; have hl13 := Y13.out.lt; have hl14 := T13.out.lt; have HSB := hide (same_answer w13 (I : Int) t (C : Int) (L : Int) ya x n yc n c l (YS12.out.below b13) (A12.out.below b13)); clear b13 b13' x0 x1 x2 x3 x4 c0 c1 c2 c3 c4 HSA)
            | (go_at_call 21; refine HSB.out.mono ?_; rintro e w14 ⟨rfl, b14⟩; have hs14 := b14.size; have T14 := hide (T13.out.below b14 (by omega)); have U14 := hide (U13.out.below b14 (by omega)); have B14 := hide (B13.out.trans (b14.mono (by have := B13.out.size; omega))); have h0 : w14.cell? ⟨w.heap.size, 0, none⟩ = some (.int .i64 (I : Nat)) := T14.out.cell 0; have h1 : w14.cell? ⟨w.heap.size, 1, none⟩ = some (.string t) := T14.out.cell 1; have k0 : w14.cell? ⟨w.heap.size + 1, 0, none⟩ = some (.int .i64 (I : Nat)) := U14.out.cell 0; have k1 : w14.cell? ⟨w.heap.size + 1, 1, none⟩ = some (.string t2) := U14.out.cell 1; have hl15 := T14.out.lt; have hl16 := U14.out.lt; clear b14 y0 y1 y2 y3 y4 f0 f1 f2 f3 f4 HSB))
          all_goals go_wp2_with fail
          all_goals go_ret
          all_goals exact ⟨rfl, B14.out⟩
        · have e3 : (id2 == (I : Int)) = false := by simp [hi2]
          have e3' : ((I : Int) == id2) = false := by simp; exact fun e => hi2 e.symm
          clear heq hi2
          go_wp2_with (first | rw [HW12.out])
          go_region_with (first
            | (go_at_call 21; refine HSA.out.mono ?_; rintro e w13 ⟨rfl, b13'⟩; have b13 : Below W12.heap.size W12 w13 := ⟨b13'.os, b13'.tape, b13'.output, b13'.size, b13'.block⟩; have hs13 := b13.size; have T13 := hide (T12.out.below b13 (by omega)); have U13 := hide (U12.out.below b13 (by omega)); have Y13 := hide (Y12.out.below b13 (by omega)); have B13 := hide (B12.out.trans (b13.mono (by have := B12.out.size; omega))); have y0 : w13.cell? ⟨w9.heap.size, 0, none⟩ = some (.int .i64 (I : Nat)) := Y13.out.cell 0; have y1 : w13.cell? ⟨w9.heap.size, 1, none⟩ = some (.string t) := Y13.out.cell 1; have y2 : w13.cell? ⟨w9.heap.size, 2, none⟩ = some (.int .i64 (C : Nat)) := Y13.out.cell 2; have y3 : w13.cell? ⟨w9.heap.size, 3, none⟩ = some (.slice ya n yc) := Y13.out.cell 3; have y4 : w13.cell? ⟨w9.heap.size, 4, none⟩ = some (.int .i64 (L : Nat)) := Y13.out.cell 4; have f0 : w13.cell? ⟨w.heap.size, 0, none⟩ = some (.int .i64 (I : Nat)) := T13.out.cell 0; have f1 : w13.cell? ⟨w.heap.size, 1, none⟩ = some (.string t) := T13.out.cell 1; have f2 : w13.cell? ⟨w.heap.size, 2, none⟩ = some (.int .i64 (C : Nat)) := T13.out.cell 2; have f3 : w13.cell? ⟨w.heap.size, 3, none⟩ = some (.slice x n c) := T13.out.cell 3; have f4 : w13.cell? ⟨w.heap.size, 4, none⟩ = some (.int .i64 (L : Nat)) := T13.out.cell 4; have hl13 := Y13.out.lt; have hl14 := T13.out.lt; have HSB := hide (same_answer w13 (I : Int) t (C : Int) (L : Int) ya x n yc n c l (YS12.out.below b13) (A12.out.below b13)); clear b13 b13' x0 x1 x2 x3 x4 c0 c1 c2 c3 c4 HSA)
            | (go_at_call 21; refine HSB.out.mono ?_; rintro e w14 ⟨rfl, b14⟩; have hs14 := b14.size; have T14 := hide (T13.out.below b14 (by omega)); have U14 := hide (U13.out.below b14 (by omega)); have B14 := hide (B13.out.trans (b14.mono (by have := B13.out.size; omega))); have h0 : w14.cell? ⟨w.heap.size, 0, none⟩ = some (.int .i64 (I : Nat)) := T14.out.cell 0; have h1 : w14.cell? ⟨w.heap.size, 1, none⟩ = some (.string t) := T14.out.cell 1; have k0 : w14.cell? ⟨w.heap.size + 1, 0, none⟩ = some (.int .i64 id2) := U14.out.cell 0; have k1 : w14.cell? ⟨w.heap.size + 1, 1, none⟩ = some (.string t2) := U14.out.cell 1; have hl15 := T14.out.lt; have hl16 := U14.out.lt; clear b14 y0 y1 y2 y3 y4 f0 f1 f2 f3 f4 HSB))
          all_goals go_wp2_with fail
          all_goals go_ret
          all_goals exact ⟨rfl, B14.out⟩
    · have HE : Hid (PR.1 = []) := putAr_bad HPR.out hgood
      have d0 : ((PR.2 : Int) == 0) = false := by simp; omega
      obtain ⟨z, hz⟩ : ∃ z, z = PR.2 := ⟨_, rfl⟩
      rw [← hz] at d0 ⊢
      rw [HE.out]
      clear hz s6 b6 hgood
      go_wp2_with fail
      go_ret
      exact ⟨rfl, B6.out⟩
  · have hR : putQr id (byt t) = ([], 2) := by rw [putQr, if_neg hq]
    rw [hR] at HPQ
    have hP2 : PR = ([], 2) := by rw [hPR, putAr, if_neg (fun e => hq (isAn_ok e).1)]
    clear hR hq
    go_wp2_with fail
    refine HPQ.out.mono ?_
    rintro e w3 ⟨a3, k3, rfl, s3, b3⟩
    rw [show (([], 2) : List Nat × Nat).2 = 2 from rfl, show ((2 : Nat) : Int) = 2 from rfl, show (([], 2) : List Nat × Nat).1.length = 0 from rfl]
    have t3 := T2.out.below b3 (by omega)
    have c0 : w3.cell? ⟨w.heap.size, 0, none⟩ = some (.int .i64 id) := t3.cell 0
    have c1 : w3.cell? ⟨w.heap.size, 1, none⟩ = some (.string t) := t3.cell 1
    have c2 : w3.cell? ⟨w.heap.size, 2, none⟩ = some (.int .i64 cd) := t3.cell 2
    have c3 : w3.cell? ⟨w.heap.size, 3, none⟩ = some (.slice x n c) := t3.cell 3
    have c4 : w3.cell? ⟨w.heap.size, 4, none⟩ = some (.int .i64 tl) := t3.cell 4
    have hl3 := t3.lt
    have hs3 := b3.size
    have HPA := hide (putAnswer_at id t cd x n c l tl w3 hmx (V2.out.below b3) hn (S2.out.below b3))
    rw [← hPR, hP2] at HPA
    have B3 := hide (B2.out.trans (b3.mono (by omega)))
    clear t3 s3 b3 HPQ hPR hP2
    go_wp2_with fail
    refine HPA.out.mono ?_
    rintro e w4 ⟨a4, k4, rfl, s4, b4⟩
    rw [show (([], 2) : List Nat × Nat).2 = 2 from rfl, show ((2 : Nat) : Int) = 2 from rfl, show (([], 2) : List Nat × Nat).1.length = 0 from rfl]
    have B4 := hide (B3.out.trans (b4.mono (by have := B3.out.size; omega)))
    clear s4 b4 HPA
    go_wp2_with fail
    go_ret
    exact ⟨rfl, B4.out⟩
end Go.Proofs.YtelfikbahcckaaaDoor
