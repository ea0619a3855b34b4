/-
  FieldsKeys' walk: two requests of one key ask one destination for one path; conditions as each theorem has them.
-/
import Derived.Test.YtffjhhacegnhmaaDoorKW
set_option linter.unusedSimpArgs false
set_option linter.unusedVariables false
namespace Go.Proofs.YtffjhhacegnhmaaDoor
open Go.RowKit

theorem keyv_code (m D p : List Nat) (fs : List Fd) : (keyv m D p fs).2 = 0 ∨ (keyv m D p fs).2 = 2 := by
  unfold keyv; split
  · exact Or.inl rfl
  · exact Or.inr rfl
theorem keyv_lt {m p : List Nat} (a : Ad) {n : List Nat} (q : Int) (fs : List Fd) (hp : ∀ x ∈ p, x < 256) : ∀ x ∈ (keyv m (det a n q) p fs).1, x < 256 := by
  unfold keyv
  split
  · intro x hx
    rcases List.mem_append.1 hx with hx | hx
    · have := det_mem a n q x hx; omega
    · exact hp x hx
  · intro x hx; simp at hx
set_option maxRecDepth 100000 in
set_option maxHeartbeats 8000000 in
theorem keys_walk (pv : Value) (m : ByteArray) (A : Ad) (h : ByteArray) (p : Int) (t : ByteArray) (xa : Option Addr) (xn xc : Nat) (fs : List Fd) (qv : Value) (m' : ByteArray) (B : Ad) (h' : ByteArray) (p' : Int) (t' : ByteArray) (ya : Option Addr) (yn yc : Nat) (gs : List Fd) (w : World) (hT : Vars w ∧ Pow w) (hq : IsRq w pv m A h p t xa xn xc fs) (hy : IsRq w qv m' B h' p' t' ya yn yc gs) :
    Calls Tryd.prog 7 #[pv, qv] w fun e w' => e = .returned (.bool true) ∧ Below w.heap.size w w' := by
  obtain ⟨rfl, ok, hm, hh, hp, ht, src, sht, len⟩ := hq
  obtain ⟨rfl, ok', hm', hh', hp', ht', src', sht', len'⟩ := hy
  have HK1 := hide (fun W hs hv hP => key_at m A h p t xa xn xc fs W ok (by unfold maxLen; omega) hh (by unfold maxLen; omega) hs (fun f hf => by have := sht f hf; unfold maxLen; omega) hv hP)
  have HK2 := hide (fun W hs hv hP => key_at m' B h' p' t' ya yn yc gs W ok' (by unfold maxLen; omega) hh' (by unfold maxLen; omega) hs (fun f hf => by have := sht' f hf; unfold maxLen; omega) hv hP)
  have HL1 := hide (keyv_lt (m := byt m) (n := byt h) A p fs (byt_lt t))
  have HL2 := hide (keyv_lt (m := byt m') (n := byt h') B p' gs (byt_lt t'))
  have HC1 := hide (keyv_code (byt m) (det A (byt h) p) (byt t) fs)
  have HC2 := hide (keyv_code (byt m') (det B (byt h') p') (byt t') gs)
  have HP1 := hide (fun hz => keyv_pos (m := byt m) (p := byt t) (a := A) (n := byt h) (q := p) (fs := fs) hz)
  have HP2 := hide (fun hz => keyv_pos (m := byt m') (p := byt t') (a := B) (n := byt h') (q := p') (fs := gs) hz)
  have HN1 := hide (fun hz => keyv_neg (m := byt m) (D := det A (byt h) p) (p := byt t) (fs := fs) hz)
  have HN2 := hide (fun hz => keyv_neg (m := byt m') (D := det B (byt h') p') (p := byt t') (fs := gs) hz)
  have HEQ := hide (fun h1 h2 => key_eq (m := byt m) (m' := byt m') (p := byt t) (p' := byt t') (n := byt h) (k := byt h') (i := p) (j := p') (fs := fs) (gs := gs) ok ok' h1 h2)
  obtain ⟨A0, A1, A2, A3⟩ := A
  obtain ⟨B0, B1, B2, B3⟩ := B
  unfold rqV at HK1 HK2 ⊢
  obtain ⟨K1, hK1⟩ : ∃ K, K = keyv (byt m) (det (A0, A1, A2, A3) (byt h) p) (byt t) fs := ⟨_, rfl⟩
  obtain ⟨K2, hK2⟩ : ∃ K, K = keyv (byt m') (det (B0, B1, B2, B3) (byt h') p') (byt t') gs := ⟨_, rfl⟩
  rw [← hK1] at HK1 HL1 HC1 HP1 HN1
  rw [← hK2] at HK2 HL2 HC2 HP2 HN2
  rw [← hK1, ← hK2] at HEQ
  obtain ⟨k1, E1⟩ := K1
  obtain ⟨k2, E2⟩ := K2
  simp only at HK1 HK2 HL1 HL2 HC1 HC2 HP1 HP2 HN1 HN2 HEQ
  obtain ⟨W0, hW0⟩ : ∃ W, W = (w.alloc (.cells #[.string m, .int .u8 (A0 : Nat), .int .u8 (A1 : Nat), .int .u8 (A2 : Nat), .int .u8 (A3 : Nat), .string h, .int .i64 p, .string t, .slice xa xn xc] 48)).alloc (.cells #[.string m', .int .u8 (B0 : Nat), .int .u8 (B1 : Nat), .int .u8 (B2 : Nat), .int .u8 (B3 : Nat), .string h', .int .i64 p', .string t', .slice ya yn yc] 48) := ⟨_, rfl⟩
  have b0 : Below w.heap.size w W0 := by rw [hW0]; exact ((Below.refl _ _).alloc (Nat.le_refl _) _).alloc (by simp) _
  obtain ⟨G0, hG0⟩ : ∃ G, G = w.heap.size := ⟨_, rfl⟩
  have g0 : W0.heap[G0]? = some (.cells #[.string m, .int .u8 (A0 : Nat), .int .u8 (A1 : Nat), .int .u8 (A2 : Nat), .int .u8 (A3 : Nat), .string h, .int .i64 p, .string t, .slice xa xn xc] 48) := by rw [hW0, hG0]; exact alloc_old _ (alloc_new _ _)
  have g1 : W0.heap[G0 + 1]? = some (.cells #[.string m', .int .u8 (B0 : Nat), .int .u8 (B1 : Nat), .int .u8 (B2 : Nat), .int .u8 (B3 : Nat), .string h', .int .i64 p', .string t', .slice ya yn yc] 48) := by rw [hW0, hG0]; exact alloc_new2 _ _ _
  have HW0 := hide hW0.symm
  have HG0 := hide hG0.symm
  have R0 := hide g0
  have Q0 := hide g1
  have BB0 := hide b0
  have HWK := hide (works_at W0 (hT.1.below b0))
  have HT := hide hT
  have S1 := hide src
  have S2 := hide src'
  clear hW0 hG0 g0 g1 b0 hT src src' ok ok' hm hh hp ht sht len hm' hh' hp' ht' sht' len' hK1 hK2
  go_enter Tryd.func7, Tryd.ntmps7
  go_wp2_with fail
  rw [HW0.out, HG0.out]
  refine HWK.out.mono ?_
  rintro e w1 ⟨rfl, hb1⟩
  have BB1 := hide (BB0.out.trans (hb1.mono BB0.out.size))
  have R1 := hide (keepB hb1 R0.out)
  have Q1 := hide (keepB hb1 Q0.out)
  clear hb1 HWK R0 Q0
  go_wp2_with (first | (refine wpList_load_rowG rfl 48 _ rfl G0 rfl 48 #[.string m, .int .u8 (A0 : Nat), .int .u8 (A1 : Nat), .int .u8 (A2 : Nat), .int .u8 (A3 : Nat), .string h, .int .i64 p, .string t, .slice xa xn xc] (0, 0) _ R1.out Tryd.underlying48 rfl info44 ?_))
  refine (HK1.out _ (S1.out.below BB1.out) (HT.out.1.below BB1.out) (HT.out.2.below BB1.out)).mono ?_
  rintro e w2 ⟨rfl, hb2⟩
  have BB2 := hide (BB1.out.trans (hb2.mono BB1.out.size))
  have R2 := hide (keepB hb2 R1.out)
  have Q2 := hide (keepB hb2 Q1.out)
  clear hb2 HK1 R1 Q1
  go_wp2_with (first | (refine wpList_load_rowG rfl 48 _ rfl (G0 + 1) rfl 48 #[.string m', .int .u8 (B0 : Nat), .int .u8 (B1 : Nat), .int .u8 (B2 : Nat), .int .u8 (B3 : Nat), .string h', .int .i64 p', .string t', .slice ya yn yc] (0, 0) _ Q2.out Tryd.underlying48 rfl info44 ?_))
  refine (HK2.out _ (S2.out.below BB2.out) (HT.out.1.below BB2.out) (HT.out.2.below BB2.out)).mono ?_
  rintro e w3 ⟨rfl, hb3⟩
  have BB3 := hide (BB2.out.trans (hb3.mono BB2.out.size))
  have R3 := hide (keepB hb3 R2.out)
  have Q3 := hide (keepB hb3 Q2.out)
  clear hb3 HK2 R2 Q2
  by_cases z1 : E1 = 0
  · by_cases z2 : E2 = 0
    · subst z1 z2
      have HQ := hide (HEQ.out rfl rfl)
      have heq := toList_two k1 k2 HL1.out HL2.out
      have r3 := R3.out
      have q3 := Q3.out
      have c1 : w3.cell? ⟨G0, 1, none⟩ = some (.int .u8 (A0 : Nat)) := by simp [World.cell?, r3]
      have c2 : w3.cell? ⟨G0, 2, none⟩ = some (.int .u8 (A1 : Nat)) := by simp [World.cell?, r3]
      have c3 : w3.cell? ⟨G0, 3, none⟩ = some (.int .u8 (A2 : Nat)) := by simp [World.cell?, r3]
      have c4 : w3.cell? ⟨G0, 4, none⟩ = some (.int .u8 (A3 : Nat)) := by simp [World.cell?, r3]
      have c5 : w3.cell? ⟨G0, 5, none⟩ = some (.string h) := by simp [World.cell?, r3]
      have c6 : w3.cell? ⟨G0, 6, none⟩ = some (.int .i64 p) := by simp [World.cell?, r3]
      have c7 : w3.cell? ⟨G0, 7, none⟩ = some (.string t) := by simp [World.cell?, r3]
      have d1 : w3.cell? ⟨G0 + 1, 1, none⟩ = some (.int .u8 (B0 : Nat)) := by simp [World.cell?, q3]
      have d2 : w3.cell? ⟨G0 + 1, 2, none⟩ = some (.int .u8 (B1 : Nat)) := by simp [World.cell?, q3]
      have d3 : w3.cell? ⟨G0 + 1, 3, none⟩ = some (.int .u8 (B2 : Nat)) := by simp [World.cell?, q3]
      have d4 : w3.cell? ⟨G0 + 1, 4, none⟩ = some (.int .u8 (B3 : Nat)) := by simp [World.cell?, q3]
      have d5 : w3.cell? ⟨G0 + 1, 5, none⟩ = some (.string h') := by simp [World.cell?, q3]
      have d6 : w3.cell? ⟨G0 + 1, 6, none⟩ = some (.int .i64 p') := by simp [World.cell?, q3]
      have d7 : w3.cell? ⟨G0 + 1, 7, none⟩ = some (.string t') := by simp [World.cell?, q3]
      obtain ⟨X1, hX1⟩ : ∃ X, X = strN k1 := ⟨_, rfl⟩
      obtain ⟨X2, hX2⟩ : ∃ X, X = strN k2 := ⟨_, rfl⟩
      rw [← hX1, ← hX2] at heq ⊢
      obtain ⟨bq, hbq⟩ : ∃ b, b = decide (k1 = k2) := ⟨_, rfl⟩
      rw [← hbq] at heq
      have HBQ := hide hbq
      clear hX1 hX2 r3 q3 hbq HEQ HC1 HC2 HP1 HP2 HN1 HN2
      by_cases e0 : A0 = B0
      case neg =>
        have hb : bq = false := by rw [HBQ.out]; exact decide_eq_false (fun hk => by have h := HQ.out.1 hk; exact e0 (congrArg Prod.fst h.1.1))
        have q : ((A0 : Int) == (B0 : Int)) = false := by simp; omega
        subst hb
        clear e0 HQ HBQ
        go_wp2_with fail
        go_ret
        exact ⟨by first | rfl | simp, BB3.out⟩
      subst e0
      by_cases e1 : A1 = B1
      case neg =>
        have hb : bq = false := by rw [HBQ.out]; exact decide_eq_false (fun hk => by have h := HQ.out.1 hk; exact e1 (congrArg (fun z => z.2.1) h.1.1))
        have q : ((A1 : Int) == (B1 : Int)) = false := by simp; omega
        subst hb
        clear e1 HQ HBQ
        go_wp2_with fail
        go_ret
        exact ⟨by first | rfl | simp, BB3.out⟩
      subst e1
      by_cases e2 : A2 = B2
      case neg =>
        have hb : bq = false := by rw [HBQ.out]; exact decide_eq_false (fun hk => by have h := HQ.out.1 hk; exact e2 (congrArg (fun z => z.2.2.1) h.1.1))
        have q : ((A2 : Int) == (B2 : Int)) = false := by simp; omega
        subst hb
        clear e2 HQ HBQ
        go_wp2_with fail
        go_ret
        exact ⟨by first | rfl | simp, BB3.out⟩
      subst e2
      by_cases e3 : A3 = B3
      case neg =>
        have hb : bq = false := by rw [HBQ.out]; exact decide_eq_false (fun hk => by have h := HQ.out.1 hk; exact e3 (congrArg (fun z => z.2.2.2) h.1.1))
        have q : ((A3 : Int) == (B3 : Int)) = false := by simp; omega
        subst hb
        clear e3 HQ HBQ
        go_wp2_with fail
        go_ret
        exact ⟨by first | rfl | simp, BB3.out⟩
      subst e3
      by_cases e4 : byt h = byt h'
      case neg =>
        have hb : bq = false := by rw [HBQ.out]; exact decide_eq_false (fun hk => by have h := HQ.out.1 hk; exact e4 h.1.2.1)
        have q : (h.toList == h'.toList) = false := by rw [eq_byt, decide_eq_false e4]
        subst hb
        clear e4 HQ HBQ
        go_wp2_with fail
        go_ret
        exact ⟨by first | rfl | simp, BB3.out⟩
      have f4 := byt_inj e4
      subst f4
      clear e4
      by_cases e5 : p = p'
      case neg =>
        have hb : bq = false := by rw [HBQ.out]; exact decide_eq_false (fun hk => by have h := HQ.out.1 hk; exact e5 h.1.2.2)
        have q : (p == p') = false := by simp; exact e5
        subst hb
        clear e5 HQ HBQ
        go_wp2_with fail
        go_ret
        exact ⟨by first | rfl | simp, BB3.out⟩
      subst e5
      by_cases e7 : byt t = byt t'
      case neg =>
        have hb : bq = false := by rw [HBQ.out]; exact decide_eq_false (fun hk => e7 (HQ.out.1 hk).2)
        have q : (t.toList == t'.toList) = false := by rw [eq_byt, decide_eq_false e7]
        subst hb
        clear e7 HQ HBQ
        go_wp2_with fail
        go_ret
        exact ⟨by first | rfl | simp, BB3.out⟩
      have hb : bq = true := by rw [HBQ.out]; exact decide_eq_true (HQ.out.2 ⟨⟨rfl, rfl, rfl⟩, e7⟩)
      have f7 := byt_inj e7
      subst f7
      subst hb
      clear e7 HQ HBQ
      go_wp2_with fail
      go_ret
      exact ⟨by first | rfl | simp, BB3.out⟩
    · subst z1
      obtain ⟨e1, n1, _⟩ := HP1.out rfl
      have hn1 : byt (strN k1) ≠ [] := by
        rw [byt_strN _ HL1.out]
        have : k1 = _ := congrArg Prod.fst e1
        rw [this]
        simp [n1]
      obtain ⟨x1, y1⟩ := toList_ne _ hn1
      have v1 : ((strN k1).toList != []) = true := by rw [bne, y1]; rfl
      clear e1 n1 hn1
      have kk2 : k2 = [] := HN2.out z2
      subst kk2
      have u2 : E2 = 2 := (HC2.out).resolve_left z2
      subst u2
      rw [show strN [] = ⟨#[]⟩ from rfl]
      obtain ⟨X1, hX1⟩ : ∃ X, X = strN k1 := ⟨_, rfl⟩
      rw [← hX1] at x1 y1 v1 ⊢
      clear hX1 HEQ HC1 HC2 HP1 HP2 HN1 HN2 R3 Q3
      go_wp2_with fail
      go_ret
      exact ⟨by first | rfl | simp [x1, y1] , BB3.out⟩
  · by_cases z2 : E2 = 0
    · subst z2
      obtain ⟨e2, n2, _⟩ := HP2.out rfl
      have hn2 : byt (strN k2) ≠ [] := by
        rw [byt_strN _ HL2.out]
        have : k2 = _ := congrArg Prod.fst e2
        rw [this]
        simp [n2]
      obtain ⟨x2, y2⟩ := toList_ne _ hn2
      have v2 : ((strN k2).toList != []) = true := by rw [bne, y2]; rfl
      clear e2 n2 hn2
      have kk1 : k1 = [] := HN1.out z1
      subst kk1
      have u1 : E1 = 2 := (HC1.out).resolve_left z1
      subst u1
      rw [show strN [] = ⟨#[]⟩ from rfl]
      obtain ⟨X2, hX2⟩ : ∃ X, X = strN k2 := ⟨_, rfl⟩
      rw [← hX2] at x2 y2 v2 ⊢
      clear hX2 HEQ HC1 HC2 HP1 HP2 HN1 HN2 R3 Q3
      go_wp2_with fail
      go_ret
      exact ⟨by first | rfl | simp [x2, y2], BB3.out⟩
    ·
      have kk1 : k1 = [] := HN1.out z1
      subst kk1
      have u1 : E1 = 2 := (HC1.out).resolve_left z1
      subst u1
      rw [show strN [] = ⟨#[]⟩ from rfl]
      have kk2 : k2 = [] := HN2.out z2
      subst kk2
      have u2 : E2 = 2 := (HC2.out).resolve_left z2
      subst u2
      rw [show strN [] = ⟨#[]⟩ from rfl]
      clear HEQ HC1 HC2 HP1 HP2 HN1 HN2 R3 Q3
      go_wp2_with fail
      go_ret
      exact ⟨by first | rfl | simp, BB3.out⟩
end Go.Proofs.YtffjhhacegnhmaaDoor
