/-
  HeadComes' walk; conditions as each theorem has them.
-/
import Derived.Test.YthbnbnfhbkekpaaGreatDoorWK
import Derived.Test.YthbnbnfhbkekpaaGreatDoorV
set_option linter.unusedSimpArgs false
set_option linter.unusedVariables false
namespace Go.Proofs.YthbnbnfhbkekpaaGreatDoor
open Go.RowKit

theorem goTo_len (t : List Nat) : (goTo t).1.1.1.length = 4 := by
  unfold goTo
  split
  · exact dest_len t
  · have := host_len t
    split
    · rename_i h heq; rw [heq] at this; exact this
    · rfl
theorem rline_len (x : List Nat) : (rline x).1.2.1.1.1.length = 4 := by
  have key : ∀ m t, (targ m t).1.2.1.1.1.length = 4 := fun m t => by
    unfold targ
    split
    · have := dest_len t
      split
      · rename_i d heq; rw [heq] at this; exact this
      · rfl
    · split
      · rfl
      · have := goTo_len (cutT t).1
        split
        · rename_i d heq; rw [heq] at this; exact this
        · rfl
  unfold rline
  split
  · split
    · rfl
    · split
      · rfl
      · exact key _ _
  · rfl
theorem request_len (l : List Nat) : (request l).1.1.2.1.1.1.length = 4 := by
  unfold request
  split
  · rfl
  · rename_i ls _
    have : (req ls).1.1.2.1.1.1.length = 4 := by
      cases ls with
      | nil => rfl
      | cons x r =>
        unfold req
        have := rline_len x
        simp only
        split
        · rename_i q heq
          rw [heq] at this
          split
          · exact this
          · rfl
        · rfl
    split
    · rename_i q heq; rw [heq] at this; exact this
    · rfl
theorem request_row (l : List Nat) : ∃ (m : ByteArray) (x0 x1 x2 x3 : Nat) (s : ByteArray) (p : Nat) (t : ByteArray), ∀ v, rqC (request l).1.1 v = #[.string m, .int .u8 (x0 : Nat), .int .u8 (x1 : Nat), .int .u8 (x2 : Nat), .int .u8 (x3 : Nat), .string s, .int .i64 (p : Nat), .string t, v] := by
  obtain ⟨x0, x1, x2, x3, hA⟩ := four (request_len l)
  exact ⟨strN (request l).1.1.1, x0, x1, x2, x3, strN (request l).1.1.2.1.1.2, (request l).1.1.2.1.2, strN (request l).1.1.2.2, fun v => by unfold rqC; rw [hA]; rfl⟩
set_option maxRecDepth 100000 in
set_option maxHeartbeats 8000000 in
theorem comes_walk (a : Option Addr) (n c : Nat) (b : List Nat) (cut : Int) (a2 : Option Addr) (n2 c2 : Nat) (more : List Nat) (w : World) (hT : Tabs w) (h : Src w a n c b) (hn : n ≤ 1048576) (h2 : Src w a2 n2 c2 more) (hn2 : n2 ≤ 1048576) : Calls Tryz.prog 7 #[.slice a n c, .int .i64 cut, .slice a2 n2 c2] w fun e w' => e = .returned (.bool true) ∧ Below w.heap.size w w' := by
  have HW := hide (works_at w hT)
  have S0 := hide h
  have M0 := hide h2
  have T0 := hide hT
  have hcap := h.hcap
  have hmx := h.hmax
  unfold maxLen at hmx
  have HL := hide h.hlen
  clear h h2 hT
  go_enter Tryz.func7, Tryz.ntmps7
  go_wp2_with fail
  refine HW.out.mono ?_
  rintro e w1 ⟨rfl, hb1⟩
  have B1 := hide hb1
  have HR := hide (end_at a n c b w1 (S0.out.below hb1) (T0.out.below hb1).v)
  have T1 := hide (T0.out.below hb1)
  clear hb1 HW
  go_wp2_with fail
  refine HR.out.mono ?_
  rintro e w2 ⟨u, rfl, hf, hb2⟩
  have B2 := hide (B1.out.trans (hb2.mono B1.out.size))
  have T2 := hide (T1.out.below hb2)
  clear hb2 HR B1 T1
  rcases enE_two b with ⟨hok, ls, hls, htot⟩ | ⟨hno, hz, ac, cc, her⟩
  · obtain rfl := hf.nil hok
    obtain ⟨K, hK⟩ : ∃ K, K = tot ls := ⟨_, rfl⟩
    rw [htot, ← hK]
    obtain ⟨_, _, k8, kl⟩ := hd_some hls
    have k2 := tot_ge ls
    rw [← hK] at k8 kl k2
    rw [HL.out] at kl
    have HSH : Hid (∀ k, k < K → enE (b.take k) = (0, .one k 6)) := fun k hk => by
      have h1 := hd_short hls (k := k) (by rw [← hK]; exact hk)
      have : en ((b.take k).take 8192) = none := by rw [hd_en, h1]; rfl
      rw [enE_none this, if_pos (by rw [List.length_take]; omega), List.length_take, HL.out, Nat.min_eq_left (by omega)]
    have HMO : Hid (request (b.take K ++ more) = request b) := by rw [hK]; exact request_more hls more
    have HRN : Hid ((request b).2.1 = K ∨ (request b).2.1 = 0) := by
      rcases request_n b with ⟨h1, _⟩ | ⟨_, ls2, h1, h2⟩
      · exact Or.inr h1
      · rw [hls] at h1; cases h1; rw [h2, hK]; exact Or.inl rfl
    obtain ⟨m, x0, x1, x2, x3, s, p, t, hrow⟩ := request_row b
    have q1 : decide ((K : Int) < 2) = false := decide_eq_false (by omega)
    have q1' : decide (K < 2) = false := decide_eq_false (by omega)
    have q2 : decide ((n : Int) < K) = false := decide_eq_false (by omega)
    have q2' : decide (n < K) = false := decide_eq_false (by omega)
    have q3 : decide (8192 < (K : Int)) = false := decide_eq_false (by omega)
    have q3' : decide (8192 < K) = false := decide_eq_false (by omega)
    have HROW := hide hrow
    clear hf hok hls htot hK hrow
    go_wp2_with fail
    refine (Among_at cut K (by omega) (by omega) _).mono ?_
    rintro e w4 ⟨k, hkK, rfl, rfl⟩
    have SS : Src w2 a n c b := S0.out.keep (fun h0 i o ei => B2.out.block i (S0.out.lt h0 ei)) B2.out.size
    obtain ⟨xk, s1, s2, s3⟩ := run_cut_h w2 a n c b SS k (by omega)
    have HE := hide (end_at xk k c (b.take k) w2 s3 T2.out.v)
    rw [HSH.out k hkK] at HE
    clear SS s3
    go_wp2_with fail
    refine HE.out.mono ?_
    rintro e w5 ⟨u5, rfl, hf5, hb5⟩
    have F5 := hide hf5
    have B5 := hide (B2.out.trans (hb5.mono B2.out.size))
    have T5 := hide (T2.out.below hb5)
    have HRQ := hide (request_at a n c b w5 (S0.out.keep (fun h0 i o ei => B5.out.block i (S0.out.lt h0 ei)) B5.out.size) T5.out.v T5.out.e)
    simp only [HROW.out] at HRQ
    clear hf5 hb5 HE s1 s2
    go_wp2_with fail
    refine HRQ.out.mono ?_
    rintro e w6 ⟨ad6, cap6, g, rfl, sf6, hg6, hb6⟩
    obtain ⟨fs, hfs⟩ : ∃ fs, fs = (request b).1.2 := ⟨_, rfl⟩
    obtain ⟨I, hI⟩ : ∃ I, I = (request b).2.1 := ⟨_, rfl⟩
    obtain ⟨er, her⟩ : ∃ I, I = (request b).2.2 := ⟨_, rfl⟩
    rw [← hI] at HRN
    rw [← hfs] at sf6
    rw [← her] at hg6
    have HFS := hide hfs
    have HII := hide hI
    have HER := hide her
    rw [← HFS.out, ← HII.out]
    obtain ⟨L, hL⟩ : ∃ L, L = fs.length := ⟨_, rfl⟩
    rw [← hL] at sf6 ⊢
    have HLL := hide hL
    clear hfs hI her hL
    obtain ⟨G, hG⟩ : ∃ G, G = w6.heap.size := ⟨_, rfl⟩
    obtain ⟨W7, hW7⟩ : ∃ W, W = w6.alloc (.cells #[.string m, .int .u8 (x0 : Nat), .int .u8 (x1 : Nat), .int .u8 (x2 : Nat), .int .u8 (x3 : Nat), .string s, .int .i64 (p : Nat), .string t, .slice ad6 L cap6] 44) := ⟨_, rfl⟩
    have b7 : Below w6.heap.size w6 W7 := by rw [hW7]; exact (Below.refl _ _).alloc (Nat.le_refl _) _
    have hb7 : Below w5.heap.size w5 W7 := hb6.trans (b7.mono hb6.size)
    have g7 : W7.heap[G]? = some (.cells #[.string m, .int .u8 (x0 : Nat), .int .u8 (x1 : Nat), .int .u8 (x2 : Nat), .int .u8 (x3 : Nat), .string s, .int .i64 (p : Nat), .string t, .slice ad6 L cap6] 44) := by rw [hW7, hG]; exact alloc_new _ _
    have HW7 : Hid (w6.alloc (.cells #[.string m, .int .u8 (x0 : Nat), .int .u8 (x1 : Nat), .int .u8 (x2 : Nat), .int .u8 (x3 : Nat), .string s, .int .i64 (p : Nat), .string t, .slice ad6 L cap6] 44) = W7) := hW7.symm
    have HG := hide hG.symm
    have G7 := hide g7
    have B7 := hide (B5.out.trans (hb7.mono B5.out.size))
    have T7 := hide (T5.out.below hb7)
    have F7 := hide (F5.out.below hb7)
    have E7 := hide (hg6.below b7)
    have SF7 := hide (sf6.below b7)
    have SS : Src W7 a n c b := S0.out.keep (fun h0 i o ei => B7.out.block i (S0.out.lt h0 ei)) B7.out.size
    obtain ⟨xK, s1, s2, s3⟩ := run_cut_h W7 a n c b SS K kl
    have HBY := hide (bytes_at xK K c (b.take K) W7 s3 (by omega))
    clear hb6 hb7 b7 hW7 hG g7 hg6 sf6 SS s3 HRQ B5 T5 F5
    go_wp2_with (first | (rw [HW7.out, HG.out]))
    try (rw [HW7.out, HG.out]; go_wp2_with fail)
    refine HBY.out.mono ?_
    rintro e w8 ⟨v8, rfl, o8, b8⟩
    have b08 := B7.out.trans (b8.mono B7.out.size)
    obtain ⟨v9, w9, a9, o9, b9⟩ := run_app o8 (M0.out.keep (fun h0 i o ei => b08.block i (M0.out.lt h0 ei)) b08.size) (by rw [List.length_take]; omega) b8.size
    obtain ⟨x9, c9, rfl, s9, _⟩ := own_src o9 (by intro x hx; rcases List.mem_append.1 hx with h | h; exact S0.out.byte x (List.mem_of_mem_take h); exact M0.out.byte x h)
    have b79 : Below W7.heap.size W7 w9 := b8.trans b9
    have B9 := hide (B7.out.trans (b79.mono B7.out.size))
    have T9 := hide (T7.out.below b79)
    have HR9 := hide (request_at x9 _ c9 (b.take K ++ more) w9 s9 T9.out.v T9.out.e)
    rw [HMO.out] at HR9
    simp only [HROW.out, ← HFS.out, ← HII.out, ← HLL.out, ← HER.out] at HR9
    have A9 := hide a9
    have G9 := hide (keepB b79 G7.out)
    have F9 := hide (F7.out.below b79)
    have E9 := hide (E7.out.below b79)
    have SF9 := hide (SF7.out.below b79)
    clear o8 b8 b08 a9 o9 b9 s9 b79 HBY s1 s2 G7 F7 E7 SF7 B7 T7
    generalize (b.take K ++ more).length = FL at A9 HR9
    go_wp2_with (first | (refine wpList_app_run _ rfl _ _ 22 22 rfl _ _ rfl rfl A9.out ?_))
    refine HR9.out.mono ?_
    rintro e w10 ⟨ad10, cap10, h, rfl, sf10, hg10, hb10⟩
    obtain ⟨G2, hG2⟩ : ∃ G, G = w10.heap.size := ⟨_, rfl⟩
    obtain ⟨W11, hW11⟩ : ∃ W, W = w10.alloc (.cells #[.string m, .int .u8 (x0 : Nat), .int .u8 (x1 : Nat), .int .u8 (x2 : Nat), .int .u8 (x3 : Nat), .string s, .int .i64 (p : Nat), .string t, .slice ad10 L cap10] 44) := ⟨_, rfl⟩
    have b11 : Below w10.heap.size w10 W11 := by rw [hW11]; exact (Below.refl _ _).alloc (Nat.le_refl _) _
    have hb11 : Below w9.heap.size w9 W11 := hb10.trans (b11.mono hb10.size)
    have g11 : W11.heap[G2]? = some (.cells #[.string m, .int .u8 (x0 : Nat), .int .u8 (x1 : Nat), .int .u8 (x2 : Nat), .int .u8 (x3 : Nat), .string s, .int .i64 (p : Nat), .string t, .slice ad10 L cap10] 44) := by rw [hW11, hG2]; exact alloc_new _ _
    have HW11 : Hid (w10.alloc (.cells #[.string m, .int .u8 (x0 : Nat), .int .u8 (x1 : Nat), .int .u8 (x2 : Nat), .int .u8 (x3 : Nat), .string s, .int .i64 (p : Nat), .string t, .slice ad10 L cap10] 44) = W11) := hW11.symm
    have HG2 := hide hG2.symm
    have Y11 := hide g11
    have B11 := hide (B9.out.trans (hb11.mono B9.out.size))
    have F11 := hide (F9.out.below hb11)
    have E11 := hide (E9.out.below hb11)
    have G11 := hide (keepB hb11 G9.out)
    have SF11 := hide (SF9.out.below hb11)
    have H11 := hide (hg10.below b11)
    have SG11 := hide (sf10.below b11)
    clear hb10 hb11 b11 hW11 hG2 g11 hg10 sf10 HR9 A9 B9 T9 F9 E9 G9 SF9
    go_wp2_with (first | (rw [HW11.out, HG2.out]))
    try (rw [HW11.out, HG2.out]; go_wp2_with fail)
    refine (failH_at k 6 _).mono ?_
    rintro e w12 ⟨rfl, hb12⟩
    have A12 := hide (is_at (.one k 6) u5 w12 (F11.out.below hb12))
    have B12 := hide (B11.out.trans (hb12.mono B11.out.size))
    have E12 := hide (E11.out.below hb12)
    have G12 := hide (keepB hb12 G11.out)
    have Y12 := hide (keepB hb12 Y11.out)
    have SF12 := hide (SF11.out.below hb12)
    have SG12 := hide (SG11.out.below hb12)
    have H12 := hide (H11.out.below hb12)
    clear hb12 F11 B11 E11 G11 Y11 SF11 SG11 H11
    go_wp2_with fail
    refine A12.out.mono ?_
    rintro e w13 ⟨rfl, hb13⟩
    have B13 := hide (B12.out.trans (hb13.mono B12.out.size))
    have E13 := hide (E12.out.below hb13)
    have G13 := hide (keepB hb13 G12.out)
    have Y13 := hide (keepB hb13 Y12.out)
    have HS13 := hide (same_request w13 m x0 x1 x2 x3 s p t ad6 ad10 L cap6 L cap10 fs (SF12.out.below hb13) (SG12.out.below hb13))
    have H13 := hide (H12.out.below hb13)
    clear hb13 A12 B12 E12 G12 Y12 SF12 SG12 H12
    go_wp2_with (first
      | (refine wpList_load_rowG rfl 44 _ rfl G rfl 44 #[.string m, .int .u8 (x0 : Nat), .int .u8 (x1 : Nat), .int .u8 (x2 : Nat), .int .u8 (x3 : Nat), .string s, .int .i64 (p : Nat), .string t, .slice ad6 L cap6] (0, 0) _ G13.out Tryz.underlying44 rfl info44 ?_)
      | (refine wpList_load_rowG rfl 44 _ rfl G2 rfl 44 #[.string m, .int .u8 (x0 : Nat), .int .u8 (x1 : Nat), .int .u8 (x2 : Nat), .int .u8 (x3 : Nat), .string s, .int .i64 (p : Nat), .string t, .slice ad10 L cap10] (0, 0) _ Y13.out Tryz.underlying44 rfl info44 ?_))
    refine HS13.out.mono ?_
    rintro e w14 ⟨rfl, hb14⟩
    have B14 := hide (B13.out.trans (hb14.mono B13.out.size))
    have HLK := hide (like_at er g h w14 (E13.out.below hb14) (H13.out.below hb14))
    clear hb14 B13 E13 H13 G13 Y13 HS13
    have ii : ((I : Int) == (I : Int)) = true := by simp
    rcases HRN.out with rfl | rfl
    · have jj : ((I : Int) == (I : Int)) = true := by simp
      go_wp2_with fail
      refine HLK.out.mono ?_
      rintro e w15 ⟨rfl, hb15⟩
      have B15 := hide (B14.out.trans (hb15.mono B14.out.size))
      clear hb15
      go_wp2_with fail
      go_ret
      exact ⟨rfl, B15.out⟩
    · have jj : (((0 : Nat) : Int) == (K : Int)) = false := by simp; omega
      have jj2 : ((0 : Int) == (K : Int)) = false := by simp; omega
      go_wp2_with fail
      refine HLK.out.mono ?_
      rintro e w15 ⟨rfl, hb15⟩
      have B15 := hide (B14.out.trans (hb15.mono B14.out.size))
      clear hb15
      go_wp2_with fail
      go_ret
      exact ⟨rfl, B15.out⟩
  · have hz2 : enE b = (0, .one ac cc) := Prod.ext hz her
    rw [hz2] at hf ⊢
    obtain ⟨x, rfl⟩ := hf.ptr (by simp)
    have SS : Src w2 a n c b := S0.out.keep (fun h0 i o ei => B2.out.block i (S0.out.lt h0 ei)) B2.out.size
    have HRQ := hide (request_at a n c b w2 SS T2.out.v T2.out.e)
    rw [request_short hno, hz2] at HRQ
    have hr0 : ∀ v, rqC noR v = #[.string ⟨#[]⟩, .int .u8 0, .int .u8 0, .int .u8 0, .int .u8 0, .string ⟨#[]⟩, .int .i64 0, .string ⟨#[]⟩, v] := fun v => rfl
    simp only [hr0, List.length_nil] at HRQ
    clear hr0
    have F2 := hide hf
    clear SS hf hz her hno
    go_wp2_with fail
    refine HRQ.out.mono ?_
    rintro e w3 ⟨ad3, cap3, f, rfl, _, hf3, hb3⟩
    have b4 : Below w3.heap.size w3 (w3.alloc (.cells #[.string ⟨#[]⟩, .int .u8 0, .int .u8 0, .int .u8 0, .int .u8 0, .string ⟨#[]⟩, .int .i64 0, .string ⟨#[]⟩, .slice ad3 0 cap3] 44)) := (Below.refl _ _).alloc (Nat.le_refl _) _
    obtain ⟨W4, hW4⟩ : ∃ W, W = (w3.alloc (.cells #[.string ⟨#[]⟩, .int .u8 0, .int .u8 0, .int .u8 0, .int .u8 0, .string ⟨#[]⟩, .int .i64 0, .string ⟨#[]⟩, .slice ad3 0 cap3] 44)) := ⟨_, rfl⟩
    obtain ⟨G, hG⟩ : ∃ G, G = w3.heap.size := ⟨_, rfl⟩
    have g4 : W4.heap[G]? = some (.cells #[.string ⟨#[]⟩, .int .u8 0, .int .u8 0, .int .u8 0, .int .u8 0, .string ⟨#[]⟩, .int .i64 0, .string ⟨#[]⟩, .slice ad3 0 cap3] 44) := by rw [hW4, hG]; exact alloc_new _ _
    have c0 : W4.cell? ⟨G, 0, none⟩ = some (.string ⟨#[]⟩) := by simp [World.cell?, g4]
    rw [← hW4] at b4
    have hb4 := hb3.trans (b4.mono hb3.size)
    have B4 := hide (B2.out.trans (hb4.mono B2.out.size))
    have HLK := hide (like_at (.one ac cc) f _ W4 (hf3.below b4) (F2.out.below hb4))
    have HW4 := hide hW4.symm
    have HG := hide hG.symm
    clear hb3 hb4 b4 hf3 g4 hW4 hG HRQ F2 T2 B2
    go_wp2_with (first | (rw [HW4.out, HG.out]))
    try (rw [HW4.out, HG.out]; go_wp2_with fail)
    refine HLK.out.mono ?_
    rintro e w5 ⟨rfl, hb5⟩
    have B5 := hide (B4.out.trans (hb5.mono B4.out.size))
    clear hb5
    go_wp2_with fail
    go_ret
    exact ⟨rfl, B5.out⟩
end Go.Proofs.YthbnbnfhbkekpaaGreatDoor
