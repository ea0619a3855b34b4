/-
  FieldsAdds' walk: a field is added, and a request's key told, as the reference has it; conditions as each theorem has them.
-/
import Derived.Test.YtffjhhacegnhmaaGreatDoorAD
set_option linter.unusedSimpArgs false
set_option linter.unusedVariables false
namespace Go.Proofs.YtffjhhacegnhmaaGreatDoor
open Go.RowKit

theorem addv_ok {fs : List Fd} (h : okB fs) (s t : ByteArray) : okB (addv fs (byt s) (byt t)).1 := by
  unfold addv
  split
  · split
    · intro f hf
      rcases List.mem_append.1 hf with hf | hf
      · exact h f hf
      · have hf' : f = (byt s, byt t) := by simpa using hf
        rw [hf']; exact ⟨byt_lt s, byt_lt t⟩
    · intro f hf; simp at hf
  · intro f hf; simp at hf
set_option maxRecDepth 100000 in
set_option maxHeartbeats 8000000 in
theorem adds_walk (a : Option Addr) (n c : Nat) (fs : List Fd) (s t : ByteArray) (pv : Value) (m : ByteArray) (A : Ad) (h : ByteArray) (p : Int) (u : ByteArray) (xa : Option Addr) (xn xc : Nat) (gs : List Fd) (w : World) (hT : Vars w ∧ Pow w) (hf : SrcF w a n c fs) (hsh : Short fs) (hln : n * 32 ≤ 140737488351232) (hs : s.size ≤ 140737488351232) (ht : t.size ≤ 140737488351232) (hq : IsRq w pv m A h p u xa xn xc gs) :
    Calls Tryz.prog 3 #[.slice a n c, .string s, .string t, pv] w fun e w' => e = .returned (.bool true) ∧ Below w.heap.size w w' := by
  obtain ⟨rfl, ok, hm, hh, hp, hu, src, sht, len⟩ := hq
  have HK1 := hide (fun W hs hv hP => key_at m A h p u xa xn xc gs W ok (by unfold maxLen; omega) hh (by unfold maxLen; omega) hs (fun f hf => by have := sht f hf; unfold maxLen; omega) hv hP)
  have HK2 := hide (fun W hs => rkey_at m A h p u xa xn xc gs W ok hm hh hu hs (fun f hf => by have := sht f hf; omega))
  have HAD1 := hide (fun x k d W hs' => add_at x k d fs s t W hs' (by unfold maxLen; omega) (by unfold maxLen; omega))
  have HAD2 := hide (fun W hs' => radd_at a n c fs s t W hs' (by omega) (by omega))
  have HOA := hide (addv_ok hf.byte s t)
  have hl := hf.hlen
  have HL := hide hl
  have HOK := hide hf.byte
  have hcl := hf.hcap
  have hmx := hf.hmax
  unfold maxLen at hmx
  obtain ⟨A0, A1, A2, A3⟩ := A
  unfold rqV at HK1 HK2 ⊢
  obtain ⟨K, hK⟩ : ∃ K, K = keyv (byt m) (det (A0, A1, A2, A3) (byt h) p) (byt u) gs := ⟨_, rfl⟩
  simp only [← hK] at HK1 HK2
  obtain ⟨k1, E1⟩ := K
  simp only at HK1 HK2
  generalize strN k1 = X1 at HK1 HK2
  obtain ⟨D, hD⟩ : ∃ D, D = addv fs (byt s) (byt t) := ⟨_, rfl⟩
  simp only [← hD] at HAD1 HAD2 HOA
  obtain ⟨ds, E2⟩ := D
  simp only at HAD1 HAD2 HOA
  obtain ⟨G0, hG0⟩ : ∃ G, G = w.heap.size := ⟨_, rfl⟩
  obtain ⟨W0, hW0⟩ : ∃ W, W = w.alloc (.cells #[.string m, .int .u8 (A0 : Nat), .int .u8 (A1 : Nat), .int .u8 (A2 : Nat), .int .u8 (A3 : Nat), .string h, .int .i64 p, .string u, .slice xa xn xc] 30) := ⟨_, rfl⟩
  have b0 : Below w.heap.size w W0 := by rw [hW0]; exact (Below.refl _ _).alloc (Nat.le_refl _) _
  have g0 : W0.heap[G0]? = some (.cells #[.string m, .int .u8 (A0 : Nat), .int .u8 (A1 : Nat), .int .u8 (A2 : Nat), .int .u8 (A3 : Nat), .string h, .int .i64 p, .string u, .slice xa xn xc] 30) := by rw [hW0, hG0]; exact alloc_new _ _
  have HCP := hide (copyF_at a n c fs W0 (hf.below b0) (by omega))
  have HW0 := hide hW0.symm
  have HG0 := hide hG0.symm
  have R0 := hide g0
  have B0 := hide b0
  have HT := hide hT
  have S := hide src
  have H := hide hf
  clear hW0 hG0 g0 b0 hT src ok hm hh hp hu sht len hK hD hf hsh hln hs ht hl
  go_enter Tryz.func3, Tryz.ntmps3
  go_wp2_with fail
  rw [HW0.out, HG0.out]
  refine HCP.out.mono ?_
  rintro e w1 ⟨v, rfl, o1, k1⟩
  obtain ⟨xo, co, rfl, so, _⟩ := o1.src HOK.out
  have S1 := hide so
  have B1 := hide (B0.out.trans (k1.mono B0.out.size))
  have R1 := hide (keepB k1 R0.out)
  rw [HL.out] at S1 ⊢
  clear o1 k1 HCP so R0 B0
  go_wp2_with fail
  refine (HAD1.out _ _ _ _ S1.out).mono ?_
  rintro e w2 ⟨v2, rfl, o2, k2⟩
  obtain ⟨x2, c2, rfl, t2, _⟩ := o2.src HOA.out
  have T2 := hide t2
  have B2 := hide (B1.out.trans (k2.mono B1.out.size))
  have R2 := hide (keepB k2 R1.out)
  have S2 := hide (S1.out.below k2)
  clear o2 k2 t2 HAD1 B1 R1 S1
  go_wp2_with fail
  refine (HAD2.out _ (H.out.below B2.out)).mono ?_
  rintro e w3 ⟨v3, rfl, o3, k3⟩
  obtain ⟨x3, c3, rfl, t3, _⟩ := o3.src HOA.out
  have U3 := hide t3
  have T3 := hide (T2.out.below k3)
  have B3 := hide (B2.out.trans (k3.mono B2.out.size))
  have R3 := hide (keepB k3 R2.out)
  have S3 := hide (S2.out.below k3)
  clear o3 k3 t3 HAD2 B2 R2 S2 T2
  obtain ⟨LD, hLD⟩ : ∃ x, x = ds.length := ⟨_, rfl⟩
  rw [← hLD] at T3 U3 ⊢
  clear hLD
  go_wp2_with (first | (refine wpList_load_rowG rfl 30 _ rfl G0 rfl 30 #[.string m, .int .u8 (A0 : Nat), .int .u8 (A1 : Nat), .int .u8 (A2 : Nat), .int .u8 (A3 : Nat), .string h, .int .i64 p, .string u, .slice xa xn xc] (0, 0) _ R3.out Tryz.underlying30 rfl info44 ?_))
  refine (HK1.out _ (S.out.below B3.out) (HT.out.1.below B3.out) (HT.out.2.below B3.out)).mono ?_
  rintro e w4 ⟨rfl, k4⟩
  have B4 := hide (B3.out.trans (k4.mono B3.out.size))
  have R4 := hide (keepB k4 R3.out)
  have S4 := hide (S3.out.below k4)
  have T4 := hide (T3.out.below k4)
  have U4 := hide (U3.out.below k4)
  clear k4 HK1 R3 B3 S3 T3 U3
  go_wp2_with (first | (refine wpList_load_rowG rfl 30 _ rfl G0 rfl 30 #[.string m, .int .u8 (A0 : Nat), .int .u8 (A1 : Nat), .int .u8 (A2 : Nat), .int .u8 (A3 : Nat), .string h, .int .i64 p, .string u, .slice xa xn xc] (0, 0) _ R4.out Tryz.underlying30 rfl info44 ?_))
  refine (HK2.out _ (S.out.below B4.out)).mono ?_
  rintro e w5 ⟨rfl, k5⟩
  have B5 := hide (B4.out.trans (k5.mono B4.out.size))
  have S5 := hide (S4.out.below k5)
  have T5 := hide (T4.out.below k5)
  have U5 := hide (U4.out.below k5)
  have HSF := hide (same_fields w5 x2 x3 LD c2 LD c3 ds T5.out U5.out)
  clear k5 HK2 R4 B4 S4 T4 U4
  go_wp2_with fail
  refine HSF.out.mono ?_
  rintro e w6 ⟨rfl, k6⟩
  have B6 := hide (B5.out.trans (k6.mono B5.out.size))
  have S6 := hide (S5.out.below k6)
  have HSG := hide (same_fields w6 xo a n co n c fs S6.out (H.out.below B6.out))
  clear k6 HSF B5 S5 T5 U5
  have z1 : ((E1 : Int) == (E1 : Int)) = true := by simp
  have z2 : ((E2 : Int) == (E2 : Int)) = true := by simp
  have z3 : (X1.toList == X1.toList) = true := by simp
  go_wp2_with fail
  refine HSG.out.mono ?_
  rintro e w7 ⟨rfl, k7⟩
  have B7 := hide (B6.out.trans (k7.mono B6.out.size))
  have HWK := hide (works_at w7 (HT.out.1.below B7.out))
  clear k7 HSG B6 S6
  go_wp2_with fail
  refine HWK.out.mono ?_
  rintro e w8 ⟨rfl, k8⟩
  have B8 := hide (B7.out.trans (k8.mono B7.out.size))
  clear k8 HWK B7
  go_wp2_with fail
  go_ret
  exact ⟨by first | rfl | simp, B8.out⟩
end Go.Proofs.YtffjhhacegnhmaaGreatDoor
