/-
  put of the reference; conditions as each theorem has them.
-/
import Derived.Test.YtelfikbahcckaaaDoorRP
set_option linter.unusedSimpArgs false
set_option linter.unusedVariables false
namespace Go.Proofs.YtelfikbahcckaaaDoor
open Go.RowKit
theorem own_mono5 {w : World} {B B' : Nat} {v : Value} {xs : List Value} (h : Own w B 5 v xs) (hB : B' ≤ B) : Own w B' 5 v xs := by
  refine ⟨h.1, ?_⟩
  rcases h.2 with h0 | ⟨x, cap, cur, hv, hx, hrest⟩
  · exact Or.inl h0
  · exact Or.inr ⟨x, cap, cur, hv, by omega, hrest⟩
theorem putQ_eq (id fl an : Nat) (n : List Nat) : num2 id ++ num2 fl ++ [0, 1] ++ num2 an ++ [0, 0, 0, 0] ++ (lbe (pcs n) ++ [0]) ++ [0, 1, 0, 1] = putQ id fl an n := by
  simp [putQ, nums2, num2]
theorem number_own (n : Nat) (w : World) (hn : n < 65536) : Calls Tryd.prog 57 #[.int .i64 (n : Nat)] w fun e w' => ∃ v, e = .returned v ∧ Own w' w.heap.size 5 v (nums .u8 (num2 n)) ∧ Below w.heap.size w w' := by
  refine (number_new n w hn).mono ?_
  rintro e w' ⟨rfl, rfl⟩
  exact ⟨_, rfl, own_newN w (num2 n) (by simp [num2]), (Below.refl _ _).alloc (Nat.le_refl _) _⟩
set_option maxRecDepth 100000 in
set_option maxHeartbeats 4000000 in
theorem rput_at (id fl an : Nat) (t : ByteArray) (w : World) (hid : id < 65536) (hfl : fl < 65536) (han : an < 65536) (ht : t.size ≤ 253) :
    Calls Tryd.prog 36 #[.agg #[.int .i64 (id : Nat), .string t], .int .i64 (fl : Nat), .int .i64 (an : Nat)] w fun e w' => ∃ v, e = .returned v ∧ Own w' w.heap.size 5 v (nums .u8 (putQ id fl an (byt t))) ∧ Below w.heap.size w w' := by
  obtain ⟨W1, hW1⟩ : ∃ W1, W1 = w.alloc (.cells #[.int .i64 (id : Nat), .string t] 40) := ⟨_, rfl⟩
  have b1 : Below w.heap.size w W1 := by rw [hW1]; exact (Below.refl _ _).alloc (Nat.le_refl _) _
  have T1 : Hid (Row W1 w.heap.size 40 [.int .i64 (id : Nat), .string t]) := by rw [hW1]; exact Row.new w _ 40
  have hs1 : W1.heap.size = w.heap.size + 1 := by rw [hW1]; simp
  have B1 := hide b1
  have HC1 := hide (number_own id W1 hid)
  have HW1 := hide hW1.symm
  obtain ⟨PQ, hPQ⟩ : ∃ PQ, PQ = putQ id fl an (byt t) := ⟨_, rfl⟩
  rw [← hPQ]
  have HPQ := hide hPQ
  have hll : (lbe (pcs (byt t)) ++ [0]).length = t.size + 2 := by rw [List.length_append, lbe_len _ (pcs_ne _), jn_pcs, byt_length]; rfl
  have hlb : ∀ x ∈ lbe (pcs (byt t)) ++ [0], x < 256 := fun x hx => by
    rcases List.mem_append.1 hx with h | h
    · refine lbe_lt (fun p hp => ?_) (pcs_lt (byt_lt t)) x h
      have := (pcs_len (byt t)).2 p hp
      rw [byt_length] at this; omega
    · simp at h; omega
  obtain ⟨LA, hLA⟩ : ∃ LA, LA = lbe (pcs (byt t)) ++ [0] := ⟨_, rfl⟩
  have HLA := hide hLA
  rw [← hLA] at hll hlb
  have HLB := hide hlb
  have HLL := hide hll
  clear hW1 b1 hPQ hLA hlb hll
  go_enter Tryd.func36, Tryd.ntmps36
  go_wp2_with fail
  rw [HW1.out]
  refine HC1.out.mono ?_
  rintro e w2 ⟨v2, rfl, o2, b2⟩
  obtain ⟨aa, ac, rfl, _⟩ := own_src o2 (num2_lt id)
  obtain ⟨L1, hL1⟩ : ∃ L, L = (num2 id).length := ⟨_, rfl⟩
  rw [← hL1]
  have O2 := hide o2
  have B2 := hide b2
  have HC2 := hide (number_own fl w2 hfl)
  have HL1 := hide hL1
  clear o2 b2 HC1 hL1
  go_wp2_with fail
  refine HC2.out.mono ?_
  rintro e w3 ⟨v3, rfl, o3, b3⟩
  obtain ⟨ba, bc, rfl, s3, _⟩ := own_src o3 (num2_lt fl)
  obtain ⟨v4, w4, ap4, o4, b4, u4⟩ := run_app (O2.out.below b3) s3 (by simp [num2]) (by have := B2.out.size; have := b3.size; omega)
  have hM4 : ∀ x ∈ num2 id ++ num2 fl, x < 256 := fun x hx => by rcases List.mem_append.1 hx with h | h; exact num2_lt _ x h; exact num2_lt _ x h
  obtain ⟨xa, xc, rfl, _⟩ := own_src o4 hM4
  have b14 : Below W1.heap.size W1 w4 := (B2.out.trans (b3.mono B2.out.size)).trans b4
  obtain ⟨v5, w5, ap5, o5, b5, u5⟩ := run_appN o4 [0, 1] (by simp) (by simp [num2]) b14.size
  have hM5 : ∀ x ∈ num2 id ++ num2 fl ++ [0, 1], x < 256 := fun x hx => by rcases List.mem_append.1 hx with h | h; exact hM4 x h; simp at h; omega
  obtain ⟨ya, yc, rfl, _⟩ := own_src o5 hM5
  have b15 : Below W1.heap.size W1 w5 := b14.trans b5
  obtain ⟨L2, hL2⟩ : ∃ L, L = (num2 fl).length := ⟨_, rfl⟩
  obtain ⟨L4, hL4⟩ : ∃ L, L = (num2 id ++ num2 fl).length := ⟨_, rfl⟩
  obtain ⟨L6, hL6⟩ : ∃ L, L = (num2 id ++ num2 fl ++ [0, 1]).length := ⟨_, rfl⟩
  rw [← hL2]
  have AP4 : Hid ((Builtin.append_ #[22, 22] 22 #[.slice aa L1 ac, .slice ba L2 bc]).run Tryd.prog w3 = .ok (.slice xa L4 xc) w4) := by rw [HL1.out, hL2, hL4]; exact ap4
  have AP5 : Hid ((Builtin.append_ #[22, 22] 22 #[.slice xa L4 xc, .slice (some ⟨w4.heap.size, 0, none⟩) 2 2]).run Tryd.prog (w4.alloc (.cells #[.int .u8 0, .int .u8 1] 5)) = .ok (.slice ya L6 yc) w5) := by rw [hL4, hL6]; exact ap5
  have HC3 := hide (number_own an w5 han)
  have O5 := hide o5
  have B15 := hide b15
  have HM5 := hide hM5
  have HL6 := hide hL6
  clear o3 b3 s3 ap4 o4 b4 u4 hM4 b14 ap5 o5 b5 u5 hM5 b15 HC2 O2 B2 hL2 hL4 hL6
  go_wp2_with (first
    | (refine wpList_app_run _ rfl _ _ 22 22 rfl (.slice aa L1 ac) (.slice ba L2 bc) rfl rfl AP4.out ?_)
    | (refine wpList_app_run _ rfl _ _ 22 22 rfl (.slice xa L4 xc) (.slice (some ⟨w4.heap.size, 0, none⟩) 2 2) rfl rfl AP5.out ?_))
  refine HC3.out.mono ?_
  rintro e w6 ⟨v6, rfl, o6, b6⟩
  obtain ⟨ca, cc, rfl, s6, _⟩ := own_src o6 (num2_lt an)
  obtain ⟨v7, w7, ap7, o7, b7, u7⟩ := run_app (O5.out.below b6) s6 (by simp [num2]) (by have := B15.out.size; have := b6.size; omega)
  have hM7 : ∀ x ∈ num2 id ++ num2 fl ++ [0, 1] ++ num2 an, x < 256 := fun x hx => by rcases List.mem_append.1 hx with h | h; exact HM5.out x h; exact num2_lt _ x h
  obtain ⟨za, zc, rfl, _⟩ := own_src o7 hM7
  have b17 : Below W1.heap.size W1 w7 := (B15.out.trans (b6.mono B15.out.size)).trans b7
  obtain ⟨v8, w8, ap8, o8, b8, u8⟩ := run_appN o7 [0, 0, 0, 0] (by simp) (by simp [num2]) b17.size
  have hM8 : ∀ x ∈ num2 id ++ num2 fl ++ [0, 1] ++ num2 an ++ [0, 0, 0, 0], x < 256 := fun x hx => by rcases List.mem_append.1 hx with h | h; exact hM7 x h; simp at h; omega
  obtain ⟨ta, tc, rfl, _⟩ := own_src o8 hM8
  have b18 : Below W1.heap.size W1 w8 := b17.trans b8
  obtain ⟨L3, hL3⟩ : ∃ L, L = (num2 an).length := ⟨_, rfl⟩
  obtain ⟨L8, hL8⟩ : ∃ L, L = (num2 id ++ num2 fl ++ [0, 1] ++ num2 an).length := ⟨_, rfl⟩
  obtain ⟨L12, hL12⟩ : ∃ L, L = (num2 id ++ num2 fl ++ [0, 1] ++ num2 an ++ [0, 0, 0, 0]).length := ⟨_, rfl⟩
  rw [← hL3]
  have AP7 : Hid ((Builtin.append_ #[22, 22] 22 #[.slice ya L6 yc, .slice ca L3 cc]).run Tryd.prog w6 = .ok (.slice za L8 zc) w7) := by rw [HL6.out, hL3, hL8]; exact ap7
  have AP8 : Hid ((Builtin.append_ #[22, 22] 22 #[.slice za L8 zc, .slice (some ⟨w7.heap.size, 0, none⟩) 4 4]).run Tryd.prog (w7.alloc (.cells #[.int .u8 0, .int .u8 0, .int .u8 0, .int .u8 0] 5)) = .ok (.slice ta L12 tc) w8) := by rw [hL8, hL12]; exact ap8
  have t8 := T1.out.below b18 (by omega)
  have c1 : w8.cell? ⟨w.heap.size, 1, none⟩ = some (.string t) := t8.cell 1
  have hl8 := t8.lt
  have HC4 := hide (labels_at t w8 ht)
  rw [← HLA.out] at HC4
  have O8 := hide o8
  have B18 := hide b18
  have HM8 := hide hM8
  have HL12 := hide hL12
  clear o6 b6 s6 ap7 o7 b7 u7 hM7 b17 ap8 o8 b8 u8 hM8 b18 HC3 O5 B15 HM5 AP4 AP5 t8 hL3 hL8 hL12
  go_wp2_with (first
    | (refine wpList_app_run _ rfl _ _ 22 22 rfl (.slice ya L6 yc) (.slice ca L3 cc) rfl rfl AP7.out ?_)
    | (refine wpList_app_run _ rfl _ _ 22 22 rfl (.slice za L8 zc) (.slice (some ⟨w7.heap.size, 0, none⟩) 4 4) rfl rfl AP8.out ?_))
  refine HC4.out.mono ?_
  rintro e w9 ⟨v9, rfl, o9, b9⟩
  obtain ⟨la, lc, rfl, s9, _⟩ := own_src o9 HLB.out
  obtain ⟨v10, w10, ap10, o10, b10, u10⟩ := run_app (O8.out.below b9) s9 (by rw [HLL.out]; simp [num2]; omega) (by have := B18.out.size; have := b9.size; omega)
  have hM10 : ∀ x ∈ num2 id ++ num2 fl ++ [0, 1] ++ num2 an ++ [0, 0, 0, 0] ++ LA, x < 256 := fun x hx => by rcases List.mem_append.1 hx with h | h; exact HM8.out x h; exact HLB.out x h
  obtain ⟨ma, mc, rfl, _⟩ := own_src o10 hM10
  have b110 : Below W1.heap.size W1 w10 := (B18.out.trans (b9.mono B18.out.size)).trans b10
  obtain ⟨v11, w11, ap11, o11, b11, u11⟩ := run_appN o10 [0, 1, 0, 1] (by simp) (by simp [num2, HLL.out]; omega) b110.size
  obtain ⟨LX, hLX⟩ : ∃ LX, LX = LA.length := ⟨_, rfl⟩
  obtain ⟨LY, hLY⟩ : ∃ LY, LY = (num2 id ++ num2 fl ++ [0, 1] ++ num2 an ++ [0, 0, 0, 0] ++ LA).length := ⟨_, rfl⟩
  have AP10 : Hid ((Builtin.append_ #[22, 22] 22 #[.slice ta L12 tc, .slice la LX lc]).run Tryd.prog w9 = .ok (.slice ma LY mc) w10) := by rw [hLX, hLY, HL12.out]; exact ap10
  have AP11 : Hid ((Builtin.append_ #[22, 22] 22 #[.slice ma LY mc, .slice (some ⟨w10.heap.size, 0, none⟩) 4 4]).run Tryd.prog (w10.alloc (.cells #[.int .u8 0, .int .u8 1, .int .u8 0, .int .u8 1] 5)) = .ok v11 w11) := by rw [hLY]; exact ap11
  rw [← hLX]
  have O11 : Hid (Own w11 w.heap.size 5 v11 (nums .u8 PQ)) := by
    rw [HLA.out, putQ_eq, ← HPQ.out] at o11
    exact own_mono5 o11 (by omega)
  have B11 : Hid (Below w.heap.size w w11) := B1.out.trans ((b110.trans b11).mono (by omega))
  clear o9 b9 s9 ap10 o10 b10 u10 hM10 b110 ap11 o11 b11 u11 hLX hLY HC4 AP7 AP8 O8 B18 HM8
  go_wp2_with (first
    | (refine wpList_app_run _ rfl _ _ 22 22 rfl (.slice ta L12 tc) (.slice la LX lc) rfl rfl AP10.out ?_)
    | (refine wpList_app_run _ rfl _ _ 22 22 rfl (.slice ma LY mc) (.slice (some ⟨w10.heap.size, 0, none⟩) 4 4) rfl rfl AP11.out ?_))
  go_ret
  exact ⟨_, rfl, O11.out, B11.out⟩
end Go.Proofs.YtelfikbahcckaaaDoor
