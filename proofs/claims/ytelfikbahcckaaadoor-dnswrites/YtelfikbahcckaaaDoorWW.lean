/-
  The walk of DnsWrites; conditions as each theorem has them.
-/
import Derived.Test.YtelfikbahcckaaaDoorRT
import Derived.Test.YtelfikbahcckaaaDoorWA
set_option linter.unusedSimpArgs false
set_option linter.unusedVariables false
namespace Go.Proofs.YtelfikbahcckaaaDoor
open Go.RowKit
set_option maxRecDepth 100000 in
set_option maxHeartbeats 8000000 in
theorem writes_walk (id : Int) (t : ByteArray) (cd : Int) (x : Option Addr) (n c : Nat) (l : List Ad) (tl : Int) (w : World) (hV : Vars w) (h : SrcA w x n c l) (ht : t.size ≤ 140737488351232) (hn4 : n * 4 ≤ 140737488351232) : Calls Tryd.prog 4 #[.agg #[.int .i64 id, .string t, .int .i64 cd, .slice x n c, .int .i64 tl]] w fun e w' => e = .returned (.bool true) ∧ Below w.heap.size w w' := by
  obtain ⟨W1, hW1⟩ : ∃ W1, W1 = w.alloc (.cells #[.int .i64 id, .string t, .int .i64 cd, .slice x n c, .int .i64 tl] 43) := ⟨_, rfl⟩
  have b1 : Below w.heap.size w W1 := by rw [hW1]; exact (Below.refl _ _).alloc (Nat.le_refl _) _
  have r1 : Row W1 w.heap.size 43 [.int .i64 id, .string t, .int .i64 cd, .slice x n c, .int .i64 tl] := by rw [hW1]; exact Row.new w _ 43
  have hs1 : W1.heap.size = w.heap.size + 1 := by rw [hW1]; simp
  have hmx : t.size ≤ maxLen := by unfold maxLen; omega
  have hn : n ≤ 140737488351232 := by omega
  have hln := h.hlen
  have T1 := hide r1
  have B1 := hide b1
  have V1 := hide (hV.below b1)
  have S1 := hide (h.below b1)
  have HC1 := hide (pputQuestion_at id t W1 hmx V1.out)
  obtain ⟨R1, hR1⟩ : ∃ R, R = putQr id (byt t) := ⟨_, rfl⟩
  obtain ⟨R2, hR2⟩ : ∃ R, R = putAr id (byt t) cd l tl := ⟨_, rfl⟩
  rw [← hR1] at HC1
  have HR1 := hide hR1
  have HR2 := hide hR2
  have c0 : W1.cell? ⟨w.heap.size, 0, none⟩ = some (.int .i64 id) := r1.cell 0
  have c1 : W1.cell? ⟨w.heap.size, 1, none⟩ = some (.string t) := r1.cell 1
  have HW1 := hide hW1.symm
  clear hV h hW1 b1 r1 hR1 hR2
  go_enter Tryd.func4, Tryd.ntmps4
  go_wp2_with (first | rw [HW1.out])
  try rw [HW1.out]
  refine HC1.out.mono ?_
  rintro e w2 ⟨a2, k2, rfl, s2, b2⟩
  have r2 := T1.out.below b2 (by omega)
  have d0 : w2.cell? ⟨w.heap.size, 0, none⟩ = some (.int .i64 id) := r2.cell 0
  have d1 : w2.cell? ⟨w.heap.size, 1, none⟩ = some (.string t) := r2.cell 1
  have hl2 := r2.lt
  have hs2 := b2.size
  have X2 := hide s2
  have T2 := hide r2
  have B2 := hide (B1.out.trans (b2.mono (by omega)))
  have V2 := hide (V1.out.below b2)
  have S2 := hide (S1.out.below b2)
  have HC2 := hide (rputQuestion_at id t w2 hmx)
  rw [← HR1.out] at HC2
  obtain ⟨P1, hP1⟩ : ∃ P, P = R1.1.length := ⟨_, rfl⟩
  obtain ⟨P2, hP2⟩ : ∃ P, P = R1.2 := ⟨_, rfl⟩
  rw [← hP1] at X2
  rw [← hP1, ← hP2]
  have HP1 := hide hP1
  have HP2 := hide hP2
  clear s2 b2 r2 HC1 hP1 hP2 T1 V1 S1 B1 c0 c1
  go_wp2_with fail
  refine HC2.out.mono ?_
  rintro e w3 ⟨a3, k3, rfl, s3, b3⟩
  rw [← HP1.out, ← HP2.out]
  rw [← HP1.out] at s3
  obtain ⟨W4, hW4⟩ : ∃ W4, W4 = w3.alloc (.cells #[] 75) := ⟨_, rfl⟩
  have b4 : Below w3.heap.size w3 W4 := by rw [hW4]; exact (Below.refl _ _).alloc (Nat.le_refl _) _
  have b24 : Below w2.heap.size w2 W4 := b3.trans (b4.mono b3.size)
  have hs3 := b3.size
  have hs4 := b4.size
  obtain ⟨v5, w5, ap5, o5, b5⟩ := run_appS (w := W4) (B := w3.heap.size) (v := .slice (some ⟨w3.heap.size, 0, none⟩) 0 0) (l := []) (by rw [hW4]; exact own_new75 w3) (S2.out.below b24) (by simp; omega) hs4
  rw [List.nil_append] at o5
  obtain ⟨ya, yc, rfl, ys, _⟩ := o5.src S2.out.byte
  rw [hln] at ys
  have b45 : Below w3.heap.size W4 w5 := b5
  have b25 : Below w2.heap.size w2 w5 := b24.trans (b5.mono hs3)
  have b35 : Below w3.heap.size w3 w5 := b4.trans b5
  have AP5 : Hid ((Builtin.append_ #[41, 41] 41 #[.slice (some ⟨w3.heap.size, 0, none⟩) 0 0, .slice x n c]).run Tryd.prog (w3.alloc (.cells #[] 75)) = .ok (.slice ya n yc) w5) := by rw [← hW4, ← hln]; rw [← hln] at ap5; exact ap5
  have r3 := T2.out.below b3 (by omega)
  have f3 : w3.cell? ⟨w.heap.size, 3, none⟩ = some (.slice x n c) := r3.cell 3
  have hl3 := r3.lt
  have r5 := T2.out.below b25 (by omega)
  have g0 : w5.cell? ⟨w.heap.size, 0, none⟩ = some (.int .i64 id) := r5.cell 0
  have g1 : w5.cell? ⟨w.heap.size, 1, none⟩ = some (.string t) := r5.cell 1
  have g2 : w5.cell? ⟨w.heap.size, 2, none⟩ = some (.int .i64 cd) := r5.cell 2
  have g3 : w5.cell? ⟨w.heap.size, 3, none⟩ = some (.slice x n c) := r5.cell 3
  have g4 : w5.cell? ⟨w.heap.size, 4, none⟩ = some (.int .i64 tl) := r5.cell 4
  have hl5 := r5.lt
  have hs5 := b25.size
  have T5 := hide r5
  have X5 := hide (X2.out.below b25)
  have Y5 := hide (s3.below b35)
  have O5 := hide ys
  have V5 := hide (V2.out.below b25)
  have S5 := hide (S2.out.below b25)
  have B5 := hide (B2.out.trans (b25.mono (by omega)))
  have HC3 := hide (putAnswer_at id t cd ya n yc l tl w5 hmx V5.out hn ys)
  rw [← HR2.out] at HC3
  clear s3 b3 hW4 b4 b24 ap5 o5 b5 ys b45 b25 b35 r3 r5 HC2 T2 X2 V2 S2 B2 d0 d1
  go_wp2_with (first
    | (refine wpList_app_run _ rfl _ _ 41 41 rfl (.slice (some ⟨w3.heap.size, 0, none⟩) 0 0) (.slice x n c) rfl rfl AP5.out ?_))
  refine HC3.out.mono ?_
  rintro e w6 ⟨a6, k6, rfl, s6, b6⟩
  have r6 := T5.out.below b6 (by omega)
  have i0 : w6.cell? ⟨w.heap.size, 0, none⟩ = some (.int .i64 id) := r6.cell 0
  have i1 : w6.cell? ⟨w.heap.size, 1, none⟩ = some (.string t) := r6.cell 1
  have i2 : w6.cell? ⟨w.heap.size, 2, none⟩ = some (.int .i64 cd) := r6.cell 2
  have i3 : w6.cell? ⟨w.heap.size, 3, none⟩ = some (.slice x n c) := r6.cell 3
  have i4 : w6.cell? ⟨w.heap.size, 4, none⟩ = some (.int .i64 tl) := r6.cell 4
  have hl6 := r6.lt
  have hs6 := b6.size
  have T6 := hide r6
  have X6 := hide (X5.out.below b6)
  have Y6 := hide (Y5.out.below b6)
  have Z6 := hide s6
  have O6 := hide (O5.out.below b6)
  have V6 := hide (V5.out.below b6)
  have S6 := hide (S5.out.below b6)
  have B6 := hide (B5.out.trans (b6.mono (by omega)))
  have HC4 := hide (rputAnswer_at id t cd x n c l tl w6 hmx hn S6.out)
  rw [← HR2.out] at HC4
  obtain ⟨P3, hP3⟩ : ∃ P, P = R2.1.length := ⟨_, rfl⟩
  obtain ⟨P4, hP4⟩ : ∃ P, P = R2.2 := ⟨_, rfl⟩
  rw [← hP3] at Z6
  rw [← hP3, ← hP4]
  have HP3 := hide hP3
  have HP4 := hide hP4
  clear s6 b6 r6 hP3 hP4 T5 X5 Y5 O5 V5 S5 B5 g0 g1 g2 g3 g4 f3 HC3 AP5
  go_wp2_with fail
  refine HC4.out.mono ?_
  rintro e w7 ⟨a7, k7, rfl, s7, b7⟩
  rw [← HP3.out, ← HP4.out]
  rw [← HP3.out] at s7
  have r7 := T6.out.below b7 (by omega)
  have j3 : w7.cell? ⟨w.heap.size, 3, none⟩ = some (.slice x n c) := r7.cell 3
  have hl7 := r7.lt
  have B7 := hide (B6.out.trans (b7.mono (by omega)))
  have HS1 := hide (same_bytes w7 a2 a3 P1 k2 P1 k3 R1.1 (X6.out.below b7) (Y6.out.below b7))
  have HS2 := hide (same_bytes w7 a6 a7 P3 k6 P3 k7 R2.1 (Z6.out.below b7) s7)
  have HS3 := hide (same_addrs w7 ya x n yc n c l (O6.out.below b7) (S6.out.below b7))
  have V7 := hide (V6.out.below b7)
  have q1 : ((P2 : Int) == (P2 : Int)) = true := by simp
  have q2 : ((P4 : Int) == (P4 : Int)) = true := by simp
  clear s7 b7 r7 T6 X6 Y6 Z6 O6 V6 S6 B6 i0 i1 i2 i3 i4 HC4
  go_wp2_with fail
  refine HS1.out.mono ?_
  rintro e w8 ⟨rfl, rfl⟩
  go_wp2_with fail
  refine HS2.out.mono ?_
  rintro e w9 ⟨rfl, rfl⟩
  go_wp2_with fail
  refine HS3.out.mono ?_
  rintro e w10 ⟨rfl, b10⟩
  have B10 := hide (B7.out.trans (b10.mono B7.out.size))
  have HWK := hide (works_at w10 (V7.out.below b10))
  clear b10 HS1 HS2 HS3
  go_wp2_with fail
  refine HWK.out.mono ?_
  rintro e w11 ⟨rfl, b11⟩
  have B11 := hide (B10.out.trans (b11.mono B10.out.size))
  clear b11 HWK
  go_wp2_with fail
  go_ret
  exact ⟨rfl, B11.out⟩
end Go.Proofs.YtelfikbahcckaaaDoor
