/-
  The walk of DnsBehind; conditions as each theorem has them.
-/
import Derived.Test.YtelfikbahcckaabDoorMJ
import Derived.Test.YtelfikbahcckaabDoorSA
import Derived.Test.YtelfikbahcckaabDoorWK
set_option linter.unusedSimpArgs false
set_option linter.unusedVariables false
namespace Go.Proofs.YtelfikbahcckaabDoor
open Go.RowKit
theorem ans_ad_ok {b : List Nat} (hb : ∀ x ∈ b, x < 256) : okA (ans b).1.ad := by
  unfold ans
  split
  · show okA (aL b).2.2.1
    unfold aL
    split
    · exact rloop_byte hb _ _ (by intro a ha; simp at ha)
    · intro a ha; simp at ha
  · intro a ha; simp [An.none] at ha
set_option maxRecDepth 100000 in
set_option maxHeartbeats 8000000 in
theorem behind_walk (a : Option Addr) (n c : Nat) (b : List Nat) (a2 : Option Addr) (m c2 : Nat) (mo : List Nat) (w : World) (hV : Vars w) (h : Src w a n c b) (hn : n ≤ 140737488351232) (h2 : Src w a2 m c2 mo) (hm : m ≤ 140737488351232) : Calls Tryd.prog 3 #[.slice a n c, .slice a2 m c2] w fun e w' => e = .returned (.bool true) ∧ Below w.heap.size w w' := by
  have HWK := hide (works_at w hV)
  have V0 := hide hV
  have S0 := hide h
  have M0 := hide h2
  clear hV h h2
  go_enter Tryd.func3, Tryd.ntmps3
  go_wp2_with fail
  refine HWK.out.mono ?_
  rintro e w1 ⟨rfl, b1⟩
  have B1 := hide b1
  have V1 := hide (V0.out.below b1)
  have S1 := hide (S0.out.below b1)
  have M1 := hide (M0.out.below b1)
  have HA := hide (answer_at a n c b w1 S1.out V1.out hn)
  clear b1 HWK
  go_wp2_with fail
  refine HA.out.mono ?_
  rintro e w2 ⟨v2, er, rfl, o2, i2, b2⟩
  obtain ⟨xa, xc, rfl, xs, _⟩ := o2.src (ans_ad_ok S0.out.byte)
  obtain ⟨K, hK⟩ : ∃ K, K = (ans b).1.ad.length := ⟨_, rfl⟩
  obtain ⟨I, hI⟩ : ∃ I, I = (ans b).1.id := ⟨_, rfl⟩
  obtain ⟨C, hC⟩ : ∃ C, C = (ans b).1.cd := ⟨_, rfl⟩
  obtain ⟨T, hT⟩ : ∃ T, T = (ans b).1.tl := ⟨_, rfl⟩
  obtain ⟨QN, hQN⟩ : ∃ Q, Q = strN (ans b).1.nm := ⟨_, rfl⟩
  rw [← hK] at xs
  rw [← hK, ← hI, ← hC, ← hT, ← hQN]
  have HK := hide hK
  have HI := hide hI
  have HC := hide hC
  have HT := hide hT
  have HQN := hide hQN
  clear hK hI hC hT hQN
  obtain ⟨W3, hW3⟩ : ∃ W3, W3 = w2.alloc (.cells #[.int .i64 (I : Nat), .string QN, .int .i64 (C : Nat), .slice xa K xc, .int .i64 (T : Nat)] 28) := ⟨_, rfl⟩
  have b3 : Below w2.heap.size w2 W3 := by rw [hW3]; exact (Below.refl _ _).alloc (Nat.le_refl _) _
  have b13 : Below w1.heap.size w1 W3 := b2.trans (b3.mono b2.size)
  have X3 : Hid (Row W3 w2.heap.size 28 [.int .i64 (I : Nat), .string QN, .int .i64 (C : Nat), .slice xa K xc, .int .i64 (T : Nat)]) := by rw [hW3]; exact Row.new w2 _ 28
  have XS3 := hide (xs.below b3)
  have hs2 := b2.size
  have hs3 := b3.size
  have B3 := hide (B1.out.trans (b13.mono (by have := B1.out.size; omega)))
  have V3 := hide (V1.out.below b13)
  have S3 := hide (S1.out.below b13)
  have M3 := hide (M1.out.below b13)
  have HW3 := hide hW3.symm
  have hlb := S0.out.hlen
  have hlm := M0.out.hlen
  clear xs o2 b2 b3 b13 hW3 HA V1 S1 M1 B1
  by_cases hok : (ans b).2 = .ok
  · obtain rfl := i2.nil hok
    clear i2
    by_cases hbig : 512 < n + m
    · have d1 : decide (512 < (n : Int) + (m : Int)) = true := decide_eq_true (by omega)
      go_wp2_with (first | rw [HW3.out])
      go_ret
      exact ⟨rfl, B3.out⟩
    · have d1 : decide (512 < (n : Int) + (m : Int)) = false := decide_eq_false (by omega)
      have HBY := hide (bytes_at a n c b W3 S3.out (by omega))
      have HAP := hide (ans_app mo hok (by rw [List.length_append]; omega))
      go_wp2_with (first | rw [HW3.out])
      refine HBY.out.mono ?_
      rintro e w4 ⟨v4, rfl, o4, b4⟩
      obtain ⟨v5, w5, ap5, o5, b5, u5⟩ := run_app o4 (M3.out.below b4) (by rw [hlb]; omega) b4.size
      obtain ⟨ya, yc, rfl, ys, _⟩ := own_src o4 S0.out.byte
      have hbb : ∀ x ∈ b ++ mo, x < 256 := fun x hx => by rcases List.mem_append.1 hx with h | h; exact S0.out.byte x h; exact M0.out.byte x h
      obtain ⟨za, zc, rfl, zs, _⟩ := own_src o5 hbb
      have b35 : Below W3.heap.size W3 w5 := b4.trans b5
      have V5 := hide (V3.out.below b35)
      have X5 := hide (X3.out.below b35 X3.out.lt)
      have XS5 := hide (XS3.out.below b35)
      have B5 := hide (B3.out.trans (b35.mono B3.out.size))
      have hs5 := b35.size
      have hlx := X3.out.lt
      have AP5 := hide ap5
      have HA := hide (answer_at za _ zc (b ++ mo) w5 zs V5.out (by rw [List.length_append]; omega))
      rw [HAP.out] at HA
      obtain ⟨LL, hLL⟩ : ∃ LL, LL = (b ++ mo).length := ⟨_, rfl⟩
      obtain ⟨LB, hLB⟩ : ∃ LB, LB = b.length := ⟨_, rfl⟩
      rw [← hLL] at AP5 HA
      rw [← hLB] at AP5 ⊢
      clear ap5 o4 o5 b4 b5 u5 ys zs b35 hLL hLB HBY
      go_wp2_with (first
        | (refine wpList_app_run _ rfl _ _ 22 22 rfl (.slice ya LB yc) (.slice a2 m c2) rfl rfl AP5.out ?_))
      refine HA.out.mono ?_
      rintro e w6 ⟨v6, er6, rfl, o6, i6, b6⟩
      obtain rfl := i6.nil hok
      obtain ⟨ta, tc, rfl, ts, _⟩ := o6.src (ans_ad_ok S0.out.byte)
      rw [← HK.out] at ts
      rw [← HK.out, ← HI.out, ← HC.out, ← HT.out, ← HQN.out]
      obtain ⟨W7, hW7⟩ : ∃ W7, W7 = w6.alloc (.cells #[.int .i64 (I : Nat), .string QN, .int .i64 (C : Nat), .slice ta K tc, .int .i64 (T : Nat)] 28) := ⟨_, rfl⟩
      have b7 : Below w6.heap.size w6 W7 := by rw [hW7]; exact (Below.refl _ _).alloc (Nat.le_refl _) _
      have b57 : Below w5.heap.size w5 W7 := b6.trans (b7.mono b6.size)
      have y7 : Row W7 w6.heap.size 28 [.int .i64 (I : Nat), .string QN, .int .i64 (C : Nat), .slice ta K tc, .int .i64 (T : Nat)] := by rw [hW7]; exact Row.new w6 _ 28
      have x7 := X5.out.below b57 X5.out.lt
      have B7 := hide (B5.out.trans (b57.mono B5.out.size))
      have HSA := hide (same_answer W7 (I : Int) QN (C : Int) (T : Int) ta xa K tc K xc (ans b).1.ad (ts.below b7) (XS5.out.below b57))
      have e0 : W7.cell? ⟨w6.heap.size, 0, none⟩ = some (.int .i64 (I : Nat)) := y7.cell 0
      have e1 : W7.cell? ⟨w6.heap.size, 1, none⟩ = some (.string QN) := y7.cell 1
      have e2 : W7.cell? ⟨w6.heap.size, 2, none⟩ = some (.int .i64 (C : Nat)) := y7.cell 2
      have e3 : W7.cell? ⟨w6.heap.size, 3, none⟩ = some (.slice ta K tc) := y7.cell 3
      have e4 : W7.cell? ⟨w6.heap.size, 4, none⟩ = some (.int .i64 (T : Nat)) := y7.cell 4
      have f0 : W7.cell? ⟨w2.heap.size, 0, none⟩ = some (.int .i64 (I : Nat)) := x7.cell 0
      have f1 : W7.cell? ⟨w2.heap.size, 1, none⟩ = some (.string QN) := x7.cell 1
      have f2 : W7.cell? ⟨w2.heap.size, 2, none⟩ = some (.int .i64 (C : Nat)) := x7.cell 2
      have f3 : W7.cell? ⟨w2.heap.size, 3, none⟩ = some (.slice xa K xc) := x7.cell 3
      have f4 : W7.cell? ⟨w2.heap.size, 4, none⟩ = some (.int .i64 (T : Nat)) := x7.cell 4
      have hl7 := y7.lt
      have hl8 := x7.lt
      have HW7 := hide hW7.symm
      clear ts o6 i6 b6 b7 b57 y7 x7 hW7 HA
      go_wp2_with (first | rw [HW7.out])
      refine HSA.out.mono ?_
      rintro e w8 ⟨rfl, b8⟩
      have B8 := hide (B7.out.trans (b8.mono B7.out.size))
      clear b8 HSA
      go_wp2_with fail
      go_ret
      exact ⟨rfl, B8.out⟩
  · obtain ⟨eb, rfl⟩ := i2.ptr hok
    clear i2
    go_wp2_with (first | rw [HW3.out])
    go_ret
    exact ⟨rfl, B3.out⟩
end Go.Proofs.YtelfikbahcckaabDoor
