/-
  ProxyComes' walk: however a head is cut, what is said, wanted and sent on is the same; conditions as each theorem has them.
-/
import Derived.Test.YtccoddmdlbdfjaaGreatDoorED
import Derived.Test.YtccoddmdlbdfjaaGreatDoorEB
set_option linter.unusedSimpArgs false
set_option linter.unusedVariables false
set_option linter.constructorNameAsVariable false
set_option maxRecDepth 100000
namespace Go.Proofs.YtccoddmdlbdfjaaGreatDoor
open Go.RowKit

set_option maxHeartbeats 8000000 in
theorem comes_walk (a : Option Addr) (n c : Nat) (b : List Nat) (a2 : Option Addr) (n2 c2 : Nat) (f : Nat → Int) (w : World) (hE : E0 w) (h : Src w a n c b) (hn : n ≤ 140737488351232) (h2 : IsInts w a2 n2 c2 f) (hn2 : n2 ≤ 140737488351232) : Calls Tryz.prog 4 #[.slice a n c, .slice a2 n2 c2] w fun e w' => e = .returned (.bool true) ∧ Below w.heap.size w w' := by
  have HW := hide (works_at w hE)
  have S0 := hide h
  have HE := hide hE
  obtain ⟨hic, him, hI⟩ := h2
  have HI := hide hI
  have hcap := h.hcap
  have hmx := h.hmax
  have HL := hide h.hlen
  have hN0 : (addC Cn.new b).2 ≤ n := by rw [← h.hlen]; exact addC_le b
  have HOK0 := hide (Good.new'.add b).ok
  unfold maxLen at hmx him
  clear h hI hE
  go_enter Tryz.func4, Tryz.ntmps4
  go_wp2_with fail
  refine HW.out.mono ?_
  rintro e w1 ⟨rfl, k1⟩
  have K1 := hide k1
  have HN := hide (new_at (w1.heap.size + 1) w1)
  clear k1 HW
  go_wp2_with fail
  refine HN.out.mono ?_
  rintro e w2 ⟨rfl, p2, k2, z2⟩
  have HN2 := hide (new_at w1.heap.size w2)
  rw [z2] at HN2
  have P2 := hide p2
  have K2 := hide (K1.out.trans (k2.mono K1.out.size))
  have Z2 := hide z2
  clear p2 k2 z2 HN
  go_wp2_with fail
  refine HN2.out.mono ?_
  rintro e w3 ⟨rfl, q3, k3, z3⟩
  have hlo : w.heap.size ≤ w1.heap.size := K1.out.size
  have k3' : Below w2.heap.size w2 w3 := by rw [Z2.out]; exact k3
  have T3 : Hid (Two w w3 w1.heap.size (w1.heap.size + 1) Cn.new Cn.new) :=
    ⟨P2.out.below k3', q3, HE.out.env (K2.out.trans (k3'.mono K2.out.size)) hlo, hlo, rfl, by omega⟩
  obtain ⟨b1, hb1⟩ : ∃ b1, b1 = w1.heap.size := ⟨_, rfl⟩
  rw [← hb1] at T3 ⊢
  have HA := hide (add_at w b1 (b1 + 1) Cn.new a n c b w3 T3.out.p (S0.out.below T3.out.e.be) T3.out.e (fun _ => rfl) T3.out.lt)
  obtain ⟨C, hC⟩ : ∃ C, C = (addC Cn.new b).1 := ⟨_, rfl⟩
  obtain ⟨N, hN⟩ : ∃ N, N = (addC Cn.new b).2 := ⟨_, rfl⟩
  rw [← hC, ← hN] at HA
  rw [← hN] at hN0
  rw [← hC] at HOK0
  have HC := hide hC
  have HNN := hide hN
  clear q3 k3 k3' z3 P2 K2 Z2 HN2 hb1 hlo K1 hC hN
  go_wp2_with fail
  refine HA.out.mono ?_
  rintro e w4 ⟨rfl, p4, k4⟩
  have T4 := hide (T3.out.one k4 p4)
  clear p4 k4 HA T3
  go_wp2_with fail
  go_loopw [8, 9, 10] (fun at_ m_ i_ wr => ∃ (k m i : Nat) (D : Cn), at_ = .int .i64 k ∧ m_ = .int .i64 m ∧ i_ = .int .i64 i ∧ k ≤ n ∧ m ≤ n ∧ i ≤ n2 + 1 ∧ Hid (Cut b n2 i m D) ∧ Hid (Two w wr b1 (b1 + 1) C D)) (fun _ _ i _ => n2 + 1 - (intOf i).toNat)
  case atStart => exact ⟨0, 0, 0, Cn.new, rfl, rfl, rfl, Nat.zero_le _, Nat.zero_le _, Nat.zero_le _, Cut.start b n2, T4⟩
  case round =>
    clear T4
    obtain ⟨k, m, i, D, rfl, rfl, rfl, hk, hm, hi, HCT, HT⟩ := hrel
    by_cases hm0 : m = 0
    · by_cases hile : i ≤ n2
      · subst hm0
        obtain rfl := HCT.out.zero
        have q1 : decide ((i : Int) ≤ (n2 : Int)) = true := decide_eq_true (by omega)
        by_cases hilt : i < n2
        · have q2 : decide ((i : Int) < (n2 : Int)) = true := decide_eq_true (by omega)
          obtain ⟨cb, co, rfl, hcb, hcell⟩ := HI.out (by omega)
          obtain ⟨hc1, hlo, hhi⟩ := hcell i hilt
          have hc2 : wr.cell? ⟨cb, co + i, none⟩ = some (.int .i64 (f i)) := (HT.out.e.be.cell (p := ⟨cb, co + i, none⟩) hcb).trans hc1
          generalize f i = z at *
          obtain ⟨k', hk'⟩ : ∃ k' : Nat, k' = ((k : Int) + max 0 (min z ((n : Int) - k))).toNat := ⟨_, rfl⟩
          have hkk : (k : Int) + max 0 (min z ((n : Int) - k)) = (k' : Int) := by omega
          have hkn : k' ≤ n := by omega
          clear hcell HI hc1
          have SS : Src wr a n c b := S0.out.below HT.out.e.be
          have s3 := SS.part hkn
          have HA := hide (add_at w (b1 + 1) b1 Cn.new a k' c (b.take k') wr HT.out.q s3 HT.out.env (fun _ => rfl) (by have := HT.out.lt; omega))
          have HCS := hide (Cut.step b n2 i k' (fun h => by have := HL.out; omega))
          have hle : (addC Cn.new (b.take k')).2 ≤ n := by have := addC_le (b.take k'); rw [List.length_take] at this; omega
          obtain ⟨D, hD⟩ : ∃ C, C = (addC Cn.new (b.take k')).1 := ⟨_, rfl⟩
          obtain ⟨M, hM⟩ : ∃ N, N = (addC Cn.new (b.take k')).2 := ⟨_, rfl⟩
          rw [← hD, ← hM] at HA
          rw [← hD, ← hM] at HCS
          rw [← hM] at hle
          clear SS s3 hD hM HCT
          have HKK := hide hkk
          clear hkk
          go_wp2_with fail
          rw [← hk']
          clear hk'
          refine HA.out.mono ?_
          rintro e w5 ⟨rfl, p5, k5⟩
          have T5 := hide (HT.out.two k5 p5)
          clear p5 k5 HA HT
          go_wp2_with fail
          go_roundw
          case rel => exact ⟨k', M, i + 1, D, congrArg (Value.int .i64) HKK.out, rfl, by go_num, hkn, hle, by omega, HCS, T5⟩
          case measure => simp [intOf] <;> omega
        · obtain rfl : i = n2 := by omega
          have q2 : decide ((i : Int) < (i : Int)) = false := decide_eq_false (by omega)
          have hkn : n ≤ n := by omega
          have SS : Src wr a n c b := S0.out.below HT.out.e.be
          have s3 := SS.part hkn
          have HA := hide (add_at w (b1 + 1) b1 Cn.new a n c (b.take n) wr HT.out.q s3 HT.out.env (fun _ => rfl) (by have := HT.out.lt; omega))
          have HCS := hide (Cut.step b i i n (fun h => by have := HL.out; omega))
          have hle : (addC Cn.new (b.take n)).2 ≤ n := by have := addC_le (b.take n); rw [List.length_take] at this; omega
          obtain ⟨D, hD⟩ : ∃ C, C = (addC Cn.new (b.take n)).1 := ⟨_, rfl⟩
          obtain ⟨M, hM⟩ : ∃ N, N = (addC Cn.new (b.take n)).2 := ⟨_, rfl⟩
          rw [← hD, ← hM] at HA
          rw [← hD, ← hM] at HCS
          rw [← hM] at hle
          clear SS s3 hD hM HCT
          go_wp2_with fail
          refine HA.out.mono ?_
          rintro e w5 ⟨rfl, p5, k5⟩
          have T5 := hide (HT.out.two k5 p5)
          clear p5 k5 HA HT
          go_wp2_with fail
          go_roundw
          case rel => exact ⟨n, M, i + 1, D, rfl, rfl, by go_num, hkn, hle, by omega, HCS, T5⟩
          case measure => simp [intOf] <;> omega
      · have q1 : decide ((i : Int) ≤ (n2 : Int)) = false := decide_eq_false (by omega)
        have q0 : ((m : Int) == 0) = true := by simp; omega
        have HD := hide (HCT.out.done hi (Or.inr (by omega)))
        obtain rfl : D = C := by rw [HC.out]; exact HD.out.1
        have hmN : m ≤ N := by rw [HNN.out]; exact HD.out.2.1
        have HST : Hid (D.st = 5 ∨ m = N) := by rw [HNN.out]; show _; have := HD.out.2.2; rw [← HC.out] at this; exact this
        have HWN := hide (wants_at b1 (b1 + 1) D wr HT.out.p HOK0.out)
        obtain ⟨fs, hfs⟩ : ∃ fs, fs = (wantsC D).2 := ⟨_, rfl⟩
        rw [← hfs] at HWN
        obtain ⟨L, hL⟩ : ∃ L, L = fs.length := ⟨_, rfl⟩
        rw [← hL] at HWN
        have HFS := hide hfs
        have HLF := hide hL
        clear hfs hL HD HCT
        go_wp2_with fail
        refine HWN.out.mono ?_
        rintro e w5 ⟨r, ra, rc, rfl, hr, sf5, k5⟩
        have T5 := hide (HT.out.below k5)
        have HR := hide hr
        obtain ⟨qm, x0, x1, x2, x3, qs, qp, qt⟩ := r
        unfold Rc.arr
        obtain ⟨G1, hG1⟩ : ∃ G, G = w5.heap.size := ⟨_, rfl⟩
        obtain ⟨W6, hW6⟩ : ∃ W, W = w5.alloc (.cells #[.string qm, .int .u8 (x0 : Nat), .int .u8 (x1 : Nat), .int .u8 (x2 : Nat), .int .u8 (x3 : Nat), .string qs, .int .i64 (qp : Nat), .string qt, .slice ra L rc] 34) := ⟨_, rfl⟩
        have b6 : Below w5.heap.size w5 W6 := by rw [hW6]; exact (Below.refl _ _).alloc (Nat.le_refl _) _
        have g6 : W6.heap[G1]? = some (.cells #[.string qm, .int .u8 (x0 : Nat), .int .u8 (x1 : Nat), .int .u8 (x2 : Nat), .int .u8 (x3 : Nat), .string qs, .int .i64 (qp : Nat), .string qt, .slice ra L rc] 34) := by rw [hW6, hG1]; exact alloc_new _ _
        have G6 := hide g6
        have HG1 := hide hG1.symm
        have HW6 : Hid (w5.alloc (.cells #[.string qm, .int .u8 (x0 : Nat), .int .u8 (x1 : Nat), .int .u8 (x2 : Nat), .int .u8 (x3 : Nat), .string qs, .int .i64 (qp : Nat), .string qt, .slice ra L rc] 34) = W6) := hW6.symm
        have T6 := hide (T5.out.below b6)
        have SF6 := hide (sf5.below b6)
        have HWN2 := hide (wants_at (b1 + 1) b1 D W6 T6.out.q HOK0.out)
        rw [← HFS.out, ← HLF.out] at HWN2
        clear hr sf5 k5 hW6 b6 g6 hG1 HWN HT T5
        go_wp2_with (first | rw [HW6.out, HG1.out])
        try rw [HW6.out, HG1.out]
        try go_wp2_with fail
        refine HWN2.out.mono ?_
        rintro e w7 ⟨r, rb, rd, rfl, hr, sf7, k7⟩
        obtain rfl := Rc.inj hr HR.out
        unfold Rc.arr
        have T7 := hide (T6.out.below k7)
        obtain ⟨G2, hG2⟩ : ∃ G, G = w7.heap.size := ⟨_, rfl⟩
        obtain ⟨W8, hW8⟩ : ∃ W, W = w7.alloc (.cells #[.string qm, .int .u8 (x0 : Nat), .int .u8 (x1 : Nat), .int .u8 (x2 : Nat), .int .u8 (x3 : Nat), .string qs, .int .i64 (qp : Nat), .string qt, .slice rb L rd] 34) := ⟨_, rfl⟩
        have b8 : Below w7.heap.size w7 W8 := by rw [hW8]; exact (Below.refl _ _).alloc (Nat.le_refl _) _
        have g8 : W8.heap[G2]? = some (.cells #[.string qm, .int .u8 (x0 : Nat), .int .u8 (x1 : Nat), .int .u8 (x2 : Nat), .int .u8 (x3 : Nat), .string qs, .int .i64 (qp : Nat), .string qt, .slice rb L rd] 34) := by rw [hW8, hG2]; exact alloc_new _ _
        have b68 : Below W6.heap.size W6 W8 := k7.trans (b8.mono k7.size)
        have GR2 := hide g8
        have GR1 := hide (keepB b68 G6.out)
        have HG2 := hide hG2.symm
        have HW8 : Hid (w7.alloc (.cells #[.string qm, .int .u8 (x0 : Nat), .int .u8 (x1 : Nat), .int .u8 (x2 : Nat), .int .u8 (x3 : Nat), .string qs, .int .i64 (qp : Nat), .string qt, .slice rb L rd] 34) = W8) := hW8.symm
        have T8 := hide (T7.out.below b8)
        have SFa := hide (SF6.out.below b68)
        have SFb := hide (sf7.below b8)
        have HS1 := hide (state_at b1 (b1 + 1) D W8 T8.out.p)
        have HS2 := hide (state_at (b1 + 1) b1 D W8 T8.out.q)
        obtain ⟨st, hst⟩ : ∃ st, st = D.st := ⟨_, rfl⟩
        rw [← hst] at HS1 HS2 HST
        clear hr sf7 k7 hW8 b8 g8 b68 hG2 HWN2 T6 T7 SF6 G6 hst HR
        go_wp2_with (first | rw [HW8.out, HG2.out])
        try rw [HW8.out, HG2.out]
        try go_wp2_with fail
        refine HS1.out.mono ?_
        rintro e w9 ⟨rfl, rfl⟩
        by_cases h5 : st = 5
        · have q5 : ((st : Int) == 5) = true := by simp; omega
          have q6 : decide ((m : Int) ≤ (N : Int)) = true := decide_eq_true (by omega)
          have HO1 := hide (out_at w b1 (b1 + 1) D W8 T8.out.p T8.out.e)
          clear HS1 HST
          go_wp2_with fail
          refine HS2.out.mono ?_
          rintro e w9 ⟨rfl, rfl⟩
          go_wp2_with fail
          refine HO1.out.mono ?_
          rintro e w9 ⟨oa, od, rfl, s9, p9, k9⟩
          have T9 := hide (T8.out.one k9 p9)
          have HO2 := hide (out_at w (b1 + 1) b1 D w9 T9.out.q T9.out.env)
          have S9 := hide s9
          clear s9 p9 k9 HO1 T8 HS2
          go_wp2_with fail
          refine HO2.out.mono ?_
          rintro e w10 ⟨oc, oe, rfl, s10, p10, k10⟩
          have HSB := hide (same_bytes w10 oa oc _ od _ oe _ (S9.out.past T9.out.q (own_five _) k10) s10)
          have T10 := hide (T9.out.two k10 p10)
          clear s10 p10 k10 HO2 T9 S9
          go_wp2_with fail
          refine HSB.out.mono ?_
          rintro e w11 ⟨rfl, rfl⟩
          go_wp2_with fail
          go_ret
          exact ⟨rfl, T10.out.e.be⟩
        · have q5 : ((st : Int) == 5) = false := by simp; omega
          obtain rfl : m = N := by rcases HST.out with h | h; exact absurd h h5; exact h
          have q6 : ((m : Int) == (m : Int)) = true := by simp
          have q7 : ((st : Int) == (st : Int)) = true := by simp
          obtain ⟨A, hA⟩ : ∃ A, A = asks D := ⟨_, rfl⟩
          rw [← hA]
          have q8 : (A == A) = true := by simp
          have HSR := hide (same_request W8 qm x0 x1 x2 x3 qs qp qt ra rb L rc L rd fs SFa.out SFb.out)
          clear HST hA
          go_wp2_with fail
          refine HS1.out.mono ?_
          rintro e w9 ⟨rfl, rfl⟩
          go_wp2_with fail
          refine HS2.out.mono ?_
          rintro e w9 ⟨rfl, rfl⟩
          go_wp2_with (first
            | (refine wpList_load_rowG rfl 34 _ rfl G1 rfl 34 #[.string qm, .int .u8 (x0 : Nat), .int .u8 (x1 : Nat), .int .u8 (x2 : Nat), .int .u8 (x3 : Nat), .string qs, .int .i64 (qp : Nat), .string qt, .slice ra L rc] (0, 0) _ GR1.out Tryz.underlying34 rfl info44 ?_)
            | (refine wpList_load_rowG rfl 34 _ rfl G2 rfl 34 #[.string qm, .int .u8 (x0 : Nat), .int .u8 (x1 : Nat), .int .u8 (x2 : Nat), .int .u8 (x3 : Nat), .string qs, .int .i64 (qp : Nat), .string qt, .slice rb L rd] (0, 0) _ GR2.out Tryz.underlying34 rfl info44 ?_))
          refine HSR.out.mono ?_
          rintro e w9 ⟨rfl, k9⟩
          have T9 := hide (T8.out.below k9)
          have HD1 := hide (sends_at w b1 (b1 + 1) D w9 T9.out.p HOK0.out T9.out.e)
          clear k9 T8 HS1 HS2 HSR SFa SFb GR1 GR2
          go_wp2_with fail
          refine HD1.out.mono ?_
          rintro e w10 ⟨da, dd, rfl, s10, k10⟩
          have T10 := hide (T9.out.below k10)
          have HD2 := hide (sends_at w (b1 + 1) b1 D w10 T10.out.q HOK0.out T10.out.env)
          have S10 := hide s10
          clear s10 k10 HD1 T9
          go_wp2_with fail
          refine HD2.out.mono ?_
          rintro e w11 ⟨de, df, rfl, s11, k11⟩
          have T11 := hide (T10.out.below k11)
          have HSB := hide (same_bytes w11 da de _ dd _ df _ (S10.out.below k11) s11)
          clear s11 k11 HD2 T10 S10
          go_wp2_with fail
          refine HSB.out.mono ?_
          rintro e w12 ⟨rfl, rfl⟩
          have HO1 := hide (out_at w b1 (b1 + 1) D w11 T11.out.p T11.out.e)
          clear HSB
          go_wp2_with fail
          refine HO1.out.mono ?_
          rintro e w12 ⟨oa, od, rfl, s12, p12, k12⟩
          have T12 := hide (T11.out.one k12 p12)
          have HO2 := hide (out_at w (b1 + 1) b1 D w12 T12.out.q T12.out.env)
          have S12 := hide s12
          clear s12 p12 k12 HO1 T11
          go_wp2_with fail
          refine HO2.out.mono ?_
          rintro e w13 ⟨oc, oe, rfl, s13, p13, k13⟩
          have HSB2 := hide (same_bytes w13 oa oc _ od _ oe _ (S12.out.past T12.out.q (own_five _) k13) s13)
          have T13 := hide (T12.out.two k13 p13)
          clear s13 p13 k13 HO2 T12 S12
          go_wp2_with fail
          refine HSB2.out.mono ?_
          rintro e w14 ⟨rfl, rfl⟩
          go_wp2_with fail
          go_ret
          exact ⟨rfl, T13.out.e.be⟩
    · have q0 : ((m : Int) == 0) = false := by simp; omega
      have HD := hide (HCT.out.done hi (Or.inl hm0))
      obtain rfl : D = C := by rw [HC.out]; exact HD.out.1
      have hmN : m ≤ N := by rw [HNN.out]; exact HD.out.2.1
      have HST : Hid (D.st = 5 ∨ m = N) := by rw [HNN.out]; show _; have := HD.out.2.2; rw [← HC.out] at this; exact this
      have HWN := hide (wants_at b1 (b1 + 1) D wr HT.out.p HOK0.out)
      obtain ⟨fs, hfs⟩ : ∃ fs, fs = (wantsC D).2 := ⟨_, rfl⟩
      rw [← hfs] at HWN
      obtain ⟨L, hL⟩ : ∃ L, L = fs.length := ⟨_, rfl⟩
      rw [← hL] at HWN
      have HFS := hide hfs
      have HLF := hide hL
      clear hfs hL HD HCT
      go_wp2_with fail
      refine HWN.out.mono ?_
      rintro e w5 ⟨r, ra, rc, rfl, hr, sf5, k5⟩
      have T5 := hide (HT.out.below k5)
      have HR := hide hr
      obtain ⟨qm, x0, x1, x2, x3, qs, qp, qt⟩ := r
      unfold Rc.arr
      obtain ⟨G1, hG1⟩ : ∃ G, G = w5.heap.size := ⟨_, rfl⟩
      obtain ⟨W6, hW6⟩ : ∃ W, W = w5.alloc (.cells #[.string qm, .int .u8 (x0 : Nat), .int .u8 (x1 : Nat), .int .u8 (x2 : Nat), .int .u8 (x3 : Nat), .string qs, .int .i64 (qp : Nat), .string qt, .slice ra L rc] 34) := ⟨_, rfl⟩
      have b6 : Below w5.heap.size w5 W6 := by rw [hW6]; exact (Below.refl _ _).alloc (Nat.le_refl _) _
      have g6 : W6.heap[G1]? = some (.cells #[.string qm, .int .u8 (x0 : Nat), .int .u8 (x1 : Nat), .int .u8 (x2 : Nat), .int .u8 (x3 : Nat), .string qs, .int .i64 (qp : Nat), .string qt, .slice ra L rc] 34) := by rw [hW6, hG1]; exact alloc_new _ _
      have G6 := hide g6
      have HG1 := hide hG1.symm
      have HW6 : Hid (w5.alloc (.cells #[.string qm, .int .u8 (x0 : Nat), .int .u8 (x1 : Nat), .int .u8 (x2 : Nat), .int .u8 (x3 : Nat), .string qs, .int .i64 (qp : Nat), .string qt, .slice ra L rc] 34) = W6) := hW6.symm
      have T6 := hide (T5.out.below b6)
      have SF6 := hide (sf5.below b6)
      have HWN2 := hide (wants_at (b1 + 1) b1 D W6 T6.out.q HOK0.out)
      rw [← HFS.out, ← HLF.out] at HWN2
      clear hr sf5 k5 hW6 b6 g6 hG1 HWN HT T5
      go_wp2_with (first | rw [HW6.out, HG1.out])
      try rw [HW6.out, HG1.out]
      try go_wp2_with fail
      refine HWN2.out.mono ?_
      rintro e w7 ⟨r, rb, rd, rfl, hr, sf7, k7⟩
      obtain rfl := Rc.inj hr HR.out
      unfold Rc.arr
      have T7 := hide (T6.out.below k7)
      obtain ⟨G2, hG2⟩ : ∃ G, G = w7.heap.size := ⟨_, rfl⟩
      obtain ⟨W8, hW8⟩ : ∃ W, W = w7.alloc (.cells #[.string qm, .int .u8 (x0 : Nat), .int .u8 (x1 : Nat), .int .u8 (x2 : Nat), .int .u8 (x3 : Nat), .string qs, .int .i64 (qp : Nat), .string qt, .slice rb L rd] 34) := ⟨_, rfl⟩
      have b8 : Below w7.heap.size w7 W8 := by rw [hW8]; exact (Below.refl _ _).alloc (Nat.le_refl _) _
      have g8 : W8.heap[G2]? = some (.cells #[.string qm, .int .u8 (x0 : Nat), .int .u8 (x1 : Nat), .int .u8 (x2 : Nat), .int .u8 (x3 : Nat), .string qs, .int .i64 (qp : Nat), .string qt, .slice rb L rd] 34) := by rw [hW8, hG2]; exact alloc_new _ _
      have b68 : Below W6.heap.size W6 W8 := k7.trans (b8.mono k7.size)
      have GR2 := hide g8
      have GR1 := hide (keepB b68 G6.out)
      have HG2 := hide hG2.symm
      have HW8 : Hid (w7.alloc (.cells #[.string qm, .int .u8 (x0 : Nat), .int .u8 (x1 : Nat), .int .u8 (x2 : Nat), .int .u8 (x3 : Nat), .string qs, .int .i64 (qp : Nat), .string qt, .slice rb L rd] 34) = W8) := hW8.symm
      have T8 := hide (T7.out.below b8)
      have SFa := hide (SF6.out.below b68)
      have SFb := hide (sf7.below b8)
      have HS1 := hide (state_at b1 (b1 + 1) D W8 T8.out.p)
      have HS2 := hide (state_at (b1 + 1) b1 D W8 T8.out.q)
      obtain ⟨st, hst⟩ : ∃ st, st = D.st := ⟨_, rfl⟩
      rw [← hst] at HS1 HS2 HST
      clear hr sf7 k7 hW8 b8 g8 b68 hG2 HWN2 T6 T7 SF6 G6 hst HR
      go_wp2_with (first | rw [HW8.out, HG2.out])
      try rw [HW8.out, HG2.out]
      try go_wp2_with fail
      refine HS1.out.mono ?_
      rintro e w9 ⟨rfl, rfl⟩
      by_cases h5 : st = 5
      · have q5 : ((st : Int) == 5) = true := by simp; omega
        have q6 : decide ((m : Int) ≤ (N : Int)) = true := decide_eq_true (by omega)
        have HO1 := hide (out_at w b1 (b1 + 1) D W8 T8.out.p T8.out.e)
        clear HS1 HST
        go_wp2_with fail
        refine HS2.out.mono ?_
        rintro e w9 ⟨rfl, rfl⟩
        go_wp2_with fail
        refine HO1.out.mono ?_
        rintro e w9 ⟨oa, od, rfl, s9, p9, k9⟩
        have T9 := hide (T8.out.one k9 p9)
        have HO2 := hide (out_at w (b1 + 1) b1 D w9 T9.out.q T9.out.env)
        have S9 := hide s9
        clear s9 p9 k9 HO1 T8 HS2
        go_wp2_with fail
        refine HO2.out.mono ?_
        rintro e w10 ⟨oc, oe, rfl, s10, p10, k10⟩
        have HSB := hide (same_bytes w10 oa oc _ od _ oe _ (S9.out.past T9.out.q (own_five _) k10) s10)
        have T10 := hide (T9.out.two k10 p10)
        clear s10 p10 k10 HO2 T9 S9
        go_wp2_with fail
        refine HSB.out.mono ?_
        rintro e w11 ⟨rfl, rfl⟩
        go_wp2_with fail
        go_ret
        exact ⟨rfl, T10.out.e.be⟩
      · have q5 : ((st : Int) == 5) = false := by simp; omega
        obtain rfl : m = N := by rcases HST.out with h | h; exact absurd h h5; exact h
        have q6 : ((m : Int) == (m : Int)) = true := by simp
        have q7 : ((st : Int) == (st : Int)) = true := by simp
        obtain ⟨A, hA⟩ : ∃ A, A = asks D := ⟨_, rfl⟩
        rw [← hA]
        have q8 : (A == A) = true := by simp
        have HSR := hide (same_request W8 qm x0 x1 x2 x3 qs qp qt ra rb L rc L rd fs SFa.out SFb.out)
        clear HST hA
        go_wp2_with fail
        refine HS1.out.mono ?_
        rintro e w9 ⟨rfl, rfl⟩
        go_wp2_with fail
        refine HS2.out.mono ?_
        rintro e w9 ⟨rfl, rfl⟩
        go_wp2_with (first
          | (refine wpList_load_rowG rfl 34 _ rfl G1 rfl 34 #[.string qm, .int .u8 (x0 : Nat), .int .u8 (x1 : Nat), .int .u8 (x2 : Nat), .int .u8 (x3 : Nat), .string qs, .int .i64 (qp : Nat), .string qt, .slice ra L rc] (0, 0) _ GR1.out Tryz.underlying34 rfl info44 ?_)
          | (refine wpList_load_rowG rfl 34 _ rfl G2 rfl 34 #[.string qm, .int .u8 (x0 : Nat), .int .u8 (x1 : Nat), .int .u8 (x2 : Nat), .int .u8 (x3 : Nat), .string qs, .int .i64 (qp : Nat), .string qt, .slice rb L rd] (0, 0) _ GR2.out Tryz.underlying34 rfl info44 ?_))
        refine HSR.out.mono ?_
        rintro e w9 ⟨rfl, k9⟩
        have T9 := hide (T8.out.below k9)
        have HD1 := hide (sends_at w b1 (b1 + 1) D w9 T9.out.p HOK0.out T9.out.e)
        clear k9 T8 HS1 HS2 HSR SFa SFb GR1 GR2
        go_wp2_with fail
        refine HD1.out.mono ?_
        rintro e w10 ⟨da, dd, rfl, s10, k10⟩
        have T10 := hide (T9.out.below k10)
        have HD2 := hide (sends_at w (b1 + 1) b1 D w10 T10.out.q HOK0.out T10.out.env)
        have S10 := hide s10
        clear s10 k10 HD1 T9
        go_wp2_with fail
        refine HD2.out.mono ?_
        rintro e w11 ⟨de, df, rfl, s11, k11⟩
        have T11 := hide (T10.out.below k11)
        have HSB := hide (same_bytes w11 da de _ dd _ df _ (S10.out.below k11) s11)
        clear s11 k11 HD2 T10 S10
        go_wp2_with fail
        refine HSB.out.mono ?_
        rintro e w12 ⟨rfl, rfl⟩
        have HO1 := hide (out_at w b1 (b1 + 1) D w11 T11.out.p T11.out.e)
        clear HSB
        go_wp2_with fail
        refine HO1.out.mono ?_
        rintro e w12 ⟨oa, od, rfl, s12, p12, k12⟩
        have T12 := hide (T11.out.one k12 p12)
        have HO2 := hide (out_at w (b1 + 1) b1 D w12 T12.out.q T12.out.env)
        have S12 := hide s12
        clear s12 p12 k12 HO1 T11
        go_wp2_with fail
        refine HO2.out.mono ?_
        rintro e w13 ⟨oc, oe, rfl, s13, p13, k13⟩
        have HSB2 := hide (same_bytes w13 oa oc _ od _ oe _ (S12.out.past T12.out.q (own_five _) k13) s13)
        have T13 := hide (T12.out.two k13 p13)
        clear s13 p13 k13 HO2 T12 S12
        go_wp2_with fail
        refine HSB2.out.mono ?_
        rintro e w14 ⟨rfl, rfl⟩
        go_wp2_with fail
        go_ret
        exact ⟨rfl, T13.out.e.be⟩
end Go.Proofs.YtccoddmdlbdfjaaGreatDoor
