/-
  The reference's Greeting; conditions as each theorem has them.
-/
import Derived.Test.YtefgjmijbedbkaaDoorRB
set_option linter.unusedSimpArgs false
set_option linter.unusedVariables false
namespace Go.Proofs.YtefgjmijbedbkaaDoor
open Go.RowKit

attribute [local go_sem ↓] run_op33 run_opst33 Go.wp_at_zero Go.wp_at_succ
attribute [local go_sem] rowOf_drew isRow_drew arrAt_ptr isAt_ptr putAt_ptr canPut_drew setRow_drew
theorem own_srcI {w : World} {B : Nat} {v : Value} {l : List Nat} (h : Own w B 3 v (ints l)) : ∃ a cap, v = .slice a l.length cap ∧ SrcI w a l.length cap (up l) ∧ (∀ b o, a = some ⟨b, o, none⟩ → B ≤ b) := by
  have hl := ints_length l
  rcases h.2 with ⟨rfl, h0⟩ | ⟨g, cap, cur, rfl, hg, hh, hc, hm, hs, ht⟩
  · rw [hl] at h0
    obtain rfl : l = [] := List.eq_nil_of_length_eq_zero h0
    exact ⟨none, 0, rfl, SrcI.nilS w, fun b o e => by cases e⟩
  · rw [hl] at hc ht ⊢
    refine ⟨some ⟨g, 0, none⟩, cap, rfl, ⟨up_length l, hc, hm, fun e => (by cases e), fun _ => ⟨g, 0, rfl, lt_of_some hh, fun i hi => ?_⟩⟩, fun b o e => by simp at e; omega⟩
    rw [Nat.mul_one] at ht
    have e1 : cur[i]? = (ints l)[i]? := by rw [← ht, List.getElem?_take, if_pos hi]; simp
    rw [Nat.zero_add]
    simp only [World.cell?, hh]
    rw [e1, up_getD]
    exact ints_get l i hi
set_option maxRecDepth 100000 in
set_option maxHeartbeats 4000000 in
theorem rgreeting_at (x : Option Addr) (n c : Nat) (b : List Nat) (w : World) (h : Src w x n c b) : Calls Tryd.prog 10 #[.slice x n c] w fun e w' => ∃ x' y', e = .returned (.tuple #[.slice x' (greet b).1.length y', .int .i64 ((greet b).2.1 : Nat), badF (greet b).2.2]) ∧ SrcI w' x' (greet b).1.length y' (up (greet b).1) ∧ Below w.heap.size w w' := by
  have HBY := hide h.byte
  obtain ⟨W0, hW0⟩ : ∃ W0, W0 = w.alloc (.cells (badC .ok) 33) := ⟨_, rfl⟩
  have b0 : Below w.heap.size w W0 := by rw [hW0]; exact (Below.refl _ _).alloc (Nat.le_refl _) _
  have r0 : W0.heap[w.heap.size]? = some (.cells (badC .ok) 33) := by rw [hW0]; exact alloc_new _ _
  have HW0 : Hid (w.alloc (.cells #[.int .i64 0, .string ⟨#[]⟩, .string ⟨#[]⟩, .string ⟨#[]⟩, .string ⟨#[]⟩, .int .i64 0, .int .i64 0, .int .i64 0, .int .i64 0, .int .i64 0] 33) = W0) := hW0.symm
  have B0 := hide b0
  have R0 := hide r0
  have S0 := hide (h.below b0)
  have SO : Hid (0 < n → ∀ i o, x = some ⟨i, o, none⟩ → ∀ g, w.heap.size < g → i ≠ g) := fun h0 i o e g hg => by have := h.lt h0 e; omega
  clear h hW0 b0 r0
  obtain ⟨er, her⟩ : ∃ er, er = ver b 5 := ⟨_, rfl⟩
  have HER := hide her
  have HV := hide (rversion_at x n c b 5 W0 S0.out (by omega))
  rw [← her] at HV
  clear her
  go_enter Tryd.func10, Tryd.ntmps10
  go_wp2_with fail
  rw [HW0.out]
  refine HV.out.mono ?_
  rintro e w1 ⟨rfl, hb1⟩
  rw [badF_badG]
  obtain ⟨W1, hW1⟩ : ∃ W, W = (w1.alloc (.cells (badC .ok) 33)).setRow w1.heap.size (badG er) := ⟨_, rfl⟩
  have z1 : (w1.alloc (.cells (badC .ok) 33)).heap[w1.heap.size]? = some (.cells (badC .ok) 33) := alloc_new _ _
  have L1 := Loc.new (w := w1) er
  rw [← hW1] at L1
  have b1 : Below w1.heap.size w1 W1 := by rw [hW1]; exact below_setRow ((Below.refl _ _).alloc (Nat.le_refl _) _) (Nat.le_refl _) _
  have cN1 := L1.n
  have b12 : Below W0.heap.size W0 W1 := hb1.trans (b1.mono hb1.size)
  have B1 := hide (B0.out.trans (b12.mono B0.out.size))
  have S1 := hide (S0.out.below b12)
  have R1 := hide (keepB b12 R0.out)
  have LR1 := hide L1.row
  have Z1 := hide z1
  have HW1 := hide hW1
  have hsw1 : w.heap.size < w1.heap.size := Nat.lt_of_lt_of_le (lt_of_some R0.out) hb1.size
  clear L1 b1 b12 hb1 z1 hW1
  by_cases hok1 : er = .ok
  · subst hok1
    have cN : W1.cell? ⟨w1.heap.size, 0, none⟩ = some (.int .i64 0) := cN1
    clear cN1
    have HT := hide (rtext_at x n c b 1 255 W1 S1.out (by omega) (by omega))
    obtain ⟨l1, k1, e1, hE1⟩ : ∃ l k e, txt b 1 255 = (l, k, e) := ⟨_, _, _, rfl⟩
    have hk1 : k1 ≤ 257 := by have := (txt_le b 1 255 (by omega) HBY.out).1; rw [hE1] at this; exact this
    have hl1 : l1.length ≤ 255 := by have := (txt_le b 1 255 (by omega) HBY.out).2; rw [hE1] at this; exact this
    have HB1 : Hid (∀ z ∈ l1, z < 256) := by
      have : ∀ z ∈ (txt b 1 255).1, z < 256 := fun z hz => by
        by_cases h : (txt b 1 255).2.2 = .ok
        · obtain ⟨_, _, _, _, e⟩ := txt_ok h
          rw [e] at hz
          exact HBY.out z (List.mem_of_mem_drop (List.mem_of_mem_take hz))
        · rw [txt_bad h] at hz; simp at hz
      rw [hE1] at this; exact this
    rw [txtV_out b 1 255 hE1] at HT
    have HE1 := hide hE1
    clear hE1
    go_wp2_with (first | (refine wpList_store_rowW rfl 33 _ _ rfl w1.heap.size (badG .ok) rfl rfl 33 (badC .ok) Z1.out (badGI _) (by simp [badC_size, badG_size]) (badG_one _) W1 HW1.out ?_))
    refine HT.out.mono ?_
    rintro e w3 ⟨rfl, hb3⟩
    obtain ⟨W3, hW3⟩ : ∃ W, W = (w3.alloc (.cells (badC .ok) 33)).setRow w3.heap.size (badG e1) := ⟨_, rfl⟩
    have z3 : (w3.alloc (.cells (badC .ok) 33)).heap[w3.heap.size]? = some (.cells (badC .ok) 33) := alloc_new _ _
    have L3 := Loc.new (w := w3) e1
    rw [← hW3] at L3
    have b3 : Below w3.heap.size w3 W3 := by rw [hW3]; exact below_setRow ((Below.refl _ _).alloc (Nat.le_refl _) _) (Nat.le_refl _) _
    have cN3 := L3.n
    have b32 : Below W1.heap.size W1 W3 := hb3.trans (b3.mono hb3.size)
    have B3 := hide (B1.out.trans (b32.mono B1.out.size))
    have S3 := hide (S1.out.below b32)
    have R3 := hide (keepB b32 R1.out)
    have LR3 := hide L3.row
    have Z3 := hide z3
    have HW3 := hide hW3
    have hsw3 : w.heap.size < w3.heap.size := Nat.lt_of_lt_of_le (lt_of_some R1.out) hb3.size
    clear L3 b3 b32 hb3 z3 hW3
    by_cases hok3 : e1 = .ok
    · subst hok3
      have HS : Hid (greet b = (l1, k1, .ok)) := by show _ = _; unfold greet; rw [if_pos HER.out.symm, HE1.out]
      have cN : W3.cell? ⟨w3.heap.size, 0, none⟩ = some (.int .i64 0) := cN3
      clear cN3
      obtain ⟨L, hL⟩ : ∃ L, L = l1.length := ⟨_, rfl⟩
      have hLI : ((strN l1).size : Int) = (L : Int) := by rw [strN_size, hL]
      have HLs : Hid (L = (strN l1).size) := by show _ = _; rw [strN_size, hL]
      have HIX : Hid (∀ i, i < L → ∀ w, (Instr.index 9 (.string (strN l1)) (.int .i64 (i : Nat))).run Tryd.prog w = .ok (.int .u8 (l1.getD i 0 : Nat)) w) := fun i hi w => by
        have := run_ixstr (strN l1) i (by rw [← HLs.out]; exact hi) w
        rwa [byt_strN _ HB1.out] at this
      have hL255 : L ≤ 255 := by omega
      have HL := hide hL
      rw [← hL] at hl1
      obtain ⟨WL, hWL⟩ : ∃ WL, WL = W3.alloc (.cells #[] 3) := ⟨_, rfl⟩
      have HI : Hid (Own WL W3.heap.size 3 (.slice (some ⟨W3.heap.size, 0, none⟩) 0 0) (ints (l1.take 0)) ∧ Below W3.heap.size W3 WL) := by
        rw [hWL]
        exact ⟨⟨rfl, Or.inr ⟨W3.heap.size, 0, #[], rfl, Nat.le_refl _, alloc_new _ _, by simp [ints_length], Nat.zero_le _, by simp, by simp [ints]⟩⟩, (Below.refl _ _).alloc (Nat.le_refl _) _⟩
      have HWL := hide hWL.symm
      clear hL hWL
      go_wp2_with (first | (refine wpList_store_rowW rfl 33 _ _ rfl w3.heap.size (badG .ok) rfl rfl 33 (badC .ok) Z3.out (badGI _) (by simp [badC_size, badG_size]) (badG_one _) W3 HW3.out ?_))
      rw [HWL.out]
      clear cN
      go_loopw [9, 10] (fun o i wr => ∃ k : Nat, k ≤ L ∧ i = .int .i64 k ∧ Hid (Own wr W3.heap.size 3 o (ints (l1.take k)) ∧ Below W3.heap.size W3 wr)) (fun _ i _ => L - (intOf i).toNat)
      case atStart => exact ⟨0, by omega, rfl, HI.out⟩
      case round =>
        obtain ⟨k, hk, rfl, HJ⟩ := hrel
        obtain ⟨i1, i3⟩ := HJ.out
        by_cases hkL : k < L
        · have hdk : decide ((k : Int) < (L : Int)) = true := decide_eq_true (by omega)
          have hx := HIX.out k hkL
          have hcb := getD_lt HB1.out k
          have htk := take_snoc l1 k (by rw [← HL.out]; exact hkL)
          obtain ⟨z, hz⟩ : ∃ z, z = l1.getD k 0 := ⟨_, rfl⟩
          rw [← hz] at hx hcb htk
          obtain ⟨a2, w2', hap2, ow2, bw2, kw2⟩ := own_app 24 3 (.int .i64 0) 8 Tryd.underlying24 inf3 rfl (i1.below ((Below.refl _ _).alloc (Nat.le_refl _) (.cells #[.int .i64 (z : Nat)] 3))) ⟨wr.heap.size, 0, none⟩ 1 1 [.int .i64 (z : Nat)] rfl
            (fun j u hu => by
              have hj := (List.getElem?_eq_some_iff.1 hu).1
              simp at hj
              subst hj
              rw [add_none]
              simp at hu
              rw [← hu]; simp) (by simp [Value.oneCell']) (by rw [ints_length, List.length_take]; omega) (by rw [ints_length, List.length_take]; omega) (by simp; have := i3.size; omega)
          have io2 : Own w2' W3.heap.size 3 a2 (ints (l1.take (k + 1))) := by
            rw [htk]
            simpa [ints] using ow2
          have ib2 : Below W3.heap.size W3 w2' := (i3.alloc i3.size _).trans bw2
          have HAP2 := hide hap2
          have HO2 := hide io2
          have HB2 := hide ib2
          clear i1 i3 hap2 io2 ib2 ow2 bw2 kw2 htk hz HJ
          go_wp2_with (first
            | (refine wpList_app_run _ rfl _ _ 24 24 rfl _ _ rfl rfl HAP2.out ?_))
          go_roundw
          case rel => exact ⟨k + 1, by omega, by go_num, HO2.out, HB2.out⟩
          case measure => simp [intOf]; omega
        · have hdk : decide ((k : Int) < (L : Int)) = false := decide_eq_false (by omega)
          rw [List.take_of_length_le (by rw [← HL.out]; omega)] at i1
          obtain ⟨xa, ca, hv, si, sb⟩ := own_srcI i1
          have hw3 : w.heap.size < W3.heap.size := lt_of_some R3.out
          have rr : wr.heap[w.heap.size]? = some (.cells (badC .ok) 33) := keepB i3 R3.out
          obtain ⟨W7, hW7⟩ : ∃ W7, W7 = wr.setRow w.heap.size (badC .ok) := ⟨_, rfl⟩
          have R7 : Hid (W7.heap[w.heap.size]? = some (.cells (badC .ok) 33)) := by rw [hW7]; exact setRow_heap _ _ _ _ _ rr
          have B7 : Hid (Below w.heap.size w W7) := by rw [hW7]; exact below_setRow (B3.out.trans (i3.mono B3.out.size)) (Nat.le_refl _) _
          have S7 : Hid (SrcI W7 xa l1.length ca (up l1)) := by
            rw [hW7]
            exact si.keep (fun h0 i o ei => setRow_ne _ _ _ _ (by have := sb i o ei; omega)) (by simp [World.setRow])
          have HW7 := hide hW7
          have RR := hide rr
          clear hW7 rr i1 i3 si sb HJ
          subst hv
          go_wp2_with (first | (refine wpList_store_rowW rfl 33 _ _ rfl w.heap.size (badC .ok) rfl rfl 33 (badC .ok) RR.out info33 rfl (badC_one _) W7 HW7.out ?_))
          refine bodyPost_ret (res_ttc rfl _ _ w.heap.size 33 (badC .ok) (0, 0) _ rfl R7.out Tryd.underlying33 rfl info33) rfl ⟨xa, ca, ?_, ?_, B7.out⟩
          · rw [HS.out]; rfl
          · rw [HS.out]; exact S7.out
    · have HS : Hid (greet b = ([], 0, e1)) := by show _ = _; unfold greet; rw [if_pos HER.out.symm]; have := txt_bad (b := b) (a := 1) (m := 255) (by rw [HE1.out]; exact hok3); rw [this, HE1.out]
      have hpos := erN_pos hok3
      have hle := erN_le e1
      have g1 : decide (0 < (erN e1 : Int)) = true := decide_eq_true (by omega)
      have g1' : decide (0 < erN e1) = true := decide_eq_true hpos
      generalize erN e1 = N at cN3 hpos hle g1 g1'
      go_wp2_with (first | (refine wpList_store_rowW rfl 33 _ _ rfl w3.heap.size (badG e1) rfl rfl 33 (badC .ok) Z3.out (badGI _) (by simp [badC_size, badG_size]) (badG_one _) W3 HW3.out ?_))
      have i3 : isRow W3 w3.heap.size 10 = true := isRow_of LR3.out (badG_size _)
      have j3 : rowOf W3 w3.heap.size = badG e1 := rowOf_of LR3.out
      have cp : canPut 10 33 W3 (.pointer (some ⟨w.heap.size, 0, none⟩)) (.agg (badG e1)) = true := canPut_row R3.out (badC_size _) (badG_size _) (badG_one _)
      obtain ⟨W9, hW9⟩ : ∃ W9, W3.setRow w.heap.size (badG e1) = W9 := ⟨_, rfl⟩
      have R9 : Hid (W9.heap[w.heap.size]? = some (.cells (badG e1) 33)) := by rw [← hW9]; exact setRow_heap _ _ _ _ _ R3.out
      have B9 : Hid (Below w.heap.size w W9) := by rw [← hW9]; exact below_setRow B3.out (Nat.le_refl _) _
      go_region
      all_goals (try go_wp2_with fail)
      all_goals (refine bodyPost_ret (res_ttc rfl _ _ w.heap.size 33 (badG e1) (0, 0) _ rfl R9.out Tryd.underlying33 rfl (badGI _)) rfl ⟨none, 0, ?_, ?_, B9.out.drew⟩)
      all_goals rw [HS.out]
      · rw [badF_badG]; rfl
      · exact SrcI.nilS _
  · have HS : Hid (greet b = ([], 0, er)) := by show _ = _; unfold greet; rw [if_neg (by rw [← HER.out]; exact hok1), ← HER.out]
    have hpos := erN_pos hok1
    have hle := erN_le er
    have g1 : decide (0 < (erN er : Int)) = true := decide_eq_true (by omega)
    have g1' : decide (0 < erN er) = true := decide_eq_true hpos
    generalize erN er = N at cN1 hpos hle g1 g1'
    go_wp2_with (first | (refine wpList_store_rowW rfl 33 _ _ rfl w1.heap.size (badG er) rfl rfl 33 (badC .ok) Z1.out (badGI _) (by simp [badC_size, badG_size]) (badG_one _) W1 HW1.out ?_))
    have i3 : isRow W1 w1.heap.size 10 = true := isRow_of LR1.out (badG_size _)
    have j3 : rowOf W1 w1.heap.size = badG er := rowOf_of LR1.out
    have cp : canPut 10 33 W1 (.pointer (some ⟨w.heap.size, 0, none⟩)) (.agg (badG er)) = true := canPut_row R1.out (badC_size _) (badG_size _) (badG_one _)
    obtain ⟨W9, hW9⟩ : ∃ W9, W1.setRow w.heap.size (badG er) = W9 := ⟨_, rfl⟩
    have R9 : Hid (W9.heap[w.heap.size]? = some (.cells (badG er) 33)) := by rw [← hW9]; exact setRow_heap _ _ _ _ _ R1.out
    have B9 : Hid (Below w.heap.size w W9) := by rw [← hW9]; exact below_setRow B1.out (Nat.le_refl _) _
    go_region
    all_goals (try go_wp2_with fail)
    all_goals (refine bodyPost_ret (res_ttc rfl _ _ w.heap.size 33 (badG er) (0, 0) _ rfl R9.out Tryd.underlying33 rfl (badGI _)) rfl ⟨none, 0, ?_, ?_, B9.out.drew⟩)
    all_goals rw [HS.out]
    · rw [badF_badG]; rfl
    · exact SrcI.nilS _
end Go.Proofs.YtefgjmijbedbkaaDoor
