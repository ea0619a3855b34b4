/-
  DnsNames' walk; conditions as each theorem has them.
-/
import Derived.Test.YtelfikbahcckaaaDoorRN
import Derived.Test.YtelfikbahcckaaaDoorWK
set_option linter.unusedSimpArgs false
set_option linter.unusedVariables false
namespace Go.Proofs.YtelfikbahcckaaaDoor
open Go.RowKit

set_option maxRecDepth 100000 in
set_option maxHeartbeats 4000000 in
theorem names_walk (a : Option Addr) (n c : Nat) (b : List Nat) (at_ : Int) (w : World) (hV : Vars w) (h : Src w a n c b) (_ : n ≤ 140737488351232) (hat : -9223372036854775808 ≤ at_ ∧ at_ ≤ 9223372036854775807) : Calls Tryd.prog 3 #[.slice a n c, .int .i64 at_] w fun e w' => e = .returned (.bool true) ∧ Below w.heap.size w w' := by
  have V0 := hide hV
  have hlen := h.hlen
  have hcap := h.hcap
  have hmx := h.hmax
  unfold maxLen at hmx
  by_cases hbig : 4000 < n
  · have d1 : decide (4000 < (n : Int)) = true := decide_eq_true (by omega)
    have d1' : decide (4000 < n) = true := decide_eq_true hbig
    obtain ⟨bb, hbb⟩ : ∃ bb, bb = b.take 4000 := ⟨_, rfl⟩
    have SB : Hid (Src w a 4000 c bb) := by
      rw [hbb]
      refine ⟨by rw [List.length_take]; omega, by omega, h.hmax, h.nil, fun h0 => ?_, fun x hx => h.byte x (List.mem_of_mem_take hx)⟩
      obtain ⟨xb, xo, e, hx, hc⟩ := h.lies (by omega)
      exact ⟨xb, xo, e, hx, fun i hi => by rw [hc i (by omega)]; simp [List.getD, List.getElem?_take, hi]⟩
    have hn : (4000 : Nat) ≤ 4000 := Nat.le_refl _
    have hc4 : 4000 ≤ c := by omega
    have hc4' : (4000 : Int) ≤ c := by omega
    have HBY := hide (bytes_at a 4000 c bb w SB.out (by omega))
    clear h hV hbb hbig
    go_enter Tryd.func3, Tryd.ntmps3
    go_wp2_with fail
    refine HBY.out.mono ?_
    rintro e w1 ⟨v1, rfl, o1, b1⟩
    obtain ⟨a1, c1, rfl, s1, _⟩ := own_src o1 SB.out.byte
    have S1 := hide s1
    have B1 := hide b1
    have S0 := hide (SB.out.below b1)
    have V1 := hide (V0.out.below b1)
    have HNM := hide (name_at a1 _ c1 _ at_ w1 s1 (V0.out.below b1) hat.1 hat.2)
    obtain ⟨R, hR⟩ : ∃ R, R = namI bb at_ := ⟨_, rfl⟩
    rw [← hR] at HNM
    have HR := hide hR
    clear o1 s1 b1 HBY hR
    go_wp2_with fail
    refine HNM.out.mono ?_
    rintro e w2 ⟨v2, rfl, i2, b2⟩
    have I2 := hide i2
    have S2 := hide (S1.out.below b2)
    have S20 := S0.out.below b2
    have HRN := hide (rname_at a _ c bb at_ w2 S20 hn hat.1 hat.2)
    rw [← HR.out] at HRN
    have S20' := hide S20
    have B2 := hide (B1.out.trans (b2.mono B1.out.size))
    have V2 := hide (V1.out.below b2)
    clear i2 b2 S20 HNM
    go_wp2_with fail
    refine HRN.out.mono ?_
    rintro e w3 ⟨rfl, b3⟩
    have I3 := hide (I2.out.below b3)
    have S3 := hide (S2.out.below b3)
    have S30 := hide (S20'.out.below b3)
    have B3 := hide (B2.out.trans (b3.mono B2.out.size))
    have V3 := hide (V2.out.below b3)
    obtain ⟨X, hX⟩ : ∃ X, X = strN R.1 := ⟨_, rfl⟩
    obtain ⟨Y, hY⟩ : ∃ Y, Y = R.2.1 := ⟨_, rfl⟩
    obtain ⟨E, hE⟩ : ∃ E, E = R.2.2 := ⟨_, rfl⟩
    rw [← hX, ← hY, ← hE]
    rw [← hE] at I3
    rw [badF_badG]
    obtain ⟨GF, hGF⟩ : ∃ GF, GF = w3.heap.size := ⟨_, rfl⟩
    obtain ⟨W4, hW4⟩ : ∃ W, W = (w3.alloc (.cells (badC .ok) 32)).setRow GF (badG E) := ⟨_, rfl⟩
    have z4 : (w3.alloc (.cells (badC .ok) 32)).heap[GF]? = some (.cells (badC .ok) 32) := by rw [hGF]; exact alloc_new _ _
    have b4 : Below w3.heap.size w3 W4 := by rw [hW4]; exact below_setRow ((Below.refl _ _).alloc (Nat.le_refl _) _) (by omega) _
    have l4 : W4.heap[GF]? = some (.cells (badG E) 32) := by rw [hW4]; exact setRow_heap _ _ _ _ _ z4
    have HI := hide (is_at E v2 W4 (I3.out.below b4))
    rw [badF_badG] at HI
    have S4 := hide (S3.out.below b4)
    have S40 := hide (S30.out.below b4)
    have B4 := hide (B3.out.trans (b4.mono B3.out.size))
    have V4 := hide (V3.out.below b4)
    have Z4 := hide z4
    have L4 := hide l4
    have HW4 := hide hW4
    have HGF := hide hGF.symm
    have qY : ((Y : Int) == (Y : Int)) = true := by simp
    have qX : (X.toList == X.toList) = true := by simp
    clear b3 HRN hX hY hE z4 b4 l4 hW4 hGF
    go_wp2_with (first
      | (rw [HGF.out]; refine wpList_store_rowW rfl 32 _ _ rfl GF (badG E) rfl rfl 32 (badC .ok) Z4.out (infoG _) (by simp [badC_size, badG_size]) (badG_one _) W4 HW4.out ?_)
      | (refine wpList_load_rowG rfl 32 _ rfl GF rfl 32 (badG E) (0, 0) _ L4.out Tryd.underlying32 rfl (infoG E) ?_))
    refine HI.out.mono ?_
    rintro e w5 ⟨rfl, b5⟩
    have HSM := hide (same_bytes w5 a1 a _ c1 _ c bb (S4.out.below b5) (S40.out.below b5))
    have B5 := hide (B4.out.trans (b5.mono B4.out.size))
    have HWK := hide (works_at w5 (V4.out.below b5))
    clear b5 HI
    go_wp2_with fail
    refine HSM.out.mono ?_
    rintro e w6 ⟨rfl, rfl⟩
    go_wp2_with fail
    refine HWK.out.mono ?_
    rintro e w7 ⟨rfl, b7⟩
    have B7 := hide (B5.out.trans (b7.mono B5.out.size))
    clear b7
    go_wp2_with fail
    go_ret
    exact ⟨rfl, B7.out⟩

  · have d1 : decide (4000 < (n : Int)) = false := decide_eq_false (by omega)
    have d1' : decide (4000 < n) = false := decide_eq_false hbig
    obtain ⟨bb, hbb⟩ : ∃ bb, bb = b := ⟨_, rfl⟩
    have SB : Hid (Src w a n c bb) := by rw [hbb]; exact h
    have hn : n ≤ 4000 := by omega
    have HBY := hide (bytes_at a n c bb w SB.out (by omega))
    clear h hV hbb hbig
    go_enter Tryd.func3, Tryd.ntmps3
    go_wp2_with fail
    refine HBY.out.mono ?_
    rintro e w1 ⟨v1, rfl, o1, b1⟩
    obtain ⟨a1, c1, rfl, s1, _⟩ := own_src o1 SB.out.byte
    have S1 := hide s1
    have B1 := hide b1
    have S0 := hide (SB.out.below b1)
    have V1 := hide (V0.out.below b1)
    have HNM := hide (name_at a1 _ c1 _ at_ w1 s1 (V0.out.below b1) hat.1 hat.2)
    obtain ⟨R, hR⟩ : ∃ R, R = namI bb at_ := ⟨_, rfl⟩
    rw [← hR] at HNM
    have HR := hide hR
    clear o1 s1 b1 HBY hR
    go_wp2_with fail
    refine HNM.out.mono ?_
    rintro e w2 ⟨v2, rfl, i2, b2⟩
    have I2 := hide i2
    have S2 := hide (S1.out.below b2)
    have S20 := S0.out.below b2
    have HRN := hide (rname_at a _ c bb at_ w2 S20 hn hat.1 hat.2)
    rw [← HR.out] at HRN
    have S20' := hide S20
    have B2 := hide (B1.out.trans (b2.mono B1.out.size))
    have V2 := hide (V1.out.below b2)
    clear i2 b2 S20 HNM
    go_wp2_with fail
    refine HRN.out.mono ?_
    rintro e w3 ⟨rfl, b3⟩
    have I3 := hide (I2.out.below b3)
    have S3 := hide (S2.out.below b3)
    have S30 := hide (S20'.out.below b3)
    have B3 := hide (B2.out.trans (b3.mono B2.out.size))
    have V3 := hide (V2.out.below b3)
    obtain ⟨X, hX⟩ : ∃ X, X = strN R.1 := ⟨_, rfl⟩
    obtain ⟨Y, hY⟩ : ∃ Y, Y = R.2.1 := ⟨_, rfl⟩
    obtain ⟨E, hE⟩ : ∃ E, E = R.2.2 := ⟨_, rfl⟩
    rw [← hX, ← hY, ← hE]
    rw [← hE] at I3
    rw [badF_badG]
    obtain ⟨GF, hGF⟩ : ∃ GF, GF = w3.heap.size := ⟨_, rfl⟩
    obtain ⟨W4, hW4⟩ : ∃ W, W = (w3.alloc (.cells (badC .ok) 32)).setRow GF (badG E) := ⟨_, rfl⟩
    have z4 : (w3.alloc (.cells (badC .ok) 32)).heap[GF]? = some (.cells (badC .ok) 32) := by rw [hGF]; exact alloc_new _ _
    have b4 : Below w3.heap.size w3 W4 := by rw [hW4]; exact below_setRow ((Below.refl _ _).alloc (Nat.le_refl _) _) (by omega) _
    have l4 : W4.heap[GF]? = some (.cells (badG E) 32) := by rw [hW4]; exact setRow_heap _ _ _ _ _ z4
    have HI := hide (is_at E v2 W4 (I3.out.below b4))
    rw [badF_badG] at HI
    have S4 := hide (S3.out.below b4)
    have S40 := hide (S30.out.below b4)
    have B4 := hide (B3.out.trans (b4.mono B3.out.size))
    have V4 := hide (V3.out.below b4)
    have Z4 := hide z4
    have L4 := hide l4
    have HW4 := hide hW4
    have HGF := hide hGF.symm
    have qY : ((Y : Int) == (Y : Int)) = true := by simp
    have qX : (X.toList == X.toList) = true := by simp
    clear b3 HRN hX hY hE z4 b4 l4 hW4 hGF
    go_wp2_with (first
      | (rw [HGF.out]; refine wpList_store_rowW rfl 32 _ _ rfl GF (badG E) rfl rfl 32 (badC .ok) Z4.out (infoG _) (by simp [badC_size, badG_size]) (badG_one _) W4 HW4.out ?_)
      | (refine wpList_load_rowG rfl 32 _ rfl GF rfl 32 (badG E) (0, 0) _ L4.out Tryd.underlying32 rfl (infoG E) ?_))
    refine HI.out.mono ?_
    rintro e w5 ⟨rfl, b5⟩
    have HSM := hide (same_bytes w5 a1 a _ c1 _ c bb (S4.out.below b5) (S40.out.below b5))
    have B5 := hide (B4.out.trans (b5.mono B4.out.size))
    have HWK := hide (works_at w5 (V4.out.below b5))
    clear b5 HI
    go_wp2_with fail
    refine HSM.out.mono ?_
    rintro e w6 ⟨rfl, rfl⟩
    go_wp2_with fail
    refine HWK.out.mono ?_
    rintro e w7 ⟨rfl, b7⟩
    have B7 := hide (B5.out.trans (b7.mono B5.out.size))
    clear b7
    go_wp2_with fail
    go_ret
    exact ⟨rfl, B7.out⟩

end Go.Proofs.YtelfikbahcckaaaDoor
