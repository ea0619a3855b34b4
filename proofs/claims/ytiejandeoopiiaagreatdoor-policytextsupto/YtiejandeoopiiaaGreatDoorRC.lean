/-
  Check and hasHost of package policy; conditions as each theorem has them.
-/
import Derived.Test.YtiejandeoopiiaaGreatDoorRB
set_option linter.unusedSimpArgs false
set_option linter.unusedVariables false
namespace Go.Proofs.YtiejandeoopiiaaGreatDoor
open Go.RowKit

def zRu : Array Value := #[.bool false, .int .u8 0, .int .u8 0, .int .u8 0, .int .u8 0, .int .i64 0, .string ⟨#[]⟩, .int .i64 0, .int .i64 0]
theorem ruC_all (r : Ru) : (ruC r).toArray.all (·.oneCell') = true := all_oneCell_toArray (ruC_one r)
/-- A new box that a rule is put into. -/
theorem box_new (w : World) (r : Ru) : ∃ W, W = (w.alloc (.cells zRu 37)).setRow w.heap.size (ruC r).toArray ∧ W.heap[w.heap.size]? = some (.cells (ruC r).toArray 37) ∧ Below w.heap.size w W := by
  refine ⟨_, rfl, setRow_heap _ _ _ _ _ (alloc_new _ _), below_setRow ((Below.refl _ _).alloc (Nat.le_refl _) _) (Nat.le_refl _) _⟩
set_option maxRecDepth 100000 in
set_option maxHeartbeats 2000000 in
theorem pCheck_at (a : Option Addr) (n c : Nat) (l : List Ru) (w : World) (h : SrcR w a n c l) (hV : Vars w) : Calls Tryz.prog 7 #[.slice a n c] w fun e w' => e = .returned (.int .i64 (chkL l : Nat)) ∧ Below w.heap.size w w' := by
  have H := hide h
  have HV := hide hV
  have hc := h.hcap
  have hm := h.hmax
  unfold maxLen at hm
  clear h hV
  by_cases h64 : 64 < n
  · have HX : Hid (chkL l = 3) := by show _ = _; rw [chkL, H.out.hlen, if_pos h64]
    go_enter Tryz.func7, Tryz.ntmps7
    go_wp2_with fail
    go_ret
    rw [HX.out]
    exact ⟨rfl, Below.refl _ _⟩
  go_enter Tryz.func7, Tryz.ntmps7
  go_wp2_with fail
  have hn : n ≤ 64 := by omega
  go_loopw [10] (fun i wr => ∃ k : Nat, k ≤ n ∧ i = .int .i64 k ∧ Hid (Below w.heap.size w wr ∧ (l.take k).all Ru.right = true)) (fun i _ => n - (intOf i).toNat)
  case atStart => exact ⟨0, by omega, rfl, Below.refl _ _, by simp⟩
  case round =>
    obtain ⟨k, hk, rfl, HJ⟩ := hrel
    by_cases hkn : k < n
    · have hd : decide ((k : Int) < (n : Int)) = true := decide_eq_true (by omega)
      have s1 := H.out.keep (w' := wr) (fun h0 b o e => HJ.out.1.block b (H.out.lt h0 e)) HJ.out.1.size
      obtain ⟨xb, xo, rfl, hxb, hrg⟩ := s1.at_ hkn
      have hok := okRs_getD s1.ok k
      have HRG := hide hrg
      obtain ⟨r, hr⟩ : ∃ r, r = l.getD k noRu := ⟨_, rfl⟩
      rw [← hr] at HRG hok
      have HOK := hide hok
      have HRE := hide hr
      clear hr hok s1 hrg
      obtain ⟨W2, hW2, g1, g2⟩ := box_new wr r
      have HW2 := hide hW2
      have G1 := hide g1
      have G2 := hide (HJ.out.1.trans (g2.mono HJ.out.1.size))
      clear hW2 g1 g2
      go_wp2_with (first | (refine wpList_store_rowW rfl 37 _ _ rfl wr.heap.size (ruC r).toArray rfl rfl 37 zRu (alloc_new _ _) infoRu rfl (ruC_all r) W2 HW2.out ?_) | (refine wpList_load_mid rfl 37 _ rfl xb (xo + k * 9) rfl (ruC r) _ HRG.out Tryz.underlying37 rfl infoRu ?_) | (refine wpList_load_row rfl 37 _ rfl wr.heap.size rfl 37 _ (0, 0) _ G1.out Tryz.underlying37 rfl infoRu ?_))
      have hv2 : Vars W2 := HV.out.below G2.out
      refine (show Calls Tryz.prog 21 #[.agg (ruC r).toArray] W2 _ from isRule_at r W2 HOK.out hv2).mono ?_
      rintro e w3 ⟨rfl, hb3⟩
      have HB3 := hide (G2.out.trans (hb3.mono G2.out.size))
      obtain ⟨R, hR⟩ : ∃ R, R = r.right := ⟨_, rfl⟩
      rw [← hR]
      have HR := hide hR
      clear hb3 hv2 hR
      cases R
      · have HX : Hid (chkL l = 120) := by
          show _ = _
          have : ¬ l.all Ru.right = true := fun h => by
            have := List.all_eq_true.1 h r (by rw [HRE.out]; exact getD_mem (by rw [H.out.hlen]; exact hkn))
            rw [← HR.out] at this
            cases this
          rw [chkL, if_neg (by rw [H.out.hlen]; omega), if_neg this]
        go_wp2_with fail
        go_ret
        rw [HX.out]
        exact ⟨rfl, HB3.out⟩
      · have HX : Hid ((l.take (k + 1)).all Ru.right = true) := by
          show _ = _
          rw [take_getD (d := noRu) (by rw [H.out.hlen]; exact hkn), List.all_append, HJ.out.2, ← HRE.out]
          simp [← HR.out]
        go_wp2_with fail
        go_roundw
        case rel => exact ⟨k + 1, by omega, by go_num, HB3.out, HX.out⟩
        case measure => simp [intOf]; omega
    · have hd : decide ((k : Int) < (n : Int)) = false := decide_eq_false (by omega)
      have HX : Hid (chkL l = 0) := by
        show _ = _
        have := HJ.out.2
        rw [List.take_of_length_le (by rw [H.out.hlen]; omega)] at this
        rw [chkL, if_neg (by rw [H.out.hlen]; omega), if_pos this]
      go_wp2_with fail
      go_ret
      rw [HX.out]
      exact ⟨rfl, HJ.out.1⟩
def hasH (r : Ru) (a : Ad) (n : List Nat) : Bool := if byt r.suf = [] then decide (n = []) && inB a r.net r.bits else under n (byt r.suf)
set_option maxRecDepth 100000 in
set_option maxHeartbeats 2000000 in
theorem hasHost_at (r : Ru) (a : Ad) (n : ByteArray) (w : World) (hr : r.ok) (ha : a.ok) (hn : n.size ≤ maxLen) : Calls Tryz.prog 43 #[.agg (ruC r).toArray, hoV a n] w fun e w' => e = .returned (.bool (hasH r a (byt n))) ∧ Below w.heap.size w w' := by
  obtain ⟨R, hR⟩ : ∃ R, R = hasH r a (byt n) := ⟨_, rfl⟩
  rw [← hR]
  have HR := hide hR
  clear hR
  have HOF := hide (fun W => isOfNet_at r W)
  obtain ⟨al, ⟨a0, a1, a2, a3⟩, bt, sf, lw, hg⟩ := r
  obtain ⟨b0, b1, b2, b3⟩ := a
  have HIN := hide (fun W => in_at (b0, b1, b2, b3) (a0, a1, a2, a3) bt W ha hr.net)
  have HUN := hide (fun W => under_at n sf W hn hr.suf)
  unfold hasH at HR
  simp only [ruV, ruC, hoV, adV] at HOF HIN HR ⊢
  obtain ⟨I, hI⟩ : ∃ I, I = inB (b0, b1, b2, b3) (a0, a1, a2, a3) bt := ⟨_, rfl⟩
  obtain ⟨U, hU⟩ : ∃ U, U = under (byt n) (byt sf) := ⟨_, rfl⟩
  rw [← hI] at HIN
  rw [← hU] at HUN
  rw [← hI, ← hU] at HR
  clear hI hU
  obtain ⟨w0, hw0⟩ : ∃ w0, w0 = (w.alloc (.cells #[.bool al, .int .u8 (a0 : Nat), .int .u8 (a1 : Nat), .int .u8 (a2 : Nat), .int .u8 (a3 : Nat), .int .i64 bt, .string sf, .int .i64 lw, .int .i64 hg] 37)).alloc (.cells #[.int .u8 (b0 : Nat), .int .u8 (b1 : Nat), .int .u8 (b2 : Nat), .int .u8 (b3 : Nat), .string n] 26) := ⟨_, rfl⟩
  have B0 : Hid (Below w.heap.size w w0) := by rw [hw0]; exact ((Below.refl _ _).alloc (Nat.le_refl _) _).alloc (by simp) _
  have r0 : Hid (w0.heap[w.heap.size]? = some (.cells #[.bool al, .int .u8 (a0 : Nat), .int .u8 (a1 : Nat), .int .u8 (a2 : Nat), .int .u8 (a3 : Nat), .int .i64 bt, .string sf, .int .i64 lw, .int .i64 hg] 37)) := by rw [hw0]; exact alloc_old _ (alloc_new _ _)
  have r1 : Hid (w0.heap[w.heap.size + 1]? = some (.cells #[.int .u8 (b0 : Nat), .int .u8 (b1 : Nat), .int .u8 (b2 : Nat), .int .u8 (b3 : Nat), .string n] 26)) := by rw [hw0]; exact alloc_new2 _ _ _
  have HW0 := hide hw0
  clear hw0 hr
  go_enter Tryz.func43, Tryz.ntmps43
  go_wp2_with (first | (rw [← HW0.out]; refine wpList_load_row rfl 37 _ rfl w.heap.size rfl 37 _ (0, 0) _ r0.out Tryz.underlying37 rfl infoRu ?_))
  refine (HOF.out _).mono ?_
  rintro e w1 ⟨rfl, hb1⟩
  have s0 := keepB hb1 r0.out
  have s1 := keepB hb1 r1.out
  have e1 : w1.cell? ⟨w.heap.size, 1, none⟩ = some (.int .u8 (a0 : Nat)) := by simp [World.cell?, s0]
  have e2 : w1.cell? ⟨w.heap.size, 2, none⟩ = some (.int .u8 (a1 : Nat)) := by simp [World.cell?, s0]
  have e3 : w1.cell? ⟨w.heap.size, 3, none⟩ = some (.int .u8 (a2 : Nat)) := by simp [World.cell?, s0]
  have e4 : w1.cell? ⟨w.heap.size, 4, none⟩ = some (.int .u8 (a3 : Nat)) := by simp [World.cell?, s0]
  have e5 : w1.cell? ⟨w.heap.size, 5, none⟩ = some (.int .i64 bt) := by simp [World.cell?, s0]
  have e6 : w1.cell? ⟨w.heap.size, 6, none⟩ = some (.string sf) := by simp [World.cell?, s0]
  have f0 : w1.cell? ⟨w.heap.size + 1, 0, none⟩ = some (.int .u8 (b0 : Nat)) := by simp [World.cell?, s1]
  have f1 : w1.cell? ⟨w.heap.size + 1, 1, none⟩ = some (.int .u8 (b1 : Nat)) := by simp [World.cell?, s1]
  have f2 : w1.cell? ⟨w.heap.size + 1, 2, none⟩ = some (.int .u8 (b2 : Nat)) := by simp [World.cell?, s1]
  have f3 : w1.cell? ⟨w.heap.size + 1, 3, none⟩ = some (.int .u8 (b3 : Nat)) := by simp [World.cell?, s1]
  have f4 : w1.cell? ⟨w.heap.size + 1, 4, none⟩ = some (.string n) := by simp [World.cell?, s1]
  have B1 := hide (B0.out.trans (hb1.mono B0.out.size))
  clear hb1 s1 s0
  by_cases hs : byt sf = []
  · rw [if_pos hs] at HR
    rw [decide_eq_true hs]
    clear hs
    by_cases hnn : byt n = []
    · have hq : n.toList.isEmpty = true := by rw [isEmpty_byt]; exact decide_eq_true hnn
      have HX : Hid (R = I) := by show _ = _; rw [HR.out, decide_eq_true hnn]; rfl
      clear hnn
      go_wp2_with fail
      refine (HIN.out _).mono ?_
      rintro e w2 ⟨rfl, hb2⟩
      go_wp2_with fail
      go_ret
      rw [HX.out]
      exact ⟨by first | rfl | simp, B1.out.trans (hb2.mono B1.out.size)⟩
    · have hq : n.toList.isEmpty = false := by rw [isEmpty_byt]; exact decide_eq_false hnn
      have HX : Hid (R = false) := by show _ = _; rw [HR.out, decide_eq_false hnn]; rfl
      clear hnn
      go_wp2_with fail
      go_ret
      rw [HX.out]
      exact ⟨rfl, B1.out⟩
  · rw [if_neg hs] at HR
    rw [decide_eq_false hs]
    clear hs
    go_wp2_with fail
    refine (HUN.out _).mono ?_
    rintro e w2 ⟨rfl, rfl⟩
    go_wp2_with fail
    go_ret
    rw [HR.out]
    exact ⟨rfl, B1.out⟩


end Go.Proofs.YtiejandeoopiiaaGreatDoor
