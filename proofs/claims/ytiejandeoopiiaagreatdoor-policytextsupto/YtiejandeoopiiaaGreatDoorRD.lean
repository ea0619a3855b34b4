/-
  firstFit of package policy; conditions as each theorem has them.
-/
import Derived.Test.YtiejandeoopiiaaGreatDoorRC
import Derived.WalkMore
set_option linter.unusedSimpArgs false
set_option linter.unusedVariables false
namespace Go.Proofs.YtiejandeoopiiaaGreatDoor
open Go.RowKit

set_option maxRecDepth 100000 in
set_option maxHeartbeats 2000000 in
theorem firstFit_at (a : Option Addr) (n c : Nat) (l : List Ru) (d : Ad) (nm : ByteArray) (p : Int) (w : World) (h : SrcR w a n c l) (hn : n ≤ 64) (hd : d.ok) (hnm : nm.size ≤ maxLen) : Calls Tryz.prog 25 #[.slice a n c, deV d nm p] w fun e w' => e = .returned (.int .i64 (first (fit d (byt nm) p) 0 l)) ∧ Below w.heap.size w w' := by
  have H := hide h
  have hc := h.hcap
  have hm := h.hmax
  unfold maxLen at hm
  clear h
  have HD := hide hd
  have HNM := hide hnm
  clear hnm hd
  obtain ⟨d0, d1, d2, d3⟩ := d
  simp only [deV]
  obtain ⟨w0, hw0⟩ : ∃ w0, w0 = w.alloc (.cells #[.int .u8 (d0 : Nat), .int .u8 (d1 : Nat), .int .u8 (d2 : Nat), .int .u8 (d3 : Nat), .string nm, .int .i64 p] 28) := ⟨_, rfl⟩
  have B0 : Hid (Below w.heap.size w w0) := by rw [hw0]; exact (Below.refl _ _).alloc (Nat.le_refl _) _
  have r0 : Hid (w0.heap[w.heap.size]? = some (.cells #[.int .u8 (d0 : Nat), .int .u8 (d1 : Nat), .int .u8 (d2 : Nat), .int .u8 (d3 : Nat), .string nm, .int .i64 p] 28)) := by rw [hw0]; exact alloc_new _ _
  have HW0 := hide hw0
  have H0 := hide (H.out.below B0.out)
  have hsz : w0.heap.size = w.heap.size + 1 := by rw [hw0]; simp
  have HSZ := hide hsz
  clear hw0 hsz
  obtain ⟨f, hf⟩ : ∃ f, f = fit (d0, d1, d2, d3) (byt nm) p := ⟨_, rfl⟩
  rw [← hf]
  have HF := hide hf
  clear hf
  go_enter Tryz.func25, Tryz.ntmps25
  go_wp2_with fail
  rw [← HW0.out]
  go_step3
  go_wp2_with fail
  go_step3
  go_wp2_with fail
  go_loopw [5, 10] (fun pl i wr => ∃ k : Nat, k ≤ n ∧ i = .int .i64 k ∧ pl = .int .i64 (-1) ∧ Hid (Below w0.heap.size w0 wr ∧ first f 0 l = first f k (l.drop k))) (fun _ i _ => n - (intOf i).toNat)
  case atStart => exact ⟨0, by omega, rfl, rfl, Below.refl _ _, rfl⟩
  case round =>
    obtain ⟨k, hk, rfl, rfl, HJ⟩ := hrel
    by_cases hkn : k < n
    · have hd : decide ((k : Int) < (n : Int)) = true := decide_eq_true (by omega)
      have s1 := H0.out.keep (w' := wr) (fun h0 b o e => HJ.out.1.block b (H0.out.lt h0 e)) HJ.out.1.size
      obtain ⟨xb, xo, rfl, hxb, hrg⟩ := s1.at_ hkn
      have hok := okRs_getD s1.ok k
      have HRG := hide hrg
      obtain ⟨r, hr⟩ : ∃ r, r = l.getD k noRu := ⟨_, rfl⟩
      rw [← hr] at HRG hok
      have HOK := hide hok
      have HST : Hid (first f 0 l = if f r = true then (k : Int) else first f (k + 1) (l.drop (k + 1))) := by
        show _ = _
        rw [HJ.out.2, drop_getD (d := noRu) (by rw [H.out.hlen]; exact hkn), ← hr]
        rfl
      have HFR : Hid (f r = (decide (r.lw ≤ p) && decide (p ≤ r.hg) && hasH r (d0, d1, d2, d3) (byt nm))) := by show _ = _; rw [HF.out]; rfl
      clear hr hok s1 hrg
      obtain ⟨W2, hW2, g1, g2⟩ := box_new wr r
      have HW2 := hide hW2
      have G1 := hide g1
      have G2 := hide (HJ.out.1.trans (g2.mono HJ.out.1.size))
      have q0 := keepB G2.out r0.out
      have c7 : W2.cell? ⟨wr.heap.size, 7, none⟩ = some (.int .i64 r.lw) := by simp [World.cell?, g1, ruC]
      have c8 : W2.cell? ⟨wr.heap.size, 8, none⟩ = some (.int .i64 r.hg) := by simp [World.cell?, g1, ruC]
      have e0 : W2.cell? ⟨w.heap.size, 0, none⟩ = some (.int .u8 (d0 : Nat)) := by simp [World.cell?, q0]
      have e1 : W2.cell? ⟨w.heap.size, 1, none⟩ = some (.int .u8 (d1 : Nat)) := by simp [World.cell?, q0]
      have e2 : W2.cell? ⟨w.heap.size, 2, none⟩ = some (.int .u8 (d2 : Nat)) := by simp [World.cell?, q0]
      have e3 : W2.cell? ⟨w.heap.size, 3, none⟩ = some (.int .u8 (d3 : Nat)) := by simp [World.cell?, q0]
      have e4 : W2.cell? ⟨w.heap.size, 4, none⟩ = some (.string nm) := by simp [World.cell?, q0]
      have e5 : W2.cell? ⟨w.heap.size, 5, none⟩ = some (.int .i64 p) := by simp [World.cell?, q0]
      clear hW2 g1 g2 q0
      obtain ⟨L, hL⟩ : ∃ L, L = r.lw := ⟨_, rfl⟩
      obtain ⟨G, hG⟩ : ∃ G, G = r.hg := ⟨_, rfl⟩
      rw [← hL] at c7 HFR
      rw [← hG] at c8 HFR
      clear hL hG
      by_cases h1 : p < L
      · have HX : Hid (f r = false) := by show _ = _; rw [HFR.out, decide_eq_false (by omega : ¬ L ≤ p)]; rfl
        go_wp2_with (first | (refine wpList_store_rowW rfl 37 _ _ rfl wr.heap.size (ruC r).toArray rfl rfl 37 zRu (alloc_new _ _) infoRu rfl (ruC_all r) W2 HW2.out ?_) | (refine wpList_load_mid rfl 37 _ rfl xb (xo + k * 9) rfl (ruC r) _ HRG.out Tryz.underlying37 rfl infoRu ?_) | (refine wpList_load_row rfl 37 _ rfl wr.heap.size rfl 37 _ (0, 0) _ G1.out Tryz.underlying37 rfl infoRu ?_))
        go_roundw
        case rel => exact ⟨k + 1, by omega, by go_num, rfl, G2.out, by rw [HST.out, HX.out]; rfl⟩
        case measure => simp [intOf]; omega
      by_cases h2 : G < p
      · have HX : Hid (f r = false) := by show _ = _; rw [HFR.out, decide_eq_false (by omega : ¬ p ≤ G)]; simp
        go_wp2_with (first | (refine wpList_store_rowW rfl 37 _ _ rfl wr.heap.size (ruC r).toArray rfl rfl 37 zRu (alloc_new _ _) infoRu rfl (ruC_all r) W2 HW2.out ?_) | (refine wpList_load_mid rfl 37 _ rfl xb (xo + k * 9) rfl (ruC r) _ HRG.out Tryz.underlying37 rfl infoRu ?_) | (refine wpList_load_row rfl 37 _ rfl wr.heap.size rfl 37 _ (0, 0) _ G1.out Tryz.underlying37 rfl infoRu ?_))
        go_roundw
        case rel => exact ⟨k + 1, by omega, by go_num, rfl, G2.out, by rw [HST.out, HX.out]; rfl⟩
        case measure => simp [intOf]; omega
      have HH := hide (fun W => hasHost_at r (d0, d1, d2, d3) nm W HOK.out HD.out HNM.out)
      obtain ⟨R, hR⟩ : ∃ R, R = hasH r (d0, d1, d2, d3) (byt nm) := ⟨_, rfl⟩
      rw [← hR] at HH HFR
      have HFR' : Hid (f r = R) := by show _ = _; rw [HFR.out, decide_eq_true (by omega : L ≤ p), decide_eq_true (by omega : p ≤ G)]; rfl
      clear hR HFR
      simp only [hoV] at HH
      go_wp2_with (first | (refine wpList_store_rowW rfl 37 _ _ rfl wr.heap.size (ruC r).toArray rfl rfl 37 zRu (alloc_new _ _) infoRu rfl (ruC_all r) W2 HW2.out ?_) | (refine wpList_load_mid rfl 37 _ rfl xb (xo + k * 9) rfl (ruC r) _ HRG.out Tryz.underlying37 rfl infoRu ?_) | (refine wpList_load_row rfl 37 _ rfl wr.heap.size rfl 37 _ (0, 0) _ G1.out Tryz.underlying37 rfl infoRu ?_))
      refine (HH.out _).mono ?_
      rintro e w3 ⟨rfl, hb3⟩
      have HB3 := hide (G2.out.trans (hb3.mono G2.out.size))
      clear hb3
      cases R
      · have HX : Hid (f r = false) := HFR'.out
        go_wp2_with fail
        go_roundw
        case rel => exact ⟨k + 1, by omega, by go_num, rfl, HB3.out, by rw [HST.out, HX.out]; rfl⟩
        case measure => simp [intOf]; omega
      · have HX : Hid (first f 0 l = (k : Int)) := by show _ = _; rw [HST.out, HFR'.out]; rfl
        go_wp2_with fail
        unfold Exit.noGoto
        go_ret
        rw [HX.out]
        exact ⟨rfl, B0.out.trans (HB3.out.mono B0.out.size)⟩
    · have hd : decide ((k : Int) < (n : Int)) = false := decide_eq_false (by omega)
      have HX : Hid (first f 0 l = -1) := by
        show _ = _
        rw [HJ.out.2, List.drop_of_length_le (by rw [H.out.hlen]; omega)]
        rfl
      go_wp2_with fail
      unfold Exit.noGoto
      go_ret
      rw [HX.out]
      exact ⟨rfl, B0.out.trans (HJ.out.1.mono B0.out.size)⟩

end Go.Proofs.YtiejandeoopiiaaGreatDoor
