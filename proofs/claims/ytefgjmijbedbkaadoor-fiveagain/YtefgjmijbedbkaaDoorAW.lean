/-
  FiveAgain's walk; conditions as each theorem has them.
-/
import Derived.Test.YtefgjmijbedbkaaDoorWK
import Derived.Test.YtefgjmijbedbkaaDoorPE
set_option linter.unusedSimpArgs false
set_option linter.unusedVariables false
namespace Go.Proofs.YtefgjmijbedbkaaDoor
open Go.RowKit

set_option maxRecDepth 100000 in
set_option maxHeartbeats 4000000 in
theorem again_walk (a : Option Addr) (n c : Nat) (b : List Nat) (w : World) (hV : Vars w) (h : Src w a n c b) (_ : n ≤ 140737488351232) : Calls Tryd.prog 7 #[.slice a n c] w fun e w' => e = .returned (.bool true) ∧ Below w.heap.size w w' := by
  have HW := hide (works_at w hV)
  have S0 := hide h
  have V0 := hide hV
  clear h hV
  go_enter Tryd.func7, Tryd.ntmps7
  go_wp2_with fail
  refine HW.out.mono ?_
  rintro e w1 ⟨rfl, hb1⟩
  have B1 := hide hb1
  have HR := hide (request_at a n c b w1 (S0.out.below hb1) (V0.out.below hb1))
  have V1 := hide (V0.out.below hb1)
  unfold reqV at HR
  clear hb1
  go_wp2_with fail
  refine HR.out.mono ?_
  rintro e w2 ⟨u, rfl, hf, hb2⟩
  have B2 := hide (B1.out.trans (hb2.mono B1.out.size))
  have V2 := hide (V1.out.below hb2)
  clear hb2
  by_cases hok : (req b).2.2.2 = .ok
  · obtain rfl := hf.nil hok
    obtain ⟨q, A, nm, pt, K, hE, g1, g2, g3, g4, g5, g6, g7, g8, g9⟩ := req_good S0.out.byte hok
    rw [hE]
    obtain ⟨A0, A1, A2, A3⟩ := A
    simp only [deV]
    obtain ⟨W3, hW3⟩ : ∃ W3, W3 = w2.alloc (.cells #[.int .u8 (A0 : Nat), .int .u8 (A1 : Nat), .int .u8 (A2 : Nat), .int .u8 (A3 : Nat), .string (strN nm), .int .i64 (pt : Nat)] 47) := ⟨_, rfl⟩
    have b3 : Below w2.heap.size w2 W3 := by rw [hW3]; exact (Below.refl _ _).alloc (Nat.le_refl _) _
    have r3 : W3.heap[w2.heap.size]? = some (.cells #[.int .u8 (A0 : Nat), .int .u8 (A1 : Nat), .int .u8 (A2 : Nat), .int .u8 (A3 : Nat), .string (strN nm), .int .i64 (pt : Nat)] 47) := by rw [hW3]; exact alloc_new _ _
    have hP := putRequest_at (q : Int) (A0, A1, A2, A3) (strN nm) (pt : Int) W3 (V2.out.below b3) g2 (by rw [strN_size]; unfold maxLen; omega) (by omega)
    rw [byt_strN nm g3, putRq_good g1 g9 g5] at hP
    simp only [deV] at hP
    have HP := hide hP
    have R3 := hide r3
    have B3 := hide (B2.out.trans (b3.mono B2.out.size))
    have V3 := hide (V2.out.below b3)
    have HRQ : Hid (req (putR q (A0, A1, A2, A3) nm pt) = (q, ((A0, A1, A2, A3), nm, pt), (putR q (A0, A1, A2, A3) nm pt).length, .ok)) := by
      have := req_put q (A0, A1, A2, A3) nm pt [] g9
      rwa [List.append_nil] at this
    have hln := putR_len q (A0, A1, A2, A3) nm pt g4
    obtain ⟨L, hL⟩ : ∃ L, L = putR q (A0, A1, A2, A3) nm pt := ⟨_, rfl⟩
    rw [← hL] at HP HRQ hln
    have HW3 := hide hW3.symm
    clear hf hok hE b3 r3 hP hW3 g2 g3 g4 g6 g7 g8 g9 hL HR HW
    go_wp2_with fail
    rw [HW3.out]
    refine HP.out.mono ?_
    rintro e w4 ⟨x, y, rfl, hs, hb4⟩
    have HR2 := hide (request_at x L.length y L w4 hs (V3.out.below hb4))
    unfold reqV at HR2
    rw [HRQ.out] at HR2
    simp only [deV] at HR2
    have B4 := hide (B3.out.trans (hb4.mono B3.out.size))
    have R4 := hide (keepB hb4 R3.out)
    have hy := hs.hcap
    have hym := hs.hmax
    unfold maxLen at hym
    clear hs hb4
    go_wp2_with fail
    refine HR2.out.mono ?_
    rintro e w6 ⟨u2, rfl, hf2, hb6⟩
    obtain rfl : u2 = .nilIface := hf2
    have B6 := hide (B4.out.trans (hb6.mono B4.out.size))
    have r6 := keepB hb6 R4.out
    have k0 : w6.cell? ⟨w2.heap.size, 0, none⟩ = some (.int .u8 (A0 : Nat)) := by simp [World.cell?, r6]
    have k1 : w6.cell? ⟨w2.heap.size, 1, none⟩ = some (.int .u8 (A1 : Nat)) := by simp [World.cell?, r6]
    have k2 : w6.cell? ⟨w2.heap.size, 2, none⟩ = some (.int .u8 (A2 : Nat)) := by simp [World.cell?, r6]
    have k3 : w6.cell? ⟨w2.heap.size, 3, none⟩ = some (.int .u8 (A3 : Nat)) := by simp [World.cell?, r6]
    have k4 : w6.cell? ⟨w2.heap.size, 4, none⟩ = some (.string (strN nm)) := by simp [World.cell?, r6]
    have k5 : w6.cell? ⟨w2.heap.size, 5, none⟩ = some (.int .i64 (pt : Nat)) := by simp [World.cell?, r6]
    have hz6 : w2.heap.size < w6.heap.size := lt_of_some r6
    have hne6 : w2.heap.size ≠ w6.heap.size := by omega
    clear hb6 r6
    go_wp2_with fail
    go_ret
    exact ⟨by simp, B6.out.alloc B6.out.size _⟩
  · obtain ⟨x1, rfl⟩ := hf.ptr hok
    obtain ⟨t1, t2, t3⟩ := req_bad hok
    rw [t1, t2, t3]
    simp only [deV, noD, noA]
    clear hf hok t1 t2 t3
    go_wp2_with fail
    go_ret
    exact ⟨rfl, B2.out.alloc B2.out.size _⟩
end Go.Proofs.YtefgjmijbedbkaaDoor
