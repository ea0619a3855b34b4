/-
  PolicyMays' walk; conditions as its theorem has them.
-/
import Derived.Test.YtiejandeoopiiaaGreatDoorSM
set_option linter.unusedSimpArgs false
set_option linter.unusedVariables false
namespace Go.Proofs.YtiejandeoopiiaaGreatDoor
open Go.RowKit
set_option maxRecDepth 100000 in
set_option maxHeartbeats 4000000 in
theorem mays_walk (a : Option Addr) (n c : Nat) (l : List Ru) (d : Ad) (nm : ByteArray) (p : Int) (w : World) (hT : Tabs w) (h : SrcR w a n c l) (hz : n * 48 ≤ 140737488351232) (hd : d.ok) (hnm : nm.size ≤ maxLen) (hwf : (Lit.int .i64 p).wf = true) : Calls Tryz.prog 3 #[.slice a n c, deV d nm p] w fun e w' => e = .returned (.bool true) ∧ Below w.heap.size w w' := by
  have WA := hide (fun a' n' c' W hs ht => which_at a' n' c' l d nm p W hs hd hnm ht)
  have MA := hide (fun a' n' c' W hs ht => may_at a' n' c' l d nm p W hs hd hnm ht)
  have WR := hide (fun W hs => rWhich_at a n c l d nm p W hs hd hnm)
  have MR := hide (fun W hs => rMay_at a n c l d nm p W hs hd hnm)
  have CA := hide (fun a' n' c' W hs ht => pCheck_at a' n' c' l W hs ht)
  have CR := hide (fun W hs => rCheck_at a n c l W hs)
  obtain ⟨K, hK⟩ : ∃ K, K = which l d (byt nm) p := ⟨_, rfl⟩
  obtain ⟨M, hM⟩ : ∃ M, M = may l d (byt nm) p := ⟨_, rfl⟩
  obtain ⟨C, hC⟩ : ∃ C, C = chkL l := ⟨_, rfl⟩
  rw [← hK] at WA WR
  rw [← hM] at MA MR
  rw [← hC] at CA CR
  obtain ⟨d0, d1, d2, d3⟩ := d
  simp only [deV] at WA MA WR MR ⊢
  obtain ⟨w0, hw0⟩ : ∃ w0, w0 = w.alloc (.cells #[.int .u8 (d0 : Nat), .int .u8 (d1 : Nat), .int .u8 (d2 : Nat), .int .u8 (d3 : Nat), .string nm, .int .i64 p] 28) := ⟨_, rfl⟩
  have B0 : Hid (Below w.heap.size w w0) := by rw [hw0]; exact (Below.refl _ _).alloc (Nat.le_refl _) _
  have D0 : Hid (w0.heap[w.heap.size]? = some (.cells #[.int .u8 (d0 : Nat), .int .u8 (d1 : Nat), .int .u8 (d2 : Nat), .int .u8 (d3 : Nat), .string nm, .int .i64 p] 28)) := by rw [hw0]; exact alloc_new _ _
  have HW0 := hide hw0
  have HSRC := hide h
  have HTAB := hide hT
  have HLEN := hide h.hlen
  have HZ := hide hz
  clear hw0 hT h hd hnm hwf hK hM hC hz
  go_enter Tryz.func3, Tryz.ntmps3
  go_wp2_with fail
  rw [← HW0.out]
  refine (rules_at a n c l w0 (HSRC.out.below B0.out) HZ.out).mono ?_
  rintro e w1 ⟨v, rfl, hown, hb⟩
  have B1 := hide (B0.out.trans (hb.mono B0.out.size))
  have D1 := hide (keepB hb D0.out)
  obtain ⟨ax, cx, rfl, sx, hx0⟩ := hown.src HSRC.out.ok
  rw [HLEN.out] at sx ⊢
  have X1 := hide sx
  clear hown hb sx hx0
  have s1 := D1.out
  have ga0 : w1.cell? ⟨w.heap.size, 0, none⟩ = some (.int .u8 (d0 : Nat)) := by simp [World.cell?, s1]
  have ga1 : w1.cell? ⟨w.heap.size, 1, none⟩ = some (.int .u8 (d1 : Nat)) := by simp [World.cell?, s1]
  have ga2 : w1.cell? ⟨w.heap.size, 2, none⟩ = some (.int .u8 (d2 : Nat)) := by simp [World.cell?, s1]
  have ga3 : w1.cell? ⟨w.heap.size, 3, none⟩ = some (.int .u8 (d3 : Nat)) := by simp [World.cell?, s1]
  have ga4 : w1.cell? ⟨w.heap.size, 4, none⟩ = some (.string nm) := by simp [World.cell?, s1]
  have ga5 : w1.cell? ⟨w.heap.size, 5, none⟩ = some (.int .i64 p) := by simp [World.cell?, s1]
  clear s1
  go_wp2_with fail
  go_region_held3 (fun w' => w'.cell? ⟨w.heap.size, 0, none⟩ = some (.int .u8 (d0 : Nat)) ∧ w'.cell? ⟨w.heap.size, 1, none⟩ = some (.int .u8 (d1 : Nat)) ∧ w'.cell? ⟨w.heap.size, 2, none⟩ = some (.int .u8 (d2 : Nat)) ∧ w'.cell? ⟨w.heap.size, 3, none⟩ = some (.int .u8 (d3 : Nat)) ∧ w'.cell? ⟨w.heap.size, 4, none⟩ = some (.string nm) ∧ w'.cell? ⟨w.heap.size, 5, none⟩ = some (.int .i64 p)) (go_keep) (first
    | (go_at_call 7; have M' := B1.out; refine (CA.out ax n cx _ (by first | exact X1.out.drew | exact X1.out) (by exact (HTAB.out.below B1.out).v)).mono ?_; rintro e w2 ⟨rfl, hk0⟩; have hk' : Below w1.heap.size w1 w2 := ⟨hk0.os, hk0.tape, hk0.output, hk0.size, hk0.block⟩; have B2 := hide (B1.out.trans (hk'.mono B1.out.size)); have X2 := hide (X1.out.below hk'); have gb0 := (hk'.cell (p := ⟨w.heap.size, 0, none⟩) (lt_of_cell ga0)).trans ga0; have gb1 := (hk'.cell (p := ⟨w.heap.size, 1, none⟩) (lt_of_cell ga1)).trans ga1; have gb2 := (hk'.cell (p := ⟨w.heap.size, 2, none⟩) (lt_of_cell ga2)).trans ga2; have gb3 := (hk'.cell (p := ⟨w.heap.size, 3, none⟩) (lt_of_cell ga3)).trans ga3; have gb4 := (hk'.cell (p := ⟨w.heap.size, 4, none⟩) (lt_of_cell ga4)).trans ga4; have gb5 := (hk'.cell (p := ⟨w.heap.size, 5, none⟩) (lt_of_cell ga5)).trans ga5; clear hk0 hk' M')
    | (go_at_call 8; have M' := B2.out; refine (CR.out _ (by first | exact (HSRC.out.below B2.out).drew | exact HSRC.out.below B2.out)).mono ?_; rintro e w3 ⟨rfl, hk0⟩; have hk' : Below w2.heap.size w2 w3 := ⟨hk0.os, hk0.tape, hk0.output, hk0.size, hk0.block⟩; have B3 := hide (B2.out.trans (hk'.mono B2.out.size)); have X3 := hide (X2.out.below hk'); have gc0 := (hk'.cell (p := ⟨w.heap.size, 0, none⟩) (lt_of_cell gb0)).trans gb0; have gc1 := (hk'.cell (p := ⟨w.heap.size, 1, none⟩) (lt_of_cell gb1)).trans gb1; have gc2 := (hk'.cell (p := ⟨w.heap.size, 2, none⟩) (lt_of_cell gb2)).trans gb2; have gc3 := (hk'.cell (p := ⟨w.heap.size, 3, none⟩) (lt_of_cell gb3)).trans gb3; have gc4 := (hk'.cell (p := ⟨w.heap.size, 4, none⟩) (lt_of_cell gb4)).trans gb4; have gc5 := (hk'.cell (p := ⟨w.heap.size, 5, none⟩) (lt_of_cell gb5)).trans gb5; clear hk0 hk' M')
    | (go_at_call 9; have M' := B3.out; refine (WA.out ax n cx _ (by first | exact X3.out.drew | exact X3.out) (by exact (HTAB.out.below B3.out).v)).mono ?_; rintro e w4 ⟨rfl, hk0⟩; have hk' : Below w3.heap.size w3 w4 := ⟨hk0.os, hk0.tape, hk0.output, hk0.size, hk0.block⟩; have B4 := hide (B3.out.trans (hk'.mono B3.out.size)); have X4 := hide (X3.out.below hk'); have gd0 := (hk'.cell (p := ⟨w.heap.size, 0, none⟩) (lt_of_cell gc0)).trans gc0; have gd1 := (hk'.cell (p := ⟨w.heap.size, 1, none⟩) (lt_of_cell gc1)).trans gc1; have gd2 := (hk'.cell (p := ⟨w.heap.size, 2, none⟩) (lt_of_cell gc2)).trans gc2; have gd3 := (hk'.cell (p := ⟨w.heap.size, 3, none⟩) (lt_of_cell gc3)).trans gc3; have gd4 := (hk'.cell (p := ⟨w.heap.size, 4, none⟩) (lt_of_cell gc4)).trans gc4; have gd5 := (hk'.cell (p := ⟨w.heap.size, 5, none⟩) (lt_of_cell gc5)).trans gc5; clear hk0 hk' M')
    | (go_at_call 10; have M' := B4.out; refine (WR.out _ (by first | exact (HSRC.out.below B4.out).drew | exact HSRC.out.below B4.out)).mono ?_; rintro e w5 ⟨rfl, hk0⟩; have hk' : Below w4.heap.size w4 w5 := ⟨hk0.os, hk0.tape, hk0.output, hk0.size, hk0.block⟩; have B5 := hide (B4.out.trans (hk'.mono B4.out.size)); have X5 := hide (X4.out.below hk'); have ge0 := (hk'.cell (p := ⟨w.heap.size, 0, none⟩) (lt_of_cell gd0)).trans gd0; have ge1 := (hk'.cell (p := ⟨w.heap.size, 1, none⟩) (lt_of_cell gd1)).trans gd1; have ge2 := (hk'.cell (p := ⟨w.heap.size, 2, none⟩) (lt_of_cell gd2)).trans gd2; have ge3 := (hk'.cell (p := ⟨w.heap.size, 3, none⟩) (lt_of_cell gd3)).trans gd3; have ge4 := (hk'.cell (p := ⟨w.heap.size, 4, none⟩) (lt_of_cell gd4)).trans gd4; have ge5 := (hk'.cell (p := ⟨w.heap.size, 5, none⟩) (lt_of_cell gd5)).trans gd5; clear hk0 hk' M')
    | (go_at_call 11; have M' := B5.out; refine (MA.out ax n cx _ (by first | exact X5.out.drew | exact X5.out) (by exact (HTAB.out.below B5.out).v)).mono ?_; rintro e w6 ⟨rfl, hk0⟩; have hk' : Below w5.heap.size w5 w6 := ⟨hk0.os, hk0.tape, hk0.output, hk0.size, hk0.block⟩; have B6 := hide (B5.out.trans (hk'.mono B5.out.size)); have X6 := hide (X5.out.below hk'); have gf0 := (hk'.cell (p := ⟨w.heap.size, 0, none⟩) (lt_of_cell ge0)).trans ge0; have gf1 := (hk'.cell (p := ⟨w.heap.size, 1, none⟩) (lt_of_cell ge1)).trans ge1; have gf2 := (hk'.cell (p := ⟨w.heap.size, 2, none⟩) (lt_of_cell ge2)).trans ge2; have gf3 := (hk'.cell (p := ⟨w.heap.size, 3, none⟩) (lt_of_cell ge3)).trans ge3; have gf4 := (hk'.cell (p := ⟨w.heap.size, 4, none⟩) (lt_of_cell ge4)).trans ge4; have gf5 := (hk'.cell (p := ⟨w.heap.size, 5, none⟩) (lt_of_cell ge5)).trans ge5; clear hk0 hk' M')
    | (go_at_call 12; have M' := B6.out; refine (MR.out _ (by first | exact (HSRC.out.below B6.out).drew | exact HSRC.out.below B6.out)).mono ?_; rintro e w7 ⟨rfl, hk0⟩; have hk' : Below w6.heap.size w6 w7 := ⟨hk0.os, hk0.tape, hk0.output, hk0.size, hk0.block⟩; have B7 := hide (B6.out.trans (hk'.mono B6.out.size)); have X7 := hide (X6.out.below hk'); have gg0 := (hk'.cell (p := ⟨w.heap.size, 0, none⟩) (lt_of_cell gf0)).trans gf0; have gg1 := (hk'.cell (p := ⟨w.heap.size, 1, none⟩) (lt_of_cell gf1)).trans gf1; have gg2 := (hk'.cell (p := ⟨w.heap.size, 2, none⟩) (lt_of_cell gf2)).trans gf2; have gg3 := (hk'.cell (p := ⟨w.heap.size, 3, none⟩) (lt_of_cell gf3)).trans gf3; have gg4 := (hk'.cell (p := ⟨w.heap.size, 4, none⟩) (lt_of_cell gf4)).trans gf4; have gg5 := (hk'.cell (p := ⟨w.heap.size, 5, none⟩) (lt_of_cell gf5)).trans gf5; clear hk0 hk' M')
    | (go_at_call 13; have M' := B7.out; refine (same_rules _ ax a n cx n c l (by first | exact X7.out.drew | exact X7.out) (by first | exact (HSRC.out.below B7.out).drew | exact HSRC.out.below B7.out)).mono ?_; rintro e w8 ⟨rfl, hk0⟩; have hk' : Below w7.heap.size w7 w8 := ⟨hk0.os, hk0.tape, hk0.output, hk0.size, hk0.block⟩; have B8 := hide (B7.out.trans (hk'.mono B7.out.size)); have X8 := hide (X7.out.below hk'); have gh0 := (hk'.cell (p := ⟨w.heap.size, 0, none⟩) (lt_of_cell gg0)).trans gg0; have gh1 := (hk'.cell (p := ⟨w.heap.size, 1, none⟩) (lt_of_cell gg1)).trans gg1; have gh2 := (hk'.cell (p := ⟨w.heap.size, 2, none⟩) (lt_of_cell gg2)).trans gg2; have gh3 := (hk'.cell (p := ⟨w.heap.size, 3, none⟩) (lt_of_cell gg3)).trans gg3; have gh4 := (hk'.cell (p := ⟨w.heap.size, 4, none⟩) (lt_of_cell gg4)).trans gg4; have gh5 := (hk'.cell (p := ⟨w.heap.size, 5, none⟩) (lt_of_cell gg5)).trans gg5; clear hk0 hk' M')
    | (go_at_call 14; have M' := B8.out; refine (works_at _ (by first | exact HTAB.out.below B8.out.drew | exact HTAB.out.below B8.out)).mono ?_; rintro e w9 ⟨rfl, hk0⟩; have hk' : Below w8.heap.size w8 w9 := ⟨hk0.os, hk0.tape, hk0.output, hk0.size, hk0.block⟩; have B9 := hide (B8.out.trans (hk'.mono B8.out.size)); have X9 := hide (X8.out.below hk'); have gi0 := (hk'.cell (p := ⟨w.heap.size, 0, none⟩) (lt_of_cell gh0)).trans gh0; have gi1 := (hk'.cell (p := ⟨w.heap.size, 1, none⟩) (lt_of_cell gh1)).trans gh1; have gi2 := (hk'.cell (p := ⟨w.heap.size, 2, none⟩) (lt_of_cell gh2)).trans gh2; have gi3 := (hk'.cell (p := ⟨w.heap.size, 3, none⟩) (lt_of_cell gh3)).trans gh3; have gi4 := (hk'.cell (p := ⟨w.heap.size, 4, none⟩) (lt_of_cell gh4)).trans gh4; have gi5 := (hk'.cell (p := ⟨w.heap.size, 5, none⟩) (lt_of_cell gh5)).trans gh5; clear hk0 hk' M'))
  all_goals go_wp2_with fail
  all_goals go_ret
  all_goals exact ⟨by first | rfl | simp, B9.out⟩

end Go.Proofs.YtiejandeoopiiaaGreatDoor
