/-
  putAddr, and putNumbers with what else stays; conditions as each theorem has them.
-/
import Derived.Test.YtelfikbahcckaaaDoorBN
set_option linter.unusedSimpArgs false
set_option linter.unusedVariables false
namespace Go.Proofs.YtelfikbahcckaaaDoor
open Go.RowKit
set_option maxRecDepth 100000 in
set_option maxHeartbeats 2000000 in
theorem putNumbers_at2 (v : Value) (l : List Nat) (B r : Nat) (zs : List Nat) (w : World) (h : Own w B 5 v (nums .u8 l)) (hB : B ≤ w.heap.size) (hr : Row w r 3 (nums .i64 zs)) (hl : l.length ≤ 10000) (hz : zs.length ≤ 100) (hzl : ∀ x ∈ zs, x < 4294967296) (hlb : ∀ x ∈ l, x < 256) :
    Calls Tryd.prog 55 #[v, .slice (some ⟨r, 0, none⟩) zs.length zs.length] w fun e w' => ∃ v', e = .returned v' ∧ Own w' B 5 v' (nums .u8 (l ++ nums2 zs)) ∧ Below B w w' ∧ (∀ r2 ty C, ty ≠ 5 → Row w r2 ty C → Row w' r2 ty C) := by
  have H := hide h
  have HR := hide hr
  have HZ := hide hzl
  have HLB := hide hlb
  clear h hr hzl hlb
  go_enter Tryd.func55, Tryd.ntmps55
  go_wp2_with fail
  go_loopw [0, 9] (fun x i wr => ∃ k : Nat, k ≤ zs.length ∧ i = .int .i64 k ∧ Hid (Own wr B 5 x (nums .u8 (l ++ nums2 (zs.take k))) ∧ Below B w wr ∧ Row wr r 3 (nums .i64 zs) ∧ B ≤ wr.heap.size ∧ (∀ r2 ty C, ty ≠ 5 → Row w r2 ty C → Row wr r2 ty C))) (fun _ i _ => zs.length - (intOf i).toNat)
  case atStart => exact ⟨0, by omega, rfl, by simpa [nums2] using H.out, Below.refl _ _, HR.out, hB, fun _ _ _ _ h => h⟩
  case round =>
    obtain ⟨k, hk, rfl, HI⟩ := hrel
    by_cases hkn : k < zs.length
    · have hd : decide ((k : Int) < (zs.length : Int)) = true := decide_eq_true (by omega)
      have hd' : decide (k < zs.length) = true := decide_eq_true (by omega)
      obtain ⟨ow, bl, rw_, hBr, al⟩ := HI.out
      have hMl : (l ++ nums2 (zs.take k)).length ≤ 11000 := by rw [List.length_append, nums2_len, List.length_take]; omega
      have hMb : ∀ x ∈ l ++ nums2 (zs.take k), x < 256 := fun x hx => by
        rcases List.mem_append.1 hx with h | h
        · exact HLB.out x h
        · obtain ⟨y, _, hy⟩ := List.mem_flatMap.1 h; exact num2_lt y x hy
      have ck : wr.cell? ⟨r, k, none⟩ = some (.int .i64 (zs.getD k 0 : Nat)) := rw_.num0 hkn
      have hrl := rw_.lt
      have hz' := HZ.out (zs.getD k 0) (getD_mem hkn)
      have hnt := nums2_take zs k hkn
      obtain ⟨z, hz0⟩ : ∃ z, z = zs.getD k 0 := ⟨_, rfl⟩
      rw [← hz0] at ck hz' hnt
      obtain ⟨M, hM⟩ : ∃ M, M = l ++ nums2 (zs.take k) := ⟨_, rfl⟩
      rw [← hM] at ow hMl hMb
      have HM : Hid (l ++ nums2 (zs.take (k + 1)) = M ++ num2 z) := by show _ = _; rw [hnt, ← List.append_assoc, ← hM]
      obtain ⟨xa, xc, rfl, xs, xb⟩ := own_src ow hMb
      have hcell : (nums .u8 (num2 z)).toArray = #[.int .u8 ((z : Int) / 256 % 256), .int .u8 ((z : Int) % 256)] := by simp [nums, num2]
      obtain ⟨v4, w4, ap4, ow4, bl4, bu4⟩ := run_appN ow (num2 z) (num2_lt z) (by simp [num2]; omega) hBr
      rw [hcell] at ap4
      have AP4 : Hid ((Builtin.append_ #[22, 22] 22 #[.slice xa M.length xc, .slice (some ⟨wr.heap.size, 0, none⟩) 2 2]).run Tryd.prog (wr.alloc (.cells #[.int .u8 ((z : Int) / 256 % 256), .int .u8 ((z : Int) % 256)] 5)) = .ok v4 w4) := ap4
      have HI2 : Hid (Own w4 B 5 v4 (nums .u8 (l ++ nums2 (zs.take (k + 1)))) ∧ Below B w w4 ∧ Row w4 r 3 (nums .i64 zs) ∧ B ≤ w4.heap.size ∧ (∀ r2 ty C, ty ≠ 5 → Row w r2 ty C → Row w4 r2 ty C)) := ⟨by rw [HM.out]; exact ow4, bl.trans bl4, ow.but (u := v4) rw_ (by decide) bu4, Nat.le_trans hBr bl4.size, fun r2 ty C ht hr2 => ow.but (u := v4) (al r2 ty C ht hr2) ht bu4⟩
      clear al ow bl rw_ xs xb ap4 ow4 bl4 bu4 hcell hM hz0 hMb hnt hMl HI HM
      go_wp2_with (first
        | (refine wpList_app_run _ rfl _ _ 22 22 rfl (.slice xa M.length xc) (.slice (some ⟨wr.heap.size, 0, none⟩) 2 2) rfl rfl AP4.out ?_))
      go_roundw
      case rel => exact ⟨k + 1, by omega, by go_num, HI2.out⟩
      case measure => simp [intOf]; omega
    · have hd : decide ((k : Int) < (zs.length : Int)) = false := decide_eq_false (by omega)
      have hd' : decide (k < zs.length) = false := decide_eq_false (by omega)
      obtain ⟨ow, bl, rw_, hBr, al⟩ := HI.out
      rw [List.take_of_length_le (by omega)] at ow
      have OW := hide ow
      have BL := hide bl
      have AL := hide al
      clear al ow bl rw_ HI
      go_wp2_with fail
      go_ret
      exact ⟨_, rfl, OW.out, BL.out, AL.out⟩
set_option maxRecDepth 100000 in
set_option maxHeartbeats 4000000 in
theorem putAddr_at (v : Value) (l : List Nat) (B : Nat) (d : Ad) (tl : Nat) (w : World) (h : Own w B 5 v (nums .u8 l)) (hB : B ≤ w.heap.size) (hl : l.length ≤ 1000) (hlb : ∀ x ∈ l, x < 256) (hd : d.ok) (htl : tl ≤ 1048576) :
    Calls Tryd.prog 38 #[v, .agg #[.int .u8 (d.1 : Nat), .int .u8 (d.2.1 : Nat), .int .u8 (d.2.2.1 : Nat), .int .u8 (d.2.2.2 : Nat)], .int .i64 (tl : Nat)] w fun e w' => ∃ v', e = .returned v' ∧ Own w' B 5 v' (nums .u8 (l ++ adr tl d)) ∧ Below B w w' := by
  obtain ⟨d0, d1, d2, d3⟩ := d
  obtain ⟨W1, hW1⟩ : ∃ W1, W1 = (w.alloc (.cells #[.int .u8 (d0 : Nat), .int .u8 (d1 : Nat), .int .u8 (d2 : Nat), .int .u8 (d3 : Nat)] 75)).alloc (.cells #[.int .i64 49164, .int .i64 1, .int .i64 1, .int .i64 ((tl : Int) / 65536), .int .i64 (tl : Nat), .int .i64 4] 3) := ⟨_, rfl⟩
  have b1 : Below w.heap.size w W1 := by rw [hW1]; exact ((Below.refl _ _).alloc (Nat.le_refl _) _).alloc (by simp) _
  have r1 : Row W1 (w.heap.size + 1) 3 (nums .i64 [49164, 1, 1, tl / 65536, tl, 4]) := by
    rw [hW1]
    exact alloc_new2 w _ _
  have r0 : Row W1 w.heap.size 75 [.int .u8 (d0 : Nat), .int .u8 (d1 : Nat), .int .u8 (d2 : Nat), .int .u8 (d3 : Nat)] := by
    rw [hW1]
    exact (Row.new w _ 75).alloc _
  have hW1s : W1.heap.size = w.heap.size + 2 := by rw [hW1]; simp
  have HN := hide (putNumbers_at2 v l B (w.heap.size + 1) [49164, 1, 1, tl / 65536, tl, 4] W1 (h.below b1) (by omega) r1 (by omega) (by simp) (by simp; omega) hlb)
  have HW1 := hide hW1.symm
  have B1 := hide (b1.mono hB)
  have R0 := hide r0
  have HLB := hide hlb
  have HD := hide hd
  obtain ⟨xa, xc, rfl, xs, xb⟩ := own_src h hlb
  clear hW1 b1 r1 r0 hlb hd xs xb h
  go_enter Tryd.func38, Tryd.ntmps38
  go_wp2_with fail
  rw [HW1.out]
  refine HN.out.mono ?_
  rintro e w2 ⟨v2, rfl, o2, b2, k2⟩
  have r2 := k2 _ _ _ (by decide) R0.out
  have c0 : w2.cell? ⟨w.heap.size, 0, none⟩ = some (.int .u8 (d0 : Nat)) := r2.cell 0
  have c1 : w2.cell? ⟨w.heap.size, 1, none⟩ = some (.int .u8 (d1 : Nat)) := r2.cell 1
  have c2 : w2.cell? ⟨w.heap.size, 2, none⟩ = some (.int .u8 (d2 : Nat)) := r2.cell 2
  have c3 : w2.cell? ⟨w.heap.size, 3, none⟩ = some (.int .u8 (d3 : Nat)) := r2.cell 3
  have hl2 : (l ++ nums2 [49164, 1, 1, tl / 65536, tl, 4]).length ≤ 1012 := by rw [List.length_append, nums2_len]; simp; omega
  have hb2 : ∀ x ∈ l ++ nums2 [49164, 1, 1, tl / 65536, tl, 4], x < 256 := fun x hx => by
    rcases List.mem_append.1 hx with h | h
    · exact HLB.out x h
    · exact nums2_lt _ x h
  obtain ⟨ya, yc, rfl, ys, yb⟩ := own_src o2 hb2
  obtain ⟨v3, w3, ap3, o3, b3, u3⟩ := run_appN o2 [d0, d1, d2, d3] (by have := HD.out; unfold Ad.ok at this; simp at this ⊢; omega) (by simp at hl2 ⊢; omega) (by have := b2.size; omega)
  have HE : Hid (l ++ nums2 [49164, 1, 1, tl / 65536, tl, 4] ++ [d0, d1, d2, d3] = l ++ adr tl (d0, d1, d2, d3)) := by show _ = _; simp [adr]
  obtain ⟨L2, hL2⟩ : ∃ L2, L2 = (l ++ nums2 [49164, 1, 1, tl / 65536, tl, 4]).length := ⟨_, rfl⟩
  rw [← hL2] at ap3 ⊢
  have AP3 : Hid ((Builtin.append_ #[22, 22] 22 #[.slice ya L2 yc, .slice (some ⟨w2.heap.size, 0, none⟩) 4 4]).run Tryd.prog (w2.alloc (.cells #[.int .u8 (d0 : Nat), .int .u8 (d1 : Nat), .int .u8 (d2 : Nat), .int .u8 (d3 : Nat)] 5)) = .ok v3 w3) := ap3
  have O3 : Hid (Own w3 B 5 v3 (nums .u8 (l ++ adr tl (d0, d1, d2, d3)))) := by rw [HE.out] at o3; exact o3
  have B3 : Hid (Below B w w3) := (B1.out.trans b2).trans b3
  have hlt := r2.lt
  clear ys yb o2 b2 k2 r2 hl2 hb2 hL2 ap3 o3 b3 u3 HN HE
  go_wp2_with (first
    | (refine wpList_app_run _ rfl _ _ 22 22 rfl (.slice ya L2 yc) (.slice (some ⟨w2.heap.size, 0, none⟩) 4 4) rfl rfl AP3.out ?_))
  go_ret
  exact ⟨_, rfl, O3.out, B3.out⟩
end Go.Proofs.YtelfikbahcckaaaDoor
