/-
  What package dns writes: numbers of two bytes; conditions as each theorem has them.
-/
import Derived.Test.YtelfikbahcckaaaDoorPA
set_option linter.unusedSimpArgs false
set_option linter.unusedVariables false
namespace Go.Proofs.YtelfikbahcckaaaDoor
open Go.RowKit

/-- A number of two bytes. -/
def num2 (n : Nat) : List Nat := [n / 256 % 256, n % 256]
def nums2 (l : List Nat) : List Nat := l.flatMap num2
theorem nums2_len (l : List Nat) : (nums2 l).length = 2 * l.length := by
  induction l with
  | nil => rfl
  | cons a l ih => simp [nums2, num2] at ih ⊢; omega
theorem num2_lt (n : Nat) : ∀ x ∈ num2 n, x < 256 := by simp [num2]; omega
theorem nums2_take (l : List Nat) (k : Nat) (h : k < l.length) : nums2 (l.take (k + 1)) = nums2 (l.take k) ++ num2 (l.getD k 0) := by
  rw [take_snoc l k h]; simp [nums2]
theorem Own.but {w w' : World} {B : Nat} {v u : Value} {xs : List Value} {C : List Value} {r : Nat} {ty : TypeId} (h : Own w B 5 v xs) (hr : Row w r ty C) (ht : ty ≠ 5) (k : But v w w') : Row w' r ty C :=
  hr.keep (k r hr.lt (fun e => by
    obtain ⟨_, cur, hh⟩ := h.block e
    unfold Row at hr
    rw [hh] at hr
    simp at hr
    exact ht hr.2.symm))
set_option maxRecDepth 100000 in
set_option maxHeartbeats 2000000 in
theorem putNumbers_at (v : Value) (l : List Nat) (B r : Nat) (zs : List Nat) (w : World) (h : Own w B 5 v (nums .u8 l)) (hB : B ≤ w.heap.size) (hr : Row w r 3 (nums .i64 zs)) (hl : l.length ≤ 10000) (hz : zs.length ≤ 100) (hzl : ∀ x ∈ zs, x < 4294967296) (hlb : ∀ x ∈ l, x < 256) :
    Calls Tryd.prog 55 #[v, .slice (some ⟨r, 0, none⟩) zs.length zs.length] w fun e w' => ∃ v', e = .returned v' ∧ Own w' B 5 v' (nums .u8 (l ++ nums2 zs)) ∧ Below B w w' := by
  have H := hide h
  have HR := hide hr
  have HZ := hide hzl
  have HLB := hide hlb
  clear h hr hzl hlb
  go_enter Tryd.func55, Tryd.ntmps55
  go_wp2_with fail
  go_loopw [0, 9] (fun x i wr => ∃ k : Nat, k ≤ zs.length ∧ i = .int .i64 k ∧ Hid (Own wr B 5 x (nums .u8 (l ++ nums2 (zs.take k))) ∧ Below B w wr ∧ Row wr r 3 (nums .i64 zs) ∧ B ≤ wr.heap.size)) (fun _ i _ => zs.length - (intOf i).toNat)
  case atStart => exact ⟨0, by omega, rfl, by simpa [nums2] using H.out, Below.refl _ _, HR.out, hB⟩
  case round =>
    obtain ⟨k, hk, rfl, HI⟩ := hrel
    by_cases hkn : k < zs.length
    · have hd : decide ((k : Int) < (zs.length : Int)) = true := decide_eq_true (by omega)
      have hd' : decide (k < zs.length) = true := decide_eq_true (by omega)
      obtain ⟨ow, bl, rw_, hBr⟩ := HI.out
      have hMl : (l ++ nums2 (zs.take k)).length ≤ 11000 := by rw [List.length_append, nums2_len, List.length_take]; omega
      have hMb : ∀ x ∈ l ++ nums2 (zs.take k), x < 256 := fun x hx => by
        rcases List.mem_append.1 hx with h | h
        · exact HLB.out x h
        · obtain ⟨y, _, hy⟩ := List.mem_flatMap.1 h; exact num2_lt y x hy
      have ck : wr.cell? ⟨r, k, none⟩ = some (.int .i64 (zs.getD k 0 : Nat)) := rw_.num0 hkn
      have hrl := rw_.lt
      have hz' := HZ.out (zs.getD k 0) (getD_mem hkn)
      have hnt := nums2_take zs k hkn
      obtain ⟨z, hz0⟩ : ∃ z, z = zs.getD k 0 := ⟨_, rfl⟩
      rw [← hz0] at ck hz' hnt
      obtain ⟨M, hM⟩ : ∃ M, M = l ++ nums2 (zs.take k) := ⟨_, rfl⟩
      rw [← hM] at ow hMl hMb
      have HM : Hid (l ++ nums2 (zs.take (k + 1)) = M ++ num2 z) := by show _ = _; rw [hnt, ← List.append_assoc, ← hM]
      obtain ⟨xa, xc, rfl, xs, xb⟩ := own_src ow hMb
      have hcell : (nums .u8 (num2 z)).toArray = #[.int .u8 ((z : Int) / 256 % 256), .int .u8 ((z : Int) % 256)] := by simp [nums, num2]
      obtain ⟨v4, w4, ap4, ow4, bl4, bu4⟩ := run_appN ow (num2 z) (num2_lt z) (by simp [num2]; omega) hBr
      rw [hcell] at ap4
      have AP4 : Hid ((Builtin.append_ #[22, 22] 22 #[.slice xa M.length xc, .slice (some ⟨wr.heap.size, 0, none⟩) 2 2]).run Tryd.prog (wr.alloc (.cells #[.int .u8 ((z : Int) / 256 % 256), .int .u8 ((z : Int) % 256)] 5)) = .ok v4 w4) := ap4
      have HI2 : Hid (Own w4 B 5 v4 (nums .u8 (l ++ nums2 (zs.take (k + 1)))) ∧ Below B w w4 ∧ Row w4 r 3 (nums .i64 zs) ∧ B ≤ w4.heap.size) := ⟨by rw [HM.out]; exact ow4, bl.trans bl4, ow.but (u := v4) rw_ (by decide) bu4, Nat.le_trans hBr bl4.size⟩
      clear ow bl rw_ xs xb ap4 ow4 bl4 bu4 hcell hM hz0 hMb hnt hMl HI HM
      go_wp2_with (first
        | (refine wpList_app_run _ rfl _ _ 22 22 rfl (.slice xa M.length xc) (.slice (some ⟨wr.heap.size, 0, none⟩) 2 2) rfl rfl AP4.out ?_))
      go_roundw
      case rel => exact ⟨k + 1, by omega, by go_num, HI2.out⟩
      case measure => simp [intOf]; omega
    · have hd : decide ((k : Int) < (zs.length : Int)) = false := decide_eq_false (by omega)
      have hd' : decide (k < zs.length) = false := decide_eq_false (by omega)
      obtain ⟨ow, bl, rw_, hBr⟩ := HI.out
      rw [List.take_of_length_le (by omega)] at ow
      have OW := hide ow
      have BL := hide bl
      clear ow bl rw_ HI
      go_wp2_with fail
      go_ret
      exact ⟨_, rfl, OW.out, BL.out⟩
end Go.Proofs.YtelfikbahcckaaaDoor
