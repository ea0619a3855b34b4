/-
  New, Clone and Held of package slab, and all its calls at a slab that no call made; conditions as each theorem has them.
-/
import Derived.Test.YtnikjcinleghbaaDoorD
set_option linter.unusedSimpArgs false
set_option linter.unusedVariables false
namespace Go.Proofs.YtnikjcinleghbaaDoor
open Go.RowKit

set_option maxHeartbeats 1000000 in
theorem new_bad (b s : Int) (w : World) (h : b < 0 ∨ 4096 < b ∨ s < 0 ∨ 65536 < s) :
    Calls Tryd.prog 8 #[.int .i64 b, .int .i64 s] w fun e w' => e = .returned (.tuple #[.pointer none, .int .i64 2]) ∧ w = w' := by
  by_cases h1 : b < 0
  · go_enter Tryd.func8, Tryd.ntmps8
    go_wp2
    go_ret2
    exact ⟨rfl, rfl⟩
  · by_cases h2 : 4096 < b
    · go_enter Tryd.func8, Tryd.ntmps8
      go_wp2
      go_ret2
      exact ⟨rfl, rfl⟩
    · by_cases h3 : s < 0
      · go_enter Tryd.func8, Tryd.ntmps8
        go_wp2
        go_ret2
        exact ⟨rfl, rfl⟩
      · have h4 : 65536 < s := by omega
        go_enter Tryd.func8, Tryd.ntmps8
        go_wp2
        go_ret2
        exact ⟨rfl, rfl⟩

set_option maxHeartbeats 1000000 in
theorem new_great (b s N : Nat) (w : World) (hb : b ≤ 4096) (hs : s ≤ 65536) (hN : (b : Int) * s = N) (hg : 4194304 < N) (hg1 : N ≤ 268435456) :
    Calls Tryd.prog 8 #[.int .i64 b, .int .i64 s] w fun e w' => e = .returned (.tuple #[.pointer none, .int .i64 2]) ∧ w = w' := by
  go_enter Tryd.func8, Tryd.ntmps8
  go_wp2
  go_ret2
  exact ⟨rfl, rfl⟩

theorem zero59 (w : World) : (zeroValue 59).run Tryd.prog w = .ok (.agg #[.bool false, .int .i64 0, .int .i64 0, .int .u64 0, .int .u64 0, .int .u64 0, .int .u64 0, .int .u64 0, .int .u64 0, .int .u64 0, .int .u64 0, .int .u64 0, .int .u64 0, .int .u64 0, .int .u64 0, .int .u64 0, .int .u64 0, .int .u64 0, .int .u64 0, .int .u64 0, .int .u64 0, .int .u64 0, .int .u64 0, .int .u64 0, .int .u64 0, .int .u64 0, .int .u64 0, .int .u64 0, .int .u64 0, .int .u64 0, .int .u64 0, .int .u64 0, .int .u64 0, .int .u64 0, .int .u64 0, .int .u64 0, .int .u64 0, .int .u64 0, .int .u64 0, .int .u64 0, .int .u64 0, .int .u64 0, .int .u64 0, .int .u64 0, .int .u64 0, .int .u64 0, .int .u64 0, .int .u64 0, .int .u64 0, .int .u64 0, .int .u64 0, .int .u64 0, .int .u64 0, .int .u64 0, .int .u64 0, .int .u64 0, .int .u64 0, .int .u64 0, .int .u64 0, .int .u64 0, .int .u64 0, .int .u64 0, .int .u64 0, .int .u64 0, .int .u64 0, .int .u64 0, .int .u64 0, .slice none 0 0]) w := by kernel_rfl

set_option maxRecDepth 100000 in
set_option maxHeartbeats 4000000 in
theorem new_good (bl sz : Nat) (w : World) (hb : bl ≤ 4096) (hs : sz ≤ 65536) (hz : bl * sz ≤ 4194304) (hT : Tab w) :
    Calls Tryd.prog 8 #[.int .i64 bl, .int .i64 sz] w fun e w' => e = .returned (.tuple #[.pointer (some ⟨w.heap.size + 1, 0, none⟩), .int .i64 0]) ∧ IsSlab w' (w.heap.size + 1) w.heap.size bl sz (allFree bl) (zeros (bl * sz)) ∧ Below w.heap.size w w' := by
  obtain ⟨N, hN⟩ : ∃ N, N = bl * sz := ⟨_, rfl⟩
  have hI : (bl : Int) * sz = N := by rw [hN]; simp
  have HN := hide hN
  have hz' : N ≤ 4194304 := by omega
  have hmk := run_make0 N hz'
  have hz59 := zero59
  have HT := hide hT
  have hpos := hT.pos
  clear hT hz hN
  go_enter Tryd.func8, Tryd.ntmps8
  go_wp2_with fail
  clear hz59 hmk
  have HH0 : Hid (∀ W : World, ((W.alloc (.cells (vals (zeros N)).toArray 5)).alloc (hdr bl sz (List.replicate 64 0) W.heap.size)).heap[W.heap.size + 1]? = some (hdr bl sz (List.replicate 64 0) W.heap.size)) := fun W => alloc_new2 W _ _
  go_loopw [35] (fun i wr => ∃ j : Nat, j ≤ bl ∧ i = .int .i64 j ∧ Hid (∃ ws, wr.heap[w.heap.size + 1]? = some (hdr bl sz ws w.heap.size) ∧ Frees ws (allFree j)) ∧ Hid (wr.heap[w.heap.size]? = some (.cells (vals (zeros N)).toArray 5)) ∧ Hid (Below w.heap.size w wr)) (fun i _ => bl - (intOf i).toNat)
  case atStart =>
    refine ⟨0, by omega, rfl, ⟨List.replicate 64 0, ?_, frees_none⟩, alloc_old _ (alloc_new _ _), ((Below.refl w.heap.size w).alloc (Nat.le_refl _) _).alloc (by simp) _⟩
    have := HH0.out w
    unfold hdr at this ⊢
    rw [← HN.out] at this ⊢
    exact this
  case round =>
    obtain ⟨j, hj, rfl, HM, HA, HB⟩ := hrel
    by_cases h1 : j < bl
    · obtain ⟨ws, hm, hf⟩ := HM.out
      have HM2 := hide hm
      have HF := hide hf
      clear hm hf HM
      go_wp2_with fail
      refine (add_at (w.heap.size + 1) bl sz w.heap.size j ws wr (by omega) HM2.out HF.out.len HF.out.lt).mono ?_
      rintro e w2 ⟨rfl, hh, hk2⟩
      have HH := hide hh
      have HK2 := hide hk2
      clear hh hk2
      go_wp2_with fail
      go_roundw
      case rel => exact ⟨j + 1, by omega, by go_num, ⟨_, HH.out, HF.out.more (by omega)⟩, HK2.out.at_ HA.out (by omega) (by omega), HB.out.trans (HK2.out.below (by omega) (by omega) HB.out.size)⟩
      case measure => simp [intOf]; omega
    · obtain rfl : j = bl := by omega
      go_wp2_with fail
      go_ret2
      obtain ⟨ws, hm, hf⟩ := HM.out
      refine ⟨rfl, ⟨⟨ws, hm, hf⟩, by rw [← HN.out]; exact HA.out, by omega, by omega, hpos, HT.out.keep (HB.out.block 0 hpos), by simp [allFree], by rw [zeros_length], hb, hs, by rw [← HN.out]; exact hz', fun k _ _ i _ => zeros_getD _ _, zeros_byte _⟩, HB.out⟩

end Go.Proofs.YtnikjcinleghbaaDoor
