/-
  Used, New and Clone of package desc; conditions as each theorem has them.
-/
import Derived.Test.YthfkjephnhnpoaaD
set_option linter.unusedSimpArgs false
set_option linter.unusedVariables false
namespace Go.Proofs.Ythfkjephnhnpoaa
open Go.RowKit

/-- The handles of what is open among the first j entries. -/
def live (es : List En) : Nat → List (Nat × Nat)
  | 0 => []
  | j + 1 => match es[j]? with
    | some e => if e.st = 1 then live es j ++ [(j, e.gen)] else live es j
    | none => live es j
theorem live_open {es : List En} {j : Nat} {e : En} (he : es[j]? = some e) (hs : e.st = 1) : live es (j + 1) = live es j ++ [(j, e.gen)] := by
  simp only [live, he]; rw [if_pos hs]
theorem live_shut {es : List En} {j : Nat} {e : En} (he : es[j]? = some e) (hs : e.st ≠ 1) : live es (j + 1) = live es j := by
  simp only [live, he]; rw [if_neg hs]
theorem live_le (es : List En) : ∀ j, (live es j).length ≤ j
  | 0 => Nat.le_refl _
  | j + 1 => by
    have := live_le es j
    unfold live
    split
    · split
      · simp; omega
      · omega
    · omega

set_option maxHeartbeats 1000000 in
theorem used_at (r g : Nat) (es : List En) (w : World) (h : IsTab w r g es) :
    Calls Try.prog 18 #[.pointer (some ⟨r, 0, none⟩)] w fun x w' => x = .returned (.int .i64 ((live es es.length).length : Nat)) ∧ Below w.heap.size w w' := by
  obtain ⟨c0, c1⟩ := thd_cells h.head
  obtain ⟨N, hN⟩ : ∃ N, N = es.length := ⟨_, rfl⟩
  have hl := h.lt
  have hm := h.max
  rw [← hN] at c1 hm ⊢
  have H := hide h
  have HN := hide hN
  clear h hN
  go_enter Try.func18, Try.ntmps18
  go_wp2_with fail
  refine (isMade_at r true _ c0).mono ?_
  rintro x w1 ⟨rfl, rfl⟩
  go_wp2_with fail
  go_loopw [3, 14] (fun u v wr => ∃ j c : Nat, j ≤ N ∧ v = .int .i64 j ∧ u = .int .i64 c ∧ Hid (c = (live es j).length) ∧ Hid (Below w.heap.size w wr)) (fun _ v _ => N - (intOf v).toNat)
  case atStart => exact ⟨0, 0, Nat.zero_le _, rfl, rfl, rfl, Below.refl _ _⟩
  case round =>
    obtain ⟨j, c, hj, rfl, rfl, HC, HB⟩ := hrel
    by_cases hlt : j < N
    · obtain ⟨e, he⟩ := get_lt (show j < es.length by rw [← HN.out]; exact hlt)
      have hc : c ≤ 4096 := by have := live_le es j; have := HC.out; omega
      obtain ⟨d0, d1, d2, d3⟩ := (H.out.below HB.out hl.1 hl.2).row.cells he
      have HE := hide he
      clear he
      by_cases hs : e.st = 1
      · rw [hs] at d0
        have HS := hide hs
        clear hs
        go_wp2_with fail
        go_roundw
        case rel => exact ⟨j + 1, c + 1, by omega, by go_num, by go_num, by show c + 1 = _; rw [live_open HE.out HS.out, HC.out]; simp, HB.out.alloc HB.out.size _⟩
        case measure => simp [intOf]; omega
      · go_wp2_with fail
        go_roundw
        case rel => exact ⟨j + 1, c, by omega, by go_num, by go_num, by show c = _; rw [live_shut HE.out hs, HC.out], HB.out.alloc HB.out.size _⟩
        case measure => simp [intOf]; omega
    · obtain rfl : j = N := by omega
      go_wp2_with fail
      go_ret
      exact ⟨by rw [← HC.out]; rfl, HB.out⟩

def zeroE : En := ⟨0, 0, 0, 0⟩
def freshE : En := ⟨0, 1, 0, 0⟩
def zcells : Array Value := #[.int .u8 0, .int .i64 0, .int .i64 0, .int .i64 0]

theorem made_flat (n : Nat) : madeCells zcells (n * 4) = (flat (List.replicate n zeroE)).toArray := by
  apply Array.ext
  · rw [size_madeCells]; simp [flat_length]; omega
  · intro i h1 h2
    rw [size_madeCells] at h1
    have hq : (List.replicate n zeroE)[i / 4]? = some zeroE := by rw [List.getElem?_replicate, if_pos (by omega)]
    obtain ⟨f0, f1, f2, f3⟩ := flat_at _ _ _ hq
    have e1 : (madeCells zcells (n * 4))[i] = zcells[i % 4]! := by simp [madeCells, zcells]
    rw [e1]
    have e2 : (flat (List.replicate n zeroE)).toArray[i]? = some zcells[i % 4]! := by
      have h4 : i % 4 = 0 ∨ i % 4 = 1 ∨ i % 4 = 2 ∨ i % 4 = 3 := by omega
      rcases h4 with h4 | h4 | h4 | h4
      · rw [h4]; simp only [List.getElem?_toArray]; rw [show i = i / 4 * 4 by omega, f0]; rfl
      · rw [h4]; simp only [List.getElem?_toArray]; rw [show i = i / 4 * 4 + 1 by omega, f1]; rfl
      · rw [h4]; simp only [List.getElem?_toArray]; rw [show i = i / 4 * 4 + 2 by omega, f2]; rfl
      · rw [h4]; simp only [List.getElem?_toArray]; rw [show i = i / 4 * 4 + 3 by omega, f3]; rfl
    rw [Array.getElem?_eq_getElem h2] at e2
    exact (Option.some.inj e2).symm

theorem info58 : (Try.prog.info? 58).map (fun i => (i.zero, i.size, i.bytes)) = some (some (.agg zcells), 4, 32) := by kernel_rfl
theorem info58s : (Try.prog.info? 58).map (·.size) = some 4 := by kernel_rfl

/-- 'make([]entry, n)'. -/
theorem run_make0 (n : Nat) (hn : n ≤ 4096) (w : World) : (Instr.makeSlice 52 (.int .i64 n) (.int .i64 n)).run Try.prog w = .ok (.slice (some ⟨w.heap.size, 0, none⟩) n n) (w.alloc (.cells (flat (List.replicate n zeroE)).toArray 58)) := by
  obtain ⟨i, hi, hzz⟩ := Option.map_eq_some_iff.1 info58
  simp only [Prod.mk.injEq] at hzz
  obtain ⟨hz, hs, hb⟩ := hzz
  have := run_make (P := Try.prog) w 52 58 i (.agg zcells) Try.underlying52 hi hz .i64 .i64 n n (by omega) (Int.le_refl _) (by rw [hb]; omega) (by omega)
  rw [this, hs, Int.toNat_natCast, show (Value.agg zcells).cells = zcells from rfl, made_flat]

theorem fresh_set (n j : Nat) (h : j < n) : (List.replicate j freshE ++ List.replicate (n - j) zeroE).set j { zeroE with gen := 1 } = List.replicate (j + 1) freshE ++ List.replicate (n - (j + 1)) zeroE := by
  rw [List.set_append_right _ _ (by simp)]
  simp only [List.length_replicate, Nat.sub_self]
  rw [show n - j = (n - (j + 1)) + 1 by omega, List.replicate_succ, List.set_cons_zero, List.replicate_succ', List.append_assoc]
  rfl
theorem fresh_at (n j : Nat) (h : j < n) : (List.replicate j freshE ++ List.replicate (n - j) zeroE)[j]? = some zeroE := by
  rw [List.getElem?_append_right (by simp), List.length_replicate, Nat.sub_self, List.getElem?_replicate, if_pos (by omega)]

set_option maxHeartbeats 400000 in
theorem new_bad (b : Int) (w : World) (h : b < 0 ∨ 4096 < b) :
    Calls Try.prog 8 #[.int .i64 b] w fun e w' => e = .returned (.tuple #[.pointer none, .int .i64 2]) ∧ w = w' := by
  by_cases h1 : b < 0
  · go_enter Try.func8, Try.ntmps8
    go_wp2
    go_ret2
    exact ⟨rfl, rfl⟩
  · have h4 : 4096 < b := by omega
    go_enter Try.func8, Try.ntmps8
    go_wp2
    go_ret2
    exact ⟨rfl, rfl⟩

set_option maxHeartbeats 1000000 in
theorem new_good (n : Nat) (w : World) (hn : n ≤ 4096) :
    Calls Try.prog 8 #[.int .i64 n] w fun e w' => e = .returned (.tuple #[.pointer (some ⟨w.heap.size + 1, 0, none⟩), .int .i64 0]) ∧ IsTab w' (w.heap.size + 1) w.heap.size (List.replicate n freshE) ∧ Below w.heap.size w w' := by
  have hmk := run_make0 n hn
  go_enter Try.func8, Try.ntmps8
  go_wp2_with fail
  clear hmk
  go_loopw [21] (fun v wr => ∃ j : Nat, j ≤ n ∧ v = .int .i64 j ∧ Hid (wr.heap[w.heap.size + 1]? = some (thd n w.heap.size)) ∧ Hid (Row wr w.heap.size (List.replicate j freshE ++ List.replicate (n - j) zeroE)) ∧ Hid (Below w.heap.size w wr)) (fun v _ => n - (intOf v).toNat)
  case atStart =>
    exact ⟨0, Nat.zero_le _, rfl, alloc_new2 _ _ _, alloc_old _ (alloc_new _ _), ((Below.refl w.heap.size w).alloc (Nat.le_refl _) _).alloc (by simp) _⟩
  case round =>
    obtain ⟨j, hj, rfl, HH, HR, HB⟩ := hrel
    by_cases hlt : j < n
    · obtain ⟨c0, c1⟩ := thd_cells HH.out
      obtain ⟨d0, d1, d2, d3⟩ := HR.out.cells (fresh_at n j hlt)
      have f1 := HR.out.frozen (j * 4 + 1)
      go_wp2_with fail
      go_roundw
      case rel =>
        refine ⟨j + 1, by omega, by go_num, (Below.heap_setCell _ _ _ _ (by simp)).trans HH.out, ?_, HB.out.trans (((Kept.refl w.heap.size w.heap.size wr).set _ _).below (Nat.le_refl _) (Nat.le_refl _) HB.out.size)⟩
        have := HR.out.set1 (fresh_at n j hlt) 1
        rw [fresh_set n j hlt] at this
        exact this
      case measure => simp [intOf]; omega
    · obtain rfl : j = n := by omega
      go_wp2_with fail
      go_ret2
      have hr := HR.out
      rw [Nat.sub_self, List.replicate_zero, List.append_nil] at hr
      refine ⟨rfl, ⟨by rw [List.length_replicate]; exact HH.out, hr, by omega, by rw [List.length_replicate]; exact hn, fun i e he => ?_⟩, HB.out⟩
      rw [List.getElem?_replicate] at he
      split at he
      · simp at he; subst he; exact ⟨by decide, by decide, by decide, by decide⟩
      · cases he

end Go.Proofs.Ythfkjephnhnpoaa
