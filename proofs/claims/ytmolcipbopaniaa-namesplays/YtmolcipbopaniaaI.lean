/-
  List of package names; conditions as each theorem has them.
-/
import Derived.Test.YtmolcipbopaniaaG
set_option linter.unusedSimpArgs false
set_option linter.unusedVariables false
namespace Go.Proofs.Ytmolcipbopaniaa
open Go.RowKit
/-- Texts as they lie in memory. -/
def rowT (l : List ByteArray) : List Value := l.map Value.string
theorem rowT_length (l : List ByteArray) : (rowT l).length = l.length := by simp [rowT]
theorem rowT_append (l m : List ByteArray) : rowT (l ++ m) = rowT l ++ rowT m := by simp [rowT]
theorem rowT_one (l : List ByteArray) : ∀ v ∈ rowT l, v.oneCell' = true := by
  intro v hv
  simp [rowT] at hv
  obtain ⟨t, _, rfl⟩ := hv
  rfl
def nms (L : List Sl) : List ByteArray := L.map (·.name)
theorem info9a : (Try.prog.info? 9).map (fun i => (i.zero, i.size, i.bytes)) = some (some (.string noN), 1, 16) := by kernel_rfl
theorem made_T (n : Nat) : madeCells #[.string noN] n = (rowT (List.replicate n noN)).toArray := by
  apply Array.ext
  · rw [size_madeCells]; simp [rowT]
  · intro i h1 h2
    rw [size_madeCells] at h1
    simp [madeCells, rowT, Nat.mod_one]
/-- 'make([]string, n)'. -/
theorem run_makeT (n : Nat) (hn : n ≤ 4096) (w : World) : (Instr.makeSlice 44 (.int .i64 n) (.int .i64 n)).run Try.prog w = .ok (.slice (some ⟨w.heap.size, 0, none⟩) n n) (w.alloc (.cells (rowT (List.replicate n noN)).toArray 9)) := by
  obtain ⟨i, hi, hzz⟩ := Option.map_eq_some_iff.1 info9a
  simp only [Prod.mk.injEq] at hzz
  obtain ⟨hz, hs, hb⟩ := hzz
  have := run_make (P := Try.prog) w 44 9 i (.string noN) Try.underlying44 hi hz .i64 .i64 n n (by omega) (Int.le_refl _) (by rw [hb]; omega) (by omega)
  rw [this, hs, Int.toNat_natCast, show (Value.string noN).cells = #[.string noN] from rfl, Nat.mul_one, made_T]
def half (L : List Sl) (j : Nat) : List ByteArray := nms (L.take j) ++ List.replicate (L.length - j) noN
theorem half_set {L : List Sl} {j : Nat} (hj : j < L.length) : (rowT (half L j)).set j (.string (at0 L j).name) = rowT (half L (j + 1)) := by
  unfold half rowT nms
  rw [List.map_append, List.set_append_right _ _ (by simp; omega)]
  simp only [List.length_map, List.length_take, Nat.min_eq_left (Nat.le_of_lt hj), Nat.sub_self]
  rw [show L.length - j = (L.length - (j + 1)) + 1 by omega, List.replicate_succ, List.map_cons, List.set_cons_zero]
  rw [show L.take (j + 1) = L.take j ++ [at0 L j] by rw [List.take_succ_eq_append_getElem hj]; simp [at0, hj]]
  simp only [List.map_append, List.map_cons, List.map_nil, List.append_assoc, List.singleton_append]
theorem half_length {L : List Sl} {j : Nat} (hj : j ≤ L.length) : (half L j).length = L.length := by unfold half nms; simp; omega
set_option maxRecDepth 100000 in
set_option maxHeartbeats 2000000 in
theorem listT_at (r g : Nat) (L : List Sl) (w : World) (h : IsTab w r g L) :
    Calls Try.prog 21 #[.pointer (some ⟨r, 0, none⟩)] w fun e w' => e = .returned (.slice (some ⟨w.heap.size, 0, none⟩) L.length L.length) ∧ w'.heap[w.heap.size]? = some (.cells (rowT (nms L)).toArray 9) ∧ Below w.heap.size w w' := by
  obtain ⟨c0, c1⟩ := h.cells
  obtain ⟨hlr, hlg⟩ := h.lt
  have hm := h.max
  have HM := hide (isMade_at r true _ c0)
  obtain ⟨N, hN⟩ : ∃ N, N = L.length := ⟨_, rfl⟩
  rw [← hN] at c1 hm ⊢
  have hmk := run_makeT N hm
  obtain ⟨C, hC⟩ : ∃ C, C = (rowT (List.replicate N noN)).toArray := ⟨_, rfl⟩
  rw [← hC] at hmk
  have HC := hide hC
  have H := hide h
  have HN := hide hN
  clear h hN hC c0
  go_enter Try.func21, Try.ntmps21
  go_wp2_with fail
  refine HM.out.mono ?_
  rintro e w1 ⟨rfl, rfl⟩
  go_wp2_with fail
  go_loopw [19] (fun v wr => ∃ j : Nat, j ≤ N ∧ v = .int .i64 j ∧ Hid (wr.heap[w.heap.size]? = some (.cells (rowT (half L j)).toArray 9)) ∧ Hid (Below w.heap.size w wr)) (fun v _ => N - (intOf v).toNat)
  case atStart =>
    refine ⟨0, Nat.zero_le _, rfl, ?_, ((Below.refl w.heap.size w).alloc (Nat.le_refl _) _)⟩
    have : half L 0 = List.replicate N noN := by rw [HN.out]; simp [half, nms]
    rw [this, ← HC.out]
    exact alloc_new _ _
  case round =>
    obtain ⟨j, hj, rfl, HR, HB⟩ := hrel
    by_cases hjn : j < N
    · have hd : decide ((j : Int) < (N : Int)) = true := decide_eq_true (by omega)
      have hjL : j < L.length := by rw [← HN.out]; exact hjn
      have ht := H.out.belowS HB.out
      obtain ⟨d0, d1, d2⟩ := ht.row.cells H.out.ok (get_at0 hjL)
      obtain ⟨e0, e1⟩ := ht.cells
      rw [← HN.out] at e1
      obtain ⟨x, hx⟩ : ∃ x, wr.cell? ⟨w.heap.size, j, none⟩ = some x := by
        have := HR.out
        simp only [World.cell?, this, List.getElem?_toArray]
        rw [List.getElem?_eq_getElem (by rw [rowT_length, half_length (Nat.le_of_lt hjL)]; exact hjL)]
        exact ⟨_, rfl⟩
      have hfz : wr.frozen? ⟨w.heap.size, j, none⟩ = false := by simp [World.frozen?, HR.out]
      have HR2 : Hid ((wr.setCell ⟨w.heap.size, j, none⟩ (.string (at0 L j).name)).heap[w.heap.size]? = some (.cells (rowT (half L (j + 1))).toArray 9)) := by
        show _ = _
        rw [heap_setCell_same HR.out, ← half_set hjL]
        simp
      have HB2 : Hid (Below w.heap.size w (wr.setCell ⟨w.heap.size, j, none⟩ (.string (at0 L j).name))) := HB.out.trans (((Kept.refl w.heap.size w.heap.size wr).set _ _).below (Nat.le_refl _) (Nat.le_refl _) HB.out.size)
      obtain ⟨nm, hnm⟩ : ∃ nm, nm = (at0 L j).name := ⟨_, rfl⟩
      rw [← hnm] at d0 HR2 HB2
      clear ht d1 d2 e0 hjL hnm
      go_wp2_with fail
      go_roundw
      case rel => exact ⟨j + 1, by omega, by go_num, HR2, HB2⟩
      case measure => simp [intOf]; omega
    · have hd : decide ((j : Int) < (N : Int)) = false := decide_eq_false (by omega)
      obtain rfl : j = N := by omega
      have HE : Hid (half L j = nms L) := by show _ = _; rw [HN.out]; simp [half]
      go_wp2_with fail
      go_ret
      refine ⟨rfl, ?_, HB.out⟩
      rw [← HE.out]
      exact HR.out
end Go.Proofs.Ytmolcipbopaniaa
