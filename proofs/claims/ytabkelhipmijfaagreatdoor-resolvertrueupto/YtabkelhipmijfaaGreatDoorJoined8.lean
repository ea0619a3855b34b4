/-
  New and Clone of package names; Used of package names; conditions as each theorem has them.
-/
import Derived.Test.YtabkelhipmijfaaGreatDoorVE
set_option linter.unusedSimpArgs false
set_option linter.unusedVariables false
namespace Go.Proofs.YtabkelhipmijfaaGreatDoor.Nm
open Go.RowKit
theorem made_flat (n : Nat) : madeCells (slC zeroS).toArray (n * 67) = (flat (List.replicate n zeroS)).toArray := by
  apply Array.ext
  · rw [size_madeCells]; rw [List.size_toArray, flat_length (new_ok n)]; simp; omega
  · intro i h1 h2
    rw [size_madeCells] at h1
    have hq : (List.replicate n zeroS)[i / 67]? = some zeroS := by rw [List.getElem?_replicate, if_pos (by omega)]
    have hf := flat_at (new_ok n) (i / 67) zeroS hq (i % 67) (by omega)
    rw [show i / 67 * 67 + i % 67 = i by omega] at hf
    have hz : (slC zeroS).toArray.size = 67 := by simp [slC_length zeroS_ok]
    have e1 : (madeCells (slC zeroS).toArray (n * 67))[i] = (slC zeroS).toArray[i % 67]! := by
      simp only [madeCells, Array.getElem_map, Array.getElem_range]
      rw [hz]
    have e2 : (flat (List.replicate n zeroS)).toArray[i]? = some ((slC zeroS).toArray[i % 67]!) := by
      simp only [List.getElem?_toArray]
      rw [hf]
      have hlt : i % 67 < (slC zeroS).length := by rw [slC_length zeroS_ok]; omega
      rw [List.getElem?_eq_getElem hlt]
      simp [hlt]
    rw [Array.getElem?_eq_getElem h2] at e2
    rw [e1]
    exact (Option.some.inj e2).symm
theorem info64a : (Tryz.prog.info? 125).map (fun i => (i.zero, i.size, i.bytes)) = some (some (.agg (slC zeroS).toArray), 67, 96) := by kernel_rfl
/-- 'make([]slot, n)'. -/
theorem run_make0 (n : Nat) (hn : n ≤ 4096) (w : World) : (Instr.makeSlice 117 (.int .i64 n) (.int .i64 n)).run Tryz.prog w = .ok (.slice (some ⟨w.heap.size, 0, none⟩) n n) (w.alloc (.cells (flat (List.replicate n zeroS)).toArray 125)) := by
  obtain ⟨i, hi, hzz⟩ := Option.map_eq_some_iff.1 info64a
  simp only [Prod.mk.injEq] at hzz
  obtain ⟨hz, hs, hb⟩ := hzz
  have := run_make (P := Tryz.prog) w 117 125 i (.agg (slC zeroS).toArray) Tryz.underlying117 hi hz .i64 .i64 n n (by omega) (Int.le_refl _) (by rw [hb]; omega) (by omega)
  rw [this, hs, Int.toNat_natCast, show (Value.agg (slC zeroS).toArray).cells = (slC zeroS).toArray from rfl, made_flat]
set_option maxHeartbeats 400000 in
theorem new_bad (b : Int) (w : World) (h : b < 0 ∨ 4096 < b) :
    Calls Tryz.prog 28 #[.int .i64 b] w fun e w' => e = .returned (.tuple #[.pointer none, .int .i64 2]) ∧ w = w' := by
  by_cases h1 : b < 0
  · go_enter Tryz.func28, Tryz.ntmps28
    go_wp2
    go_ret2
    exact ⟨rfl, rfl⟩
  · have h4 : 4096 < b := by omega
    go_enter Tryz.func28, Tryz.ntmps28
    go_wp2
    go_ret2
    exact ⟨rfl, rfl⟩
set_option maxHeartbeats 1000000 in
theorem new_good (n : Nat) (w : World) (hn : n ≤ 4096) :
    Calls Tryz.prog 28 #[.int .i64 n] w fun e w' => e = .returned (.tuple #[.pointer (some ⟨w.heap.size + 1, 0, none⟩), .int .i64 0]) ∧ IsTab w' (w.heap.size + 1) w.heap.size (List.replicate n zeroS) ∧ Below w.heap.size w w' := by
  have hmk := run_make0 n hn
  obtain ⟨C, hC⟩ : ∃ C, C = (flat (List.replicate n zeroS)).toArray := ⟨_, rfl⟩
  rw [← hC] at hmk
  have HC := hide hC
  clear hC
  go_enter Tryz.func28, Tryz.ntmps28
  go_wp2_with fail
  go_ret2
  refine ⟨rfl, ⟨?_, ?_, by omega, by simp; omega, new_ok n⟩, ((Below.refl w.heap.size w).alloc (Nat.le_refl _) _).alloc (by simp) _⟩
  · rw [List.length_replicate]
    exact alloc_new2 _ _ _
  · show _ = _
    rw [← HC.out]
    exact alloc_old _ (alloc_new _ _)
theorem info51 : (Tryz.prog.info? 125).map (·.size) = some 67 := info64
/-- 'copy' of all slots. -/
theorem run_copyS (w : World) (ty : TypeId) (g s n : Nat) (cur L : List Sl) (hn : L.length = n) (hl : cur.length = n) (hk : okL cur) (ho : okL L) (hg : Row w g cur) (hs : Row w s L) :
    (Builtin.copy_ #[117, 117] ty #[.slice (some ⟨g, 0, none⟩) n n, .slice (some ⟨s, 0, none⟩) n n]).run Tryz.prog w = .ok (goInt n) (w.setRow g (flat L).toArray) := by
  subst hn
  obtain ⟨i, hi, hz⟩ := Option.map_eq_some_iff.1 info64
  have hload := run_loadCells_list (P := Tryz.prog) w ⟨s, 0, none⟩ (flat L) (fun j v hv => by
    rw [add_none, Nat.zero_add]
    unfold Row at hs
    simp [World.cell?, hs, hv])
  have hst := run_storeCells_at Tryz.prog g 0 125 (flat L) 0 (flat cur).toArray w hg (by simp [flat_length ho, flat_length hk, hl]) (flat_one L)
  have e1 : L.length * 67 = (flat L).length := by rw [flat_length ho]; omega
  have e2 : (List.take (0 + 0) (flat cur).toArray.toList ++ flat L ++ List.drop (0 + 0 + (flat L).length) (flat cur).toArray.toList) = flat L := by
    simp [flat_length ho, flat_length hk, hl]
  rw [e2] at hst
  simp [Builtin.copy_, run_underlying Tryz.underlying117, Builtin.lenOf, Builtin.firstCells, sizeOf, typeInfo, hi, hz, e1, hload, hst]
set_option maxHeartbeats 1000000 in
theorem cloneT_at (r g : Nat) (L : List Sl) (w : World) (h : IsTab w r g L) :
    Calls Tryz.prog 50 #[.pointer (some ⟨r, 0, none⟩)] w fun e w' => e = .returned (.pointer (some ⟨w.heap.size + 1, 0, none⟩)) ∧ IsTab w' (w.heap.size + 1) w.heap.size L ∧ Below w.heap.size w w' := by
  obtain ⟨c0, c1⟩ := thd_cells h.head
  obtain ⟨N, hN⟩ : ∃ N, N = L.length := ⟨_, rfl⟩
  have hl := h.lt
  have hm := h.max
  rw [← hN] at c1 hm
  have hmk := run_make0 N hm
  obtain ⟨C, hC⟩ : ∃ C, C = (flat (List.replicate N zeroS)).toArray := ⟨_, rfl⟩
  obtain ⟨D, hD⟩ : ∃ D, D = (flat L).toArray := ⟨_, rfl⟩
  have hcp := run_copyS ((w.alloc (.cells (flat (List.replicate N zeroS)).toArray 125)).alloc (thd N w.heap.size)).drew 3 w.heap.size g N (List.replicate N zeroS) L hN.symm (by simp) (new_ok N) h.ok (alloc_old _ (alloc_new _ _)) (alloc_old _ (alloc_old _ h.row))
  unfold thd at hcp
  rw [← hC] at hcp hmk
  rw [← hD] at hcp
  have HF : Hid (((((w.alloc (.cells C 125)).alloc (thd N w.heap.size)).drew).setRow w.heap.size D).heap[w.heap.size]? = some (.cells D 125)) := Go.setRow_heap _ _ C _ 125 (0, 0) (alloc_old _ (alloc_new _ _))
  have H := hide h
  have HN := hide hN
  have HC := hide hC
  have HD := hide hD
  clear h hN hC hD
  go_enter Tryz.func50, Tryz.ntmps50
  go_wp2_with fail
  refine (isMade_at r true _ c0).mono ?_
  rintro x w1 ⟨rfl, rfl⟩
  go_wp2_with fail
  go_region
  all_goals
    clear hcp
    go_wp2
    go_ret
    refine ⟨rfl, ⟨?_, ?_, by omega, H.out.max, H.out.ok⟩, Go.below_setRow ((((Below.refl w.heap.size w).alloc (Nat.le_refl _) _).alloc (by simp) _).drew) (Nat.le_refl _) _⟩
    · rw [setRow_other _ _ _ _ (by omega), ← HN.out]
      exact alloc_new2 _ _ _
    · show _ = _
      rw [← HD.out]
      exact HF.out
end Go.Proofs.YtabkelhipmijfaaGreatDoor.Nm

set_option linter.unusedSimpArgs false
set_option linter.unusedVariables false
namespace Go.Proofs.YtabkelhipmijfaaGreatDoor.Nm
open Go.RowKit
theorem IsTab.cells {w : World} {r g : Nat} {L : List Sl} (h : IsTab w r g L) : w.cell? ⟨r, 0, none⟩ = some (.bool true) ∧ w.cell? ⟨r, 1, none⟩ = some (.slice (some ⟨g, 0, none⟩) L.length L.length) := thd_cells h.head
theorem IsTab.alloc {w : World} {r g : Nat} {L : List Sl} (h : IsTab w r g L) (o : Obj) : IsTab (w.alloc o) r g L := h.belowS ((Below.refl _ _).alloc (Nat.le_refl _) _)
set_option maxHeartbeats 1000000 in
theorem used_at (r g : Nat) (L : List Sl) (now : Int) (w : World) (h : IsTab w r g L) :
    Calls Tryz.prog 53 #[.pointer (some ⟨r, 0, none⟩), .int .i64 now] w fun x w' => x = .returned (.int .i64 (used L now : Nat)) ∧ Below w.heap.size w w' := by
  obtain ⟨c0, c1⟩ := h.cells
  obtain ⟨hlr, hlg⟩ := h.lt
  have HI := hide (isNow_at now w)
  have HM := hide (isMade_at r true _ c0)
  obtain ⟨N, hN⟩ : ∃ N, N = L.length := ⟨_, rfl⟩
  rw [← hN] at c1
  by_cases hb : badNow now
  · have HU : Hid (used L now = 0) := by show _ = _; unfold used; rw [if_pos hb]
    rw [show decide (¬ badNow now) = false by simp [hb]] at HI
    clear h hb c0 c1 hN
    go_enter Tryz.func53, Tryz.ntmps53
    go_wp2_with fail
    refine HM.out.mono ?_
    rintro e w1 ⟨rfl, rfl⟩
    go_wp2_with fail
    refine HI.out.mono ?_
    rintro e w1 ⟨rfl, rfl⟩
    go_wp2_with fail
    go_ret
    exact ⟨by rw [HU.out]; rfl, Below.refl _ _⟩
  · have HU : Hid (used L now = cnt L now N) := by show _ = _; unfold used; rw [if_neg hb, ← hN]
    rw [show decide (¬ badNow now) = true by simp [hb]] at HI
    have b1 : Below w.heap.size w (w.alloc (boxI now)) := (Below.refl _ _).alloc (Nat.le_refl _) _
    have HC : Hid (∀ n, Calls Tryz.prog 80 #[.slice (some ⟨g, 0, none⟩) N N, .func (.func 104) #[] #[.pointer (some ⟨w.heap.size, 0, none⟩)]] ((w.alloc (boxI now)).drewN n) fun e w' => e = .returned (.int .i64 (cnt L now N : Nat)) ∧ Below (w.heap.size + 1) (w.alloc (boxI now)) w') := fun n => by
      have := count_at g w.heap.size N L now ((w.alloc (boxI now)).drewN n) hN.symm (h.alloc _).row h.ok (by rw [hN]; exact h.max) (box_cell (alloc_new w _))
      refine this.mono ?_
      rintro e w' ⟨rfl, k⟩
      exact ⟨rfl, (below_drewN (Below.refl _ _) n).trans (k.mono (by simp))⟩
    have B1 := hide b1
    clear h hb c0 hN b1
    go_enter Tryz.func53, Tryz.ntmps53
    go_wp2_with fail
    refine HM.out.mono ?_
    rintro e w1 ⟨rfl, rfl⟩
    go_wp2_with fail
    refine HI.out.mono ?_
    rintro e w1 ⟨rfl, rfl⟩
    go_wp2_with fail
    go_region_with (first | (go_at_call 81; refine (holdsAt_at now _).mono ?_; rintro e w1 ⟨rfl, rfl⟩) | (go_at_call 80; refine (HC.out _).mono ?_; rintro e w2 ⟨rfl, k2⟩; have K2 := hide k2; clear k2))
    all_goals
      go_wp2_with fail
      go_ret
      exact ⟨by rw [HU.out]; rfl, by first | exact B1.out.trans (K2.out.mono (by omega)) | exact below_drewN (B1.out.trans (K2.out.mono (by omega))) _⟩
end Go.Proofs.YtabkelhipmijfaaGreatDoor.Nm
