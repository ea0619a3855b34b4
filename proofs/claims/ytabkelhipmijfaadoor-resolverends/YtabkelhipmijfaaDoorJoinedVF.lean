/-
  New and Clone of package names; Used of package names; conditions as each theorem has them.
-/
import Derived.Test.YtabkelhipmijfaaDoorVE
set_option linter.unusedSimpArgs false
set_option linter.unusedVariables false
namespace Go.Proofs.YtabkelhipmijfaaDoor.Nm
open Go.RowKit
theorem made_flat (n : Nat) : madeCells (slC zeroS).toArray (n * 67) = (flat (List.replicate n zeroS)).toArray := by
  apply Array.ext
  · rw [size_madeCells]; rw [List.size_toArray, flat_length (new_ok n)]; simp; omega
  · intro i h1 h2
    rw [size_madeCells] at h1
    have hq : (List.replicate n zeroS)[i / 67]? = some zeroS := by rw [List.getElem?_replicate, if_pos (by omega)]
    have hf := flat_at (new_ok n) (i / 67) zeroS hq (i % 67) (by omega)
    rw [show i / 67 * 67 + i % 67 = i by omega] at hf
    have hz : (slC zeroS).toArray.size = 67 := by simp [slC_length zeroS_ok]
    have e1 : (madeCells (slC zeroS).toArray (n * 67))[i] = (slC zeroS).toArray[i % 67]! := by
      simp only [madeCells, Array.getElem_map, Array.getElem_range]
      rw [hz]
    have e2 : (flat (List.replicate n zeroS)).toArray[i]? = some ((slC zeroS).toArray[i % 67]!) := by
      simp only [List.getElem?_toArray]
      rw [hf]
      have hlt : i % 67 < (slC zeroS).length := by rw [slC_length zeroS_ok]; omega
      rw [List.getElem?_eq_getElem hlt]
      simp [hlt]
    rw [Array.getElem?_eq_getElem h2] at e2
    rw [e1]
    exact (Option.some.inj e2).symm
theorem info64a : (Tryd.prog.info? 73).map (fun i => (i.zero, i.size, i.bytes)) = some (some (.agg (slC zeroS).toArray), 67, 96) := by kernel_rfl
/-- 'make([]slot, n)'. -/
theorem run_make0 (n : Nat) (hn : n ≤ 4096) (w : World) : (Instr.makeSlice 62 (.int .i64 n) (.int .i64 n)).run Tryd.prog w = .ok (.slice (some ⟨w.heap.size, 0, none⟩) n n) (w.alloc (.cells (flat (List.replicate n zeroS)).toArray 73)) := by
  obtain ⟨i, hi, hzz⟩ := Option.map_eq_some_iff.1 info64a
  simp only [Prod.mk.injEq] at hzz
  obtain ⟨hz, hs, hb⟩ := hzz
  have := run_make (P := Tryd.prog) w 62 73 i (.agg (slC zeroS).toArray) Tryd.underlying62 hi hz .i64 .i64 n n (by omega) (Int.le_refl _) (by rw [hb]; omega) (by omega)
  rw [this, hs, Int.toNat_natCast, show (Value.agg (slC zeroS).toArray).cells = (slC zeroS).toArray from rfl, made_flat]
set_option maxHeartbeats 400000 in
theorem new_bad (b : Int) (w : World) (h : b < 0 ∨ 4096 < b) :
    Calls Tryd.prog 11 #[.int .i64 b] w fun e w' => e = .returned (.tuple #[.pointer none, .int .i64 2]) ∧ w = w' := by
  by_cases h1 : b < 0
  · go_enter Tryd.func11, Tryd.ntmps11
    go_wp2
    go_ret2
    exact ⟨rfl, rfl⟩
  · have h4 : 4096 < b := by omega
    go_enter Tryd.func11, Tryd.ntmps11
    go_wp2
    go_ret2
    exact ⟨rfl, rfl⟩
set_option maxHeartbeats 1000000 in
theorem new_good (n : Nat) (w : World) (hn : n ≤ 4096) :
    Calls Tryd.prog 11 #[.int .i64 n] w fun e w' => e = .returned (.tuple #[.pointer (some ⟨w.heap.size + 1, 0, none⟩), .int .i64 0]) ∧ IsTab w' (w.heap.size + 1) w.heap.size (List.replicate n zeroS) ∧ Below w.heap.size w w' := by
  have hmk := run_make0 n hn
  obtain ⟨C, hC⟩ : ∃ C, C = (flat (List.replicate n zeroS)).toArray := ⟨_, rfl⟩
  rw [← hC] at hmk
  have HC := hide hC
  clear hC
  go_enter Tryd.func11, Tryd.ntmps11
  go_wp2_with fail
  go_ret2
  refine ⟨rfl, ⟨?_, ?_, by omega, by simp; omega, new_ok n⟩, ((Below.refl w.heap.size w).alloc (Nat.le_refl _) _).alloc (by simp) _⟩
  · rw [List.length_replicate]
    exact alloc_new2 _ _ _
  · show _ = _
    rw [← HC.out]
    exact alloc_old _ (alloc_new _ _)
theorem info51 : (Tryd.prog.info? 73).map (·.size) = some 67 := info64
/-- 'copy' of all slots. -/
theorem run_copyS (w : World) (ty : TypeId) (g s n : Nat) (cur L : List Sl) (hn : L.length = n) (hl : cur.length = n) (hk : okL cur) (ho : okL L) (hg : Row w g cur) (hs : Row w s L) :
    (Builtin.copy_ #[62, 62] ty #[.slice (some ⟨g, 0, none⟩) n n, .slice (some ⟨s, 0, none⟩) n n]).run Tryd.prog w = .ok (goInt n) (w.setRow g (flat L).toArray) := by
  subst hn
  obtain ⟨i, hi, hz⟩ := Option.map_eq_some_iff.1 info64
  have hload := run_loadCells_list (P := Tryd.prog) w ⟨s, 0, none⟩ (flat L) (fun j v hv => by
    rw [add_none, Nat.zero_add]
    unfold Row at hs
    simp [World.cell?, hs, hv])
  have hst := run_storeCells_at Tryd.prog g 0 73 (flat L) 0 (flat cur).toArray w hg (by simp [flat_length ho, flat_length hk, hl]) (flat_one L)
  have e1 : L.length * 67 = (flat L).length := by rw [flat_length ho]; omega
  have e2 : (List.take (0 + 0) (flat cur).toArray.toList ++ flat L ++ List.drop (0 + 0 + (flat L).length) (flat cur).toArray.toList) = flat L := by
    simp [flat_length ho, flat_length hk, hl]
  rw [e2] at hst
  simp [Builtin.copy_, run_underlying Tryd.underlying62, Builtin.lenOf, Builtin.firstCells, sizeOf, typeInfo, hi, hz, e1, hload, hst]
end Go.Proofs.YtabkelhipmijfaaDoor.Nm

set_option linter.unusedSimpArgs false
set_option linter.unusedVariables false
namespace Go.Proofs.YtabkelhipmijfaaDoor.Nm
open Go.RowKit
theorem IsTab.cells {w : World} {r g : Nat} {L : List Sl} (h : IsTab w r g L) : w.cell? ⟨r, 0, none⟩ = some (.bool true) ∧ w.cell? ⟨r, 1, none⟩ = some (.slice (some ⟨g, 0, none⟩) L.length L.length) := thd_cells h.head
theorem IsTab.alloc {w : World} {r g : Nat} {L : List Sl} (h : IsTab w r g L) (o : Obj) : IsTab (w.alloc o) r g L := h.belowS ((Below.refl _ _).alloc (Nat.le_refl _) _)
end Go.Proofs.YtabkelhipmijfaaDoor.Nm
