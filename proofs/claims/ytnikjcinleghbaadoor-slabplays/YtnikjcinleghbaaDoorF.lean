/-
  Clone and Held of package slab, and all its calls at a slab that no call made; conditions as each theorem has them.
-/
import Derived.Test.YtnikjcinleghbaaDoorE
import Derived.Laws.Rows
import Derived.Laws.Tables
set_option linter.unusedSimpArgs false
set_option linter.unusedVariables false
namespace Go.Proofs.YtnikjcinleghbaaDoor
open Go.RowKit

/-- The cells of a slab. -/
def hcells (bl sz : Nat) (ws : List Nat) (g : Nat) : Array Value := ((Value.bool true :: .int .i64 bl :: .int .i64 sz :: (ws.map fun x => Value.int .u64 (x : Nat))) ++ [Value.slice (some ⟨g, 0, none⟩) (bl * sz) (bl * sz)]).toArray
theorem hdr_eq (bl sz : Nat) (ws : List Nat) (g : Nat) : hdr bl sz ws g = .cells (hcells bl sz ws g) 59 := rfl
theorem hcells_size (bl sz : Nat) (ws : List Nat) (g : Nat) (h : ws.length = 64) : (hcells bl sz ws g).size = 68 := by simp [hcells, h]

/-- A whole row is stored; the world behind it bears a name. -/
theorem wpList_store_rowW {P : Program} {ops : Array Oper} {rest : List Oper} {o : Oper} {a : Act} {w : World} {Q : Exit → Act → World → Prop} (hgd : o.guard = none) (ty : TypeId) (x y : Operand) (ho : o.op = .store ty x y)
    (g : Nat) (cells : Array Value) (hx : a.eval x = .pointer (some ⟨g, 0, none⟩)) (hy : a.eval y = .agg cells)
    (t : TypeId) (old : Array Value) (hg : w.heap[g]? = some (.cells old t (0, 0))) (hi : (P.info? ty).map (·.size) = some cells.size)
    (hold : old.size = cells.size) (h1 : cells.all (·.oneCell') = true) (W2 : World) (hW : W2 = w.setRow g cells)
    (h : wpList P ops Q rest (a.put o.dst undef) W2) : wpList P ops Q (o :: rest) a w :=
  wpList_store_row hgd ty x y ho g cells hx hy t old hg hi hold h1 (by rw [← hW]; exact h)

def zcells : Array Value := #[Value.bool false, .int .i64 0, .int .i64 0, .int .u64 0, .int .u64 0, .int .u64 0, .int .u64 0, .int .u64 0, .int .u64 0, .int .u64 0, .int .u64 0, .int .u64 0, .int .u64 0, .int .u64 0, .int .u64 0, .int .u64 0, .int .u64 0, .int .u64 0, .int .u64 0, .int .u64 0, .int .u64 0, .int .u64 0, .int .u64 0, .int .u64 0, .int .u64 0, .int .u64 0, .int .u64 0, .int .u64 0, .int .u64 0, .int .u64 0, .int .u64 0, .int .u64 0, .int .u64 0, .int .u64 0, .int .u64 0, .int .u64 0, .int .u64 0, .int .u64 0, .int .u64 0, .int .u64 0, .int .u64 0, .int .u64 0, .int .u64 0, .int .u64 0, .int .u64 0, .int .u64 0, .int .u64 0, .int .u64 0, .int .u64 0, .int .u64 0, .int .u64 0, .int .u64 0, .int .u64 0, .int .u64 0, .int .u64 0, .int .u64 0, .int .u64 0, .int .u64 0, .int .u64 0, .int .u64 0, .int .u64 0, .int .u64 0, .int .u64 0, .int .u64 0, .int .u64 0, .int .u64 0, .int .u64 0, .slice none 0 0]
theorem zcells_size : zcells.size = 68 := rfl
theorem info59 : (Tryd.prog.info? 59).map (·.size) = some 68 := by kernel_rfl
theorem hcells_one (bl sz : Nat) (ws : List Nat) (g : Nat) : (hcells bl sz ws g).all (·.oneCell') = true := by
  rw [Array.all_eq_true_iff_forall_mem]
  intro v hv
  simp [hcells] at hv
  rcases hv with rfl | rfl | rfl | ⟨x, _, rfl⟩ | rfl <;> rfl

theorem hdr_arena {w : World} {r bl sz g N : Nat} {ws : List Nat} (h : w.heap[r]? = some (hdr bl sz ws g)) (hl : ws.length = 64) (hN : N = bl * sz) (g' : Nat) : (w.setCell ⟨r, 67, none⟩ (.slice (some ⟨g', 0, none⟩) N N)).heap[r]? = some (hdr bl sz ws g') := by
  unfold hdr at h ⊢
  rw [heap_setCell_same h, hN]
  congr 2
  apply Array.ext'
  simp [List.set_append, hl]

set_option maxRecDepth 100000 in
set_option maxHeartbeats 4000000 in
theorem clone_at (r g bl sz : Nat) (hs : List Bool) (zs : List Int) (w : World) (h : IsSlab w r g bl sz hs zs) :
    Calls Tryd.prog 21 #[.pointer (some ⟨r, 0, none⟩)] w fun e w' => e = .returned (.pointer (some ⟨w.heap.size, 0, none⟩)) ∧ IsSlab w' w.heap.size (w.heap.size + 1) bl sz hs zs ∧ Below w.heap.size w w' := by
  obtain ⟨ws, h1, h2⟩ := h.mem
  obtain ⟨c0, c1, c2, c3, c4⟩ := hdr_cells h1 h2.len
  obtain ⟨N, hN⟩ : ∃ N, N = bl * sz := ⟨_, rfl⟩
  have hmk := run_make0 N (by rw [hN]; exact h.mz)
  obtain ⟨W2, hW2⟩ : ∃ W2, W2 = (w.alloc (.cells zcells 59)).setRow w.heap.size (hcells bl sz ws g) := ⟨_, rfl⟩
  have hb2 : W2.heap[w.heap.size]? = some (hdr bl sz ws g) := by rw [hW2, hdr_eq]; exact setRow_heap _ _ _ _ _ _ (alloc_new _ _)
  have hbel : Below w.heap.size w W2 := by rw [hW2]; exact below_setRow ((Below.refl w.heap.size w).alloc (Nat.le_refl _) _) (Nat.le_refl _) _
  have hsz2 : W2.heap.size = w.heap.size + 1 := by rw [hW2]; simp [World.setRow]
  have hrl := lt_of_some h1
  have hgl := lt_of_some h.arena
  have d4 : W2.cell? ⟨r, 67, none⟩ = some (.slice (some ⟨g, 0, none⟩) N N) := by rw [hN]; exact (hbel.cell (p := ⟨r, 67, none⟩) hrl).trans c4
  obtain ⟨e0, e1, e2, e3, e4⟩ := hdr_cells hb2 h2.len
  rw [← hN] at e4
  have hfz := hdr_frozen hb2 67
  have hfz2 := hdr_frozen (alloc_old (.cells (vals (zeros N)).toArray 5) hb2) 67
  have e4a : (W2.alloc (.cells (vals (zeros N)).toArray 5)).cell? ⟨w.heap.size, 67, none⟩ = some (.slice (some ⟨g, 0, none⟩) N N) := by
    rw [World.cell?_of_block (w := W2) (Below.heap_alloc _ _ _ (by show w.heap.size < W2.heap.size; omega))]; exact e4
  have hcp : ∀ W : World, W.heap[w.heap.size + 1]? = some (.cells (vals (zeros N)).toArray 5) → W.heap[g]? = some (.cells (vals zs).toArray 5) →
      (Builtin.copy_ #[30, 30] 3 #[.slice (some ⟨w.heap.size + 1, 0, none⟩) N N, .slice (some ⟨g, 0, none⟩) N N]).run Tryd.prog W = .ok (goInt N) (W.setRow (w.heap.size + 1) (vals zs).toArray) := by
    intro W hW1 hW2
    have hzl : zs.length = N := by rw [h.zlen, hN]
    have := run_copy_row (P := Tryd.prog) W 30 30 3 5 (w.heap.size + 1) 0 N N ⟨g, 0, none⟩ N N (vals (zeros N)).toArray 5 (vals zs) Tryd.underlying30 info5 hW1 (by rw [vals_length, hzl]; simp)
      (fun j v hv => by
        obtain ⟨hj, rfl⟩ := vals_at _ _ _ hv
        rw [add_none, Nat.zero_add]
        exact row_cell hW2 _ hj) (by rw [vals_length, hzl]; simp [vals, zeros]) (vals_one _)
    rw [this, vals_length, hzl]
    congr 2
    simp [vals, zeros, hzl]
  obtain ⟨W3, hW3⟩ : ∃ W3, W3 = W2.setCell ⟨w.heap.size, 67, none⟩ (.slice (some ⟨w.heap.size + 1, 0, none⟩) N N) := ⟨_, rfl⟩
  have hb3 : W3.heap[w.heap.size]? = some (hdr bl sz ws (w.heap.size + 1)) := by rw [hW3]; exact hdr_arena hb2 h2.len hN _
  have hbel3 : Below w.heap.size w W3 := by rw [hW3]; exact hbel.trans (((Kept.refl w.heap.size w.heap.size W2).set _ _).below (Nat.le_refl _) (Nat.le_refl _) (by omega))
  have hsz3 : W3.heap.size = w.heap.size + 1 := by rw [hW3]; simp [World.setCell, hsz2]
  have hnew : ((W3.alloc (.cells (vals (zeros N)).toArray 5)).drew).heap[w.heap.size + 1]? = some (.cells (vals (zeros N)).toArray 5) := by
    show (W3.alloc (.cells (vals (zeros N)).toArray 5)).heap[w.heap.size + 1]? = _
    have := alloc_new W3 (.cells (vals (zeros N)).toArray 5)
    rwa [hsz3] at this
  have hold : ((W3.alloc (.cells (vals (zeros N)).toArray 5)).drew).heap[g]? = some (.cells (vals zs).toArray 5) := alloc_old _ ((hbel3.block g hgl).trans h.arena)
  have h6 := hcp ((W3.alloc (.cells (vals (zeros N)).toArray 5)).drew) hnew hold
  have hb3' : (W3.alloc (.cells (vals (zeros N)).toArray 5)).heap[w.heap.size]? = some (hdr bl sz ws (w.heap.size + 1)) := alloc_old _ hb3
  obtain ⟨_, _, _, _, f4⟩ := hdr_cells hb3' h2.len
  rw [← hN] at f4
  have f5 : (W3.alloc (.cells (vals (zeros N)).toArray 5)).cell? ⟨r, 67, none⟩ = some (.slice (some ⟨g, 0, none⟩) N N) := by
    rw [World.cell?_of_block (w := W3) (Below.heap_alloc _ _ _ (by show r < W3.heap.size; omega)), hN]
    exact (hbel3.cell (p := ⟨r, 67, none⟩) hrl).trans c4
  have HW3 := hide hW3
  have HB3 := hide hb3
  have HBel3 := hide hbel3
  clear hW3 hb3 hbel3 hb3'
  have hz59 := zero59
  have H1 := hide h1
  have H2 := hide h2
  have H := hide h
  have HN := hide hN
  have HW2 := hide hW2
  have HB2 := hide hb2
  have HBel := hide hbel
  have HNew := hide hnew
  clear h1 h2 h c1 c2 c3 hN hW2 hb2 hbel hcp hnew hold e0 e1 e2 e3 c4
  go_enter Tryd.func21, Tryd.ntmps21
  go_wp2_with fail
  refine (isMade_at r true _ c0).mono ?_
  rintro e w1 ⟨rfl, rfl⟩
  go_wp2_with (first
    | (refine wpList_load_row rfl 59 _ rfl r rfl 59 (hcells bl sz ws g) _ _ H1.out Tryd.underlying59 rfl ?_ ?_; (rw [hcells_size _ _ _ _ H2.out.len]; exact info59))
    | (refine wpList_store_rowW rfl 59 _ _ rfl w.heap.size (hcells bl sz ws g) rfl rfl 59 zcells (alloc_new _ _) ?_ ?_ (hcells_one _ _ _ _) W2 HW2.out ?_; (rw [hcells_size _ _ _ _ H2.out.len]; exact info59); (rw [hcells_size _ _ _ _ H2.out.len]; exact zcells_size)))
  rw [← HW3.out]
  clear hz59 hmk d4 e4 e4a hfz hfz2
  go_region
  clear h6 f4 f5
  go_wp2
  go_ret
  have hnew : (W3.alloc (.cells (vals (zeros N)).toArray 5)).drew.heap[w.heap.size + 1]? = some (.cells (vals (zeros N)).toArray 5) := HNew.out
  have hBf : Below w.heap.size w (((W3.alloc (.cells (vals (zeros N)).toArray 5)).drew).setRow (w.heap.size + 1) (vals zs).toArray) := below_setRow (HBel3.out.alloc (by omega) _).drew (by omega) _
  refine ⟨rfl, { H.out with mem := ⟨ws, ?_, H2.out⟩, arena := setRow_heap _ _ _ _ _ _ hnew, ne := by omega, r0 := H.out.lt.2.2, g0 := by omega, tab := H.out.tab.keep (hBf.block 0 H.out.lt.2.2) }, hBf⟩
  rw [setRow_other _ _ _ _ (by omega)]
  exact alloc_old _ HB3.out

end Go.Proofs.YtnikjcinleghbaaDoor
