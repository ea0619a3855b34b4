/-
  The inner function read, and New and Clone, of package ring: what they answer and what they make; conditions as each theorem has them.
-/
import Derived.Test.YtjojhnkibgkleaaRC
import Derived.Deep.OwnRows
set_option linter.unusedSimpArgs false
set_option linter.unusedVariables false
set_option maxRecDepth 8000
namespace Go.Proofs.Ytjojhnkibgkleaa
open Go.RowKit

theorem info5' : (Try.prog.info? 5).map (fun i => (i.zero, i.size, i.bytes)) = some (some (.int .u8 0), 1, 1) := by kernel_rfl

def zeros (n : Nat) : List Int := List.replicate n 0
theorem zeros_length (n : Nat) : (zeros n).length = n := by simp [zeros]

/-- 'make([]byte, n)': a new block of n zeros. -/
theorem run_make0 (n : Nat) (hn : n ≤ 65536) (w : World) : (Instr.makeSlice 45 (.int .i64 n) (.int .i64 n)).run Try.prog w = .ok (.slice (some ⟨w.heap.size, 0, none⟩) n n) (w.alloc (.cells (vals (zeros n)).toArray 5)) := by
  have h := run_make_row' (P := Try.prog) 45 5 (.int .u8 0) 1 Try.underlying45 info5' rfl .i64 .i64 n (by omega) (by omega) w
  rw [h]
  have e : madeCells #[Value.int .u8 0] n = (vals (zeros n)).toArray := by
    rw [← Array.toList_inj, toList_madeCells_one]
    simp [vals, zeros]
  rw [e]

theorem splice_all (L cs : List Int) (h : cs.length = L.length) : splice L 0 cs = cs := by
  simp [splice, h]
theorem splice_two (L a b : List Int) (h : a.length + b.length = L.length) : splice (splice L 0 a) a.length b = a ++ b := by
  simp [splice, ← h]

theorem row_cell {w : World} {g : Nat} {zs : List Int} (hg : w.heap[g]? = some (.cells (vals zs).toArray 5)) (i : Nat) (hi : i < zs.length) : w.cell? ⟨g, i, none⟩ = some (.int .u8 (zs.getD i 0)) := by
  simp [World.cell?, hg, vals, List.getD, hi]
theorem alloc_new (w : World) (o : Obj) : (w.alloc o).heap[w.heap.size]? = some o := by
  show (w.heap.push o)[w.heap.size]? = _
  simp
theorem alloc_new2 (w : World) (o1 o2 : Obj) : ((w.alloc o1).alloc o2).heap[w.heap.size + 1]? = some o2 := by
  have := alloc_new (w.alloc o1) o2
  rwa [show (w.alloc o1).heap.size = w.heap.size + 1 by simp] at this
theorem alloc_old {w : World} {g : Nat} {x : Obj} (o : Obj) (h : w.heap[g]? = some x) : (w.alloc o).heap[g]? = some x := by
  rw [Below.heap_alloc _ _ _ (lt_of_some h)]; exact h
theorem Kept.below_new {w w' : World} {h : Nat} {B : Nat} (k : Kept h h w w') (hB : B ≤ h) (hs : B ≤ w.heap.size) : Below B w w' := k.below hB hB hs

set_option maxHeartbeats 1000000 in
theorem read_one (r g n p m : Nat) (zs : List Int) (w : World)
    (hc : w.cell? ⟨r, 4, none⟩ = some (.int .i64 p)) (hg : w.heap[g]? = some (.cells (vals zs).toArray 5)) (hz : zs.length = n) (hn : n ≤ 65536) (hp : p < n ∨ n = 0 ∧ p = 0) (hm : m ≤ n - p) :
    Calls Try.prog 90 #[.pointer (some ⟨r, 4, none⟩), .slice (some ⟨g, 0, none⟩) n n, .int .i64 m] w fun e w' => e = .returned (.slice (some ⟨w.heap.size, 0, none⟩) m m) ∧
      w'.heap[w.heap.size]? = some (.cells (vals ((zs.drop p).take m)).toArray 5) ∧ Below w.heap.size w w' := by
  have hmk := run_make0 m (by omega)
  have HG := hide hg
  clear hg
  go_enter Try.func90, Try.ntmps90
  go_wp2_with fail
  refine (pieces_one r 4 g n p m _ hc hp hn hm).mono ?_
  rintro e w1 ⟨rfl, k1, rfl⟩
  go_wp2_with fail
  obtain ⟨w2, hr, hg2, hk2⟩ := run_copy_seg (P := Try.prog) ((w.drewN k1).alloc (.cells (vals (zeros m)).toArray 5)) 45 45 3 5 Try.underlying45 info5 (some ⟨w.heap.size, 0, none⟩) (some ⟨g, p, none⟩) m m m (n - p) w.heap.size 0 (vals (zeros m)) 5 (alloc_new _ _) (vals ((zs.drop p).take m)) (by rw [vals_length, List.length_take, List.length_drop, hz]; simp; omega)
    (fun hpos => ⟨rfl, _, rfl, fun j v hv => by
      obtain ⟨hj, rfl⟩ := vals_at _ _ _ hv
      rw [List.length_take, List.length_drop] at hj
      rw [add_none, show ((zs.drop p).take m).getD j 0 = zs.getD (p + j) 0 by simp [List.getD, List.getElem?_take, show j < m by omega]]
      exact row_cell (alloc_old _ HG.out) _ (by omega)⟩) (by rw [vals_length, vals_length, List.length_take, List.length_drop, hz, zeros_length]; omega) (vals_one _)
  rw [vals_length, List.length_take, List.length_drop, hz, show min m (n - p) = m by omega] at hr
  rw [vals_splice, splice_all _ _ (by rw [List.length_take, List.length_drop, hz, zeros_length]; omega)] at hg2
  rw [hr]
  have HG2 := hide hg2
  have HK2 := hide (((below_drewN (Below.refl w.heap.size w) k1).alloc (Nat.le_refl _) (.cells (vals (zeros m)).toArray 5)).trans (hk2.below (B := w.heap.size) (Nat.le_refl _) (Nat.le_refl _) (by simp)))
  clear hg2 hk2 hr hmk
  go_wp2_with fail
  rw [run_copy_none (P := Try.prog) _ 45 45 3 5 _ none _ _ 0 0 Try.underlying45 info5 (by simp)]
  go_wp2_with fail
  go_ret
  exact ⟨rfl, HG2.out, HK2.out⟩

set_option maxHeartbeats 1000000 in
theorem read_two (r g n p m : Nat) (zs : List Int) (w : World)
    (hc : w.cell? ⟨r, 4, none⟩ = some (.int .i64 p)) (hg : w.heap[g]? = some (.cells (vals zs).toArray 5)) (hz : zs.length = n) (hn : n ≤ 65536) (hp : p < n) (hm : n - p < m) (hm1 : m ≤ n) :
    Calls Try.prog 90 #[.pointer (some ⟨r, 4, none⟩), .slice (some ⟨g, 0, none⟩) n n, .int .i64 m] w fun e w' => e = .returned (.slice (some ⟨w.heap.size, 0, none⟩) m m) ∧
      w'.heap[w.heap.size]? = some (.cells (vals (zs.drop p ++ zs.take (m - (n - p)))).toArray 5) ∧ Below w.heap.size w w' := by
  have hmk := run_make0 m (by omega)
  have HG := hide hg
  clear hg
  go_enter Try.func90, Try.ntmps90
  go_wp2_with fail
  refine (pieces_two r 4 g n p m _ hc hp hn hm hm1).mono ?_
  rintro e w1 ⟨rfl, k1, rfl⟩
  go_wp2_with fail
  obtain ⟨w2, hr, hg2, hk2⟩ := run_copy_seg (P := Try.prog) ((w.drewN k1).alloc (.cells (vals (zeros m)).toArray 5)) 45 45 3 5 Try.underlying45 info5 (some ⟨w.heap.size, 0, none⟩) (some ⟨g, p, none⟩) m m (n - p) (n - p) w.heap.size 0 (vals (zeros m)) 5 (alloc_new _ _) (vals (zs.drop p)) (by rw [vals_length, List.length_drop, hz]; show _ = min _ _; omega)
    (fun hpos => ⟨rfl, _, rfl, fun j v hv => by
      obtain ⟨hj, rfl⟩ := vals_at _ _ _ hv
      rw [List.length_drop] at hj
      rw [add_none, show (zs.drop p).getD j 0 = zs.getD (p + j) 0 by simp [List.getD]]
      exact row_cell (alloc_old _ HG.out) _ (by omega)⟩) (by rw [vals_length, vals_length, List.length_drop, hz, zeros_length]; omega) (vals_one _)
  rw [vals_length, List.length_drop, hz] at hr
  rw [vals_splice] at hg2
  rw [hr]
  have HG2 := hide hg2
  have HK2 := hide (((below_drewN (Below.refl w.heap.size w) k1).alloc (Nat.le_refl _) (.cells (vals (zeros m)).toArray 5)).trans (hk2.below (B := w.heap.size) (Nat.le_refl _) (Nat.le_refl _) (by simp)))
  clear hg2 hk2 hr hmk
  go_wp2_with fail
  have hl1 : (splice (zeros m) 0 (zs.drop p)).length = m := by rw [length_splice _ _ _ (by rw [List.length_drop, hz, zeros_length]; omega), zeros_length]
  obtain ⟨w3, hr, hg3, hk3⟩ := run_copy_seg (P := Try.prog) w2 45 45 3 5 Try.underlying45 info5 (some ⟨w.heap.size, n - p, none⟩) (some ⟨g, 0, none⟩) (m - (n - p)) (m - (n - p)) (m - (n - p)) n w.heap.size (n - p) (vals (splice (zeros m) 0 (zs.drop p))) 5 HG2.out (vals (zs.take (m - (n - p)))) (by rw [vals_length, List.length_take, hz]; show _ = min _ _; omega)
    (fun hpos => ⟨rfl, _, rfl, fun j v hv => by
      obtain ⟨hj, rfl⟩ := vals_at _ _ _ hv
      rw [List.length_take] at hj
      rw [add_none, show (zs.take (m - (n - p))).getD j 0 = zs.getD j 0 by simp [List.getD, List.getElem?_take, show j < m - (n - p) by omega]]
      have hgl := lt_of_some HG.out
      rw [Nat.zero_add]
      exact row_cell (by rw [HK2.out.block g hgl]; exact HG.out) _ (by omega)⟩) (by rw [vals_length, vals_length, List.length_take, hz, hl1]; omega) (vals_one _)
  rw [vals_length, List.length_take, hz, show min (m - (n - p)) n = m - (n - p) by omega] at hr
  have hsp := splice_two (zeros m) (zs.drop p) (zs.take (m - (n - p))) (by rw [List.length_drop, List.length_take, hz, zeros_length]; omega)
  rw [List.length_drop, hz] at hsp
  rw [vals_splice, hsp] at hg3
  rw [hr]
  have HG3 := hide hg3
  have HK3 := hide (HK2.out.trans (hk3.below (B := w.heap.size) (Nat.le_refl _) (Nat.le_refl _) HK2.out.size))
  clear hg3 hk3 hr HG2 HK2 hsp hl1
  go_wp2_with fail
  go_ret
  exact ⟨rfl, HG3.out, HK3.out⟩

set_option maxHeartbeats 1000000 in
theorem new_bad (n : Int) (w : World) (h : n < 0 ∨ 65536 < n) :
    Calls Try.prog 39 #[.int .i64 n] w fun e w' => e = .returned (.tuple #[.pointer none, .int .i64 2]) ∧ w = w' := by
  rcases h with h | h
  · go_enter Try.func39, Try.ntmps39
    go_wp2
    go_ret2
    exact ⟨rfl, rfl⟩
  · have h' : ¬ n < 0 := by omega
    go_enter Try.func39, Try.ntmps39
    go_wp2
    go_ret2
    exact ⟨rfl, rfl⟩

set_option maxHeartbeats 1000000 in
theorem new_good (n : Nat) (w : World) (h : n ≤ 65536) :
    Calls Try.prog 39 #[.int .i64 n] w fun e w' => e = .returned (.tuple #[.pointer (some ⟨w.heap.size + 1, 0, none⟩), .int .i64 0]) ∧
      w'.heap[w.heap.size]? = some (.cells (vals (zeros n)).toArray 5) ∧ w'.heap[w.heap.size + 1]? = some (hdr w.heap.size n 0 0 0 0) ∧ Below w.heap.size w w' := by
  have hmk := run_make0 n (by omega)
  go_enter Try.func39, Try.ntmps39
  go_wp2
  go_ret2
  refine ⟨rfl, alloc_old _ (alloc_new _ _), ?_, ((Below.refl w.heap.size w).alloc (Nat.le_refl _) _).alloc (by simp) _⟩
  exact alloc_new2 w _ (hdr w.heap.size n 0 0 0 0)

set_option maxHeartbeats 1000000 in
theorem clone_at (r g n : Nat) (ip ic op oc : Int) (zs : List Int) (w : World) (hb : w.heap[r]? = some (hdr g n ip ic op oc)) (hg : w.heap[g]? = some (.cells (vals zs).toArray 5)) (hz : zs.length = n) (hn : n ≤ 65536) :
    Calls Try.prog 75 #[.pointer (some ⟨r, 0, none⟩)] w fun e w' => e = .returned (.pointer (some ⟨w.heap.size, 0, none⟩)) ∧
      w'.heap[w.heap.size + 1]? = some (.cells (vals zs).toArray 5) ∧ w'.heap[w.heap.size]? = some (hdr (w.heap.size + 1) n ip ic op oc) ∧ Below w.heap.size w w' := by
  have hmk := run_make0 n (by omega)
  obtain ⟨h0, h1, h2, h3, h4, h5⟩ := hdr_cells hb
  have hlt := lt_of_some hb
  have HB := hide hb
  have HG := hide hg
  clear hb hg
  go_enter Try.func75, Try.ntmps75
  go_wp2
  have hcp : ∀ W : World, W.heap[w.heap.size + 1]? = some (.cells (vals (zeros n)).toArray 5) → W.heap[g]? = some (.cells (vals zs).toArray 5) →
      (Builtin.copy_ #[45, 45] 3 #[.slice (some ⟨w.heap.size + 1, 0, none⟩) n n, .slice (some ⟨g, 0, none⟩) n n]).run Try.prog W = .ok (goInt n) (W.setRow (w.heap.size + 1) (vals zs).toArray) := by
    intro W hW1 hW2
    have := run_copy_row (P := Try.prog) W 45 45 3 5 (w.heap.size + 1) 0 n n ⟨g, 0, none⟩ n n (vals (zeros n)).toArray 5 (vals zs) Try.underlying45 info5 hW1 (by rw [vals_length, hz]; simp)
      (fun j v hv => by
        obtain ⟨hj, rfl⟩ := vals_at _ _ _ hv
        rw [add_none, Nat.zero_add]
        exact row_cell hW2 _ hj) (by rw [vals_length, hz]; simp [vals, zeros]) (vals_one _)
    rw [this, vals_length, hz]
    congr 2
    simp [vals, zeros, hz]
  have h6 := hcp (((w.alloc (.cells #[.bool true, .slice (some ⟨w.heap.size + 1, 0, none⟩) n n, .int .i64 ip, .int .u32 ic, .int .i64 op, .int .u32 oc] 117)).alloc (.cells (vals (zeros n)).toArray 5)).drew)
    (alloc_new2 _ _ _) (alloc_old _ (alloc_old _ HG.out))
  clear hcp
  go_region
  clear h6 hmk h0 h1 h2 h3 h4 h5
  go_wp2
  go_ret
  refine ⟨rfl, ?_, ?_, ?_⟩
  · exact setRow_heap (World.drew _) _ _ _ _ _ (alloc_new2 _ _ _)
  · rw [setRow_other _ _ _ _ (by omega)]
    exact alloc_old _ (alloc_new _ _)
  · exact below_setRow (((Below.refl w.heap.size w).alloc (Nat.le_refl _) _).alloc (by simp) _).drew (by omega) _

end Go.Proofs.Ytjojhnkibgkleaa
