/-
  The reference's endpoint that begins anew; an end of one; conditions as each theorem has them.
-/
import Derived.Test.YtjojhnkibgkleaaYD
import Derived.Laws.ResultCell
set_option linter.unusedSimpArgs false
set_option linter.unusedVariables false
set_option maxRecDepth 8000
namespace Go.Proofs.Ytjojhnkibgkleaa
open Go.RowKit Go.Lib

theorem infoEnd : (Try.prog.info? 92).map (·.size) = some 6 := by kernel_rfl
def zEndC : Array Value := #[.int .i64 0, .int .i64 0, .bool false, .bool false, .bool false, .pointer none]
theorem fresh_w (y n : Nat) (s : Int) (w : World) (hc : w.cell? ⟨y, 1, none⟩ = some (.int .i64 n)) (hn : n ≤ 65536) : Calls Try.prog 40 #[.pointer (some ⟨y, 0, none⟩), .int .i64 s] w fun x w' => ∃ yn, x = .returned (.agg #[.int .i64 s, .int .i64 0, .bool false, .bool false, .bool false, .pointer (some ⟨yn, 0, none⟩)]) ∧ w.heap.size ≤ yn ∧ RR w' yn n [] (.slice none 0 0) ∧ Below w.heap.size w w' := by
  have hc1 : (w.alloc (.cells #[.int .i64 0, .int .i64 0, .bool false, .bool false, .bool false, .pointer none] 92)).cell? ⟨y, 1, none⟩ = some (.int .i64 n) := by
    exact (((Below.refl w.heap.size w).alloc (Nat.le_refl _) _).cell (p := ⟨y, 1, none⟩) (cell_lt hc)).trans hc
  have HB0 := hide ((Below.refl w.heap.size w).alloc (Nat.le_refl _) (.cells zEndC 92))
  have HN0 := hide (heap_alloc_new w (.cells zEndC 92))
  clear hc
  go_enter Try.func40, Try.ntmps40
  go_wp2_with fail
  refine (rnew_v n _ hn).mono ?_
  rintro x w1 ⟨rfl, hr, hb, hz⟩
  have hzz : (w.alloc (.cells zEndC 92)).heap.size = w.heap.size + 1 := by show (w.heap.push _).size = _; simp
  have HH : Hid (w1.heap[w.heap.size]? = some (.cells zEndC 92)) := (hb.block w.heap.size (by rw [show (w.alloc (.cells #[.int .i64 0, .int .i64 0, .bool false, .bool false, .bool false, .pointer none] 92)).heap.size = _ from hzz]; omega)).trans HN0.out
  have HR : Hid (RR w1 (w.heap.size + 1) n [] (.slice none 0 0)) := hzz ▸ hr
  have HB := hide (HB0.out.trans (hb.mono (by rw [show (w.alloc (.cells #[.int .i64 0, .int .i64 0, .bool false, .bool false, .bool false, .pointer none] 92)).heap.size = _ from hzz]; omega)))
  clear hr hb hz hc1 hzz HB0 HN0
  have f0 : ∀ o, w1.frozen? ⟨w.heap.size, o, none⟩ = false := fun o => by simp [World.frozen?, HH.out]
  have hce := cell_of_row w1 w.heap.size
  have c0 : w1.cell? ⟨w.heap.size, 0, none⟩ = some (.int .i64 0) := hce 0 _ _ _ HH.out
  have c1 : w1.cell? ⟨w.heap.size, 1, none⟩ = some (.int .i64 0) := hce 1 _ _ _ HH.out
  have c2 : w1.cell? ⟨w.heap.size, 2, none⟩ = some (.bool false) := hce 2 _ _ _ HH.out
  have c3 : w1.cell? ⟨w.heap.size, 3, none⟩ = some (.bool false) := hce 3 _ _ _ HH.out
  have c4 : w1.cell? ⟨w.heap.size, 4, none⟩ = some (.bool false) := hce 4 _ _ _ HH.out
  have c5 : w1.cell? ⟨w.heap.size, 5, none⟩ = some (.pointer none) := hce 5 _ _ _ HH.out
  have f1 := f0 1
  have f2 := f0 2
  have f3 := f0 3
  have f4 := f0 4
  have f5 := f0 5
  replace f0 := f0 0
  clear hce
  go_wp2_with fail
  have hrow := heap_setCell_same (heap_setCell_same (heap_setCell_same (heap_setCell_same (heap_setCell_same (heap_setCell_same HH.out 0 (.int .i64 s)) 1 (.int .i64 0)) 2 (.bool false)) 3 (.bool false)) 4 (.bool false)) 5 (.pointer (some ⟨w.heap.size + 1, 0, none⟩))
  refine bodyPost_ret (results_cell_row rfl _ _ w.heap.size 92 _ (0, 0) _ rfl hrow Try.underlying92 rfl infoEnd) rfl ⟨w.heap.size + 1, rfl, by omega, ?_, ?_⟩
  · refine RR.keep HR.out ?_ (fun g hg => by cases hg)
    have hne : w.heap.size + 1 ≠ w.heap.size := by omega
    rw [Below.heap_setCell _ _ _ _ hne, Below.heap_setCell _ _ _ _ hne, Below.heap_setCell _ _ _ _ hne, Below.heap_setCell _ _ _ _ hne, Below.heap_setCell _ _ _ _ hne, Below.heap_setCell _ _ _ _ hne]
  · exact (((((HB.out.setCell (Nat.le_refl _) _).setCell (Nat.le_refl _) _).setCell (Nat.le_refl _) _).setCell (Nat.le_refl _) _).setCell (Nat.le_refl _) _).setCell (Nat.le_refl _) _

end Go.Proofs.Ytjojhnkibgkleaa
