/-
  The statements' own function works (the chapter's example) answers true wherever the table of math/bits lies, and turns nothing that was there.
-/
import Derived.Test.YtnikjcinleghbaaDoorG
set_option linter.unusedSimpArgs false
set_option linter.unusedVariables false
namespace Go.Proofs.YtnikjcinleghbaaDoor
open Go.RowKit

set_option maxHeartbeats 1000000 in
theorem works_true (w : World) (hT : Tab w) : Calls Tryd.prog 25 #[] w fun e w' => e = .returned (.bool true) ∧ Below w.heap.size w w' := by
  have HT := hide hT
  clear hT
  have kc := fun (w : World) (C : Array Value) (n c : Nat) => Lib.run_convert_bytes_const (P := Tryd.prog) w 30 5 C n c Tryd.underlying30 Tryd.underlying5
  go_enter Tryd.func25, Tryd.ntmps25
  go_wp2_with fail
  refine (new_good 2 4 w (by omega) (by omega) (by omega) HT.out).mono ?_
  rintro e w1 ⟨rfl, hr1, hb1⟩
  have HR1 : Hid (IsSlab w1 (w.heap.size + 1) w.heap.size 2 4 [false, false] [0, 0, 0, 0, 0, 0, 0, 0]) := hr1
  have HB1 := hide hb1
  clear hr1 hb1
  go_wp2_with fail
  refine (get_ok (w.heap.size + 1) w.heap.size 2 4 _ _ 0 w1 HR1.out rfl (by omega)).mono ?_
  rintro e w2 ⟨rfl, hr2, hk2⟩
  have HR2 : Hid (IsSlab w2 (w.heap.size + 1) w.heap.size 2 4 [true, false] [0, 0, 0, 0, 0, 0, 0, 0]) := hr2
  have HB2 : Hid (Below w.heap.size w w2) := HB1.out.trans (hk2.below (by omega) (by omega) HB1.out.size)
  clear hr2 hk2 HR1 HB1
  go_wp2_with fail
  have hs2 := HB2.out.size
  have hl2 := HR2.out.lt
  have hr3 : IsSlab (w2.alloc (.cells (vals [97, 98]).toArray 5 (2, 3))) (w.heap.size + 1) w.heap.size 2 4 [true, false] [0, 0, 0, 0, 0, 0, 0, 0] := HR2.out.keep (Below.heap_alloc _ _ _ hl2.2.2) (Below.heap_alloc _ _ _ hl2.1) (Below.heap_alloc _ _ _ hl2.2.1)
  refine (write_ok (w.heap.size + 1) w.heap.size 2 4 _ _ 0 1 (some ⟨w2.heap.size, 0, none⟩) 2 2 [97, 98] (w2.alloc (.cells (vals [97, 98]).toArray 5 (2, 3))) hr3 (by omega) rfl
    (src_block (alloc_new w2 _) rfl (by omega) (by decide)) (by omega)).mono ?_
  clear hr3
  rintro e w3 ⟨rfl, hr3, hk3⟩
  have HR3 : Hid (IsSlab w3 (w.heap.size + 1) w.heap.size 2 4 [true, false] [0, 97, 98, 0, 0, 0, 0, 0]) := hr3
  have HB3 : Hid (Below w.heap.size w w3) := (HB2.out.alloc hs2 _).trans (hk3.below (by omega) (by omega) (by simp; omega))
  clear hr3 hk3 hs2 hl2 HR2 HB2
  go_wp2_with fail
  refine (get_ok (w.heap.size + 1) w.heap.size 2 4 _ _ 1 w3 HR3.out rfl (by omega)).mono ?_
  rintro e w4 ⟨rfl, hr4, hk4⟩
  have HR4 : Hid (IsSlab w4 (w.heap.size + 1) w.heap.size 2 4 [true, true] [0, 97, 98, 0, 0, 0, 0, 0]) := hr4
  have HB4 : Hid (Below w.heap.size w w4) := HB3.out.trans (hk4.below (by omega) (by omega) HB3.out.size)
  clear hr4 hk4 HR3 HB3
  go_wp2_with fail
  refine (get_full (w.heap.size + 1) w.heap.size 2 4 _ _ w4 HR4.out rfl).mono ?_
  rintro e w5 ⟨rfl, n5, rfl⟩
  go_wp2_with fail
  refine (put_ok (w.heap.size + 1) w.heap.size 2 4 _ _ 0 (w4.drewN n5) (HR4.out.drewN n5) (by omega) rfl).mono ?_
  rintro e w6 ⟨rfl, hr6, hk6⟩
  have HR6 : Hid (IsSlab w6 (w.heap.size + 1) w.heap.size 2 4 [false, true] [0, 0, 0, 0, 0, 0, 0, 0]) := hr6
  have HB6 : Hid (Below w.heap.size w w6) := HB4.out.trans (hk6.of_drewN.below (by omega) (by omega) HB4.out.size)
  clear hr6 hk6 HR4 HB4
  go_wp2_with fail
  refine (get_ok (w.heap.size + 1) w.heap.size 2 4 _ _ 0 w6 HR6.out rfl (by omega)).mono ?_
  rintro e w7 ⟨rfl, hr7, hk7⟩
  have HR7 : Hid (IsSlab w7 (w.heap.size + 1) w.heap.size 2 4 [true, true] [0, 0, 0, 0, 0, 0, 0, 0]) := hr7
  have HB7 : Hid (Below w.heap.size w w7) := HB6.out.trans (hk7.below (by omega) (by omega) HB6.out.size)
  clear hr7 hk7 HR6 HB6
  go_wp2_with fail
  refine (read_ok (w.heap.size + 1) w.heap.size 2 4 _ _ 0 0 4 w7 HR7.out (by omega) rfl (by omega)).mono ?_
  rintro e w8 ⟨rfl, hg8, hb8⟩
  have HG8 : Hid (w8.heap[w7.heap.size]? = some (.cells (vals [0, 0, 0, 0]).toArray 5)) := hg8
  have HB8 : Hid (Below w.heap.size w w8) := HB7.out.trans (hb8.mono HB7.out.size)
  clear hg8 hb8 HR7 HB7
  go_wp2_with fail
  refine (same_bytes (w8.alloc (.cells (vals [0, 0, 0, 0]).toArray 5)) (some ⟨w7.heap.size, 0, none⟩) (some ⟨w8.heap.size, 0, none⟩) 4 4 4 4 [0, 0, 0, 0] (src_block (alloc_old _ HG8.out) rfl (by omega) (by decide)) (src_block (alloc_new _ _) rfl (by omega) (by decide))).mono ?_
  rintro e w9 ⟨rfl, rfl⟩
  go_wp2_with fail
  go_ret
  exact ⟨rfl, HB8.out.alloc HB8.out.size _⟩

end Go.Proofs.YtnikjcinleghbaaDoor
