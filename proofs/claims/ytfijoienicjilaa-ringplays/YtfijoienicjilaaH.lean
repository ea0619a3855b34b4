/-
  The statements' own function works (the chapter's example) answers true, whatever the memory, and turns nothing that was there; no conditions.
-/
import Derived.Test.YtfijoienicjilaaG
import Derived.Laws.BytesArg
import Derived.Lib.SlBytesConst
set_option linter.unusedSimpArgs false
set_option linter.unusedVariables false
namespace Go.Proofs.Ytfijoienicjilaa
open Go.RowKit

/-- 'string(b)', b in a block that is known whole. -/
theorem run_str (w : World) (h : Nat) (l : List Int) (c : Nat) (hg : w.heap[h]? = some (.cells (vals l).toArray 5)) : (convert 30 9 (.slice (some ⟨h, 0, none⟩) l.length c)).run Try.prog w = .ok (.string (strOfNums l)) w :=
  run_convert_bytes_arg (P := Try.prog) w 30 5 Try.underlying30 Try.underlying5 h 0 l.length c l rfl (fun i hi => by rw [Nat.zero_add]; exact row_cell hg i hi) 9 Try.underlying9

theorem src_block {w : World} {b : Nat} {l : List Int} {fr : Nat × Nat} {n : Nat} (hg : w.heap[b]? = some (.cells (vals l).toArray 5 fr)) (hn : l.length = n) (hm : n ≤ 65536) (hb : ∀ x ∈ l, 0 ≤ x ∧ x < 256) : Src w (some ⟨b, 0, none⟩) n n l :=
  ⟨hn, Nat.le_refl _, by unfold maxLen; omega, fun h => (by cases h), fun _ => ⟨b, 0, rfl, fun i hi => by rw [Nat.zero_add]; simp [World.cell?, hg, vals, List.getD, show i < l.length by omega]⟩, hb⟩

set_option maxHeartbeats 1000000 in
theorem works_true (w : World) : Calls Try.prog 23 #[] w fun e w' => e = .returned (.bool true) ∧ Below w.heap.size w w' := by
  have kc := fun (w : World) (C : Array Value) (n c : Nat) => Lib.run_convert_bytes_const (P := Try.prog) w 30 5 C n c Try.underlying30 Try.underlying5
  go_enter Try.func23, Try.ntmps23
  go_wp2_with fail
  refine (new_ring 4 w (by omega)).mono ?_
  rintro e w1 ⟨rfl, hr1, hb1⟩
  have HR1 := hide hr1
  have HB1 := hide hb1
  clear hr1 hb1
  go_wp2_with fail
  have hs1 := HB1.out.size
  have hl1 := HR1.out.size_lt
  have hr2 : IsRing (w1.alloc (.cells (vals [97, 98, 99, 100, 101, 102]).toArray 5 (6, 7))) (w.heap.size + 1) w.heap.size 4 0 0 [] := HR1.out.keep (Below.heap_alloc _ _ _ hl1.1) (Below.heap_alloc _ _ _ hl1.2)
  refine (put_ring (w.heap.size + 1) w.heap.size 4 0 0 [] (some ⟨w1.heap.size, 0, none⟩) 6 6 [97, 98, 99, 100, 101, 102] (w1.alloc (.cells (vals [97, 98, 99, 100, 101, 102]).toArray 5 (6, 7))) hr2
    (src_block (alloc_new w1 _) rfl (by omega) (by decide)) (fun b o e _ => by simp at e; omega)).mono ?_
  clear hr2
  rintro e w2 ⟨rfl, hr2, hk2⟩
  rw [show ((min 6 (4 - ([] : List Int).length) : Nat) : Int) = 4 from rfl]
  have HR2 : Hid (IsRing w2 (w.heap.size + 1) w.heap.size 4 4 0 [97, 98, 99, 100]) := hr2
  have HB2 : Hid (Below w.heap.size w w2) := (HB1.out.alloc hs1 _).trans (hk2.below (by omega) (by omega) (by simp; omega))
  clear hr2 hk2 hs1 hl1 HR1 HB1
  go_wp2_with fail
  have hl2 := HR2.out.size_lt
  refine (take_ring (w.heap.size + 1) w.heap.size 4 4 0 2 [97, 98, 99, 100] w2 HR2.out).mono ?_
  rintro e w3 ⟨rfl, hg3, hr3, hk3⟩
  rw [show (min (2 : Int).toNat ([97, 98, 99, 100] : List Int).length) = 2 from rfl]
  have HR3 : Hid (IsRing w3 (w.heap.size + 1) w.heap.size 4 4 2 [99, 100]) := hr3
  have HB3 : Hid (Below w.heap.size w w3) := HB2.out.trans (hk3.below (by omega) (by omega) (by omega))
  have hst : (convert 30 9 (.slice (some ⟨w2.heap.size, 0, none⟩) 2 2)).run Try.prog w3 = .ok (.string ⟨#[97, 98]⟩) w3 := run_str w3 w2.heap.size [97, 98] 2 hg3
  clear hr3 hk3 hg3 HR2 HB2 hl2
  go_wp2_with fail
  clear hst
  have hs1 := HB3.out.size
  have hl1 := HR3.out.size_lt
  have hr2 : IsRing (w3.alloc (.cells (vals [120, 121, 122]).toArray 5 (3, 4))) (w.heap.size + 1) w.heap.size 4 4 2 [99, 100] := HR3.out.keep (Below.heap_alloc _ _ _ hl1.1) (Below.heap_alloc _ _ _ hl1.2)
  refine (put_ring (w.heap.size + 1) w.heap.size 4 4 2 [99, 100] (some ⟨w3.heap.size, 0, none⟩) 3 3 [120, 121, 122] (w3.alloc (.cells (vals [120, 121, 122]).toArray 5 (3, 4))) hr2
    (src_block (alloc_new w3 _) rfl (by omega) (by decide)) (fun b o e _ => by simp at e; omega)).mono ?_
  clear hr2
  rintro e w4 ⟨rfl, hr2, hk2⟩
  rw [show ((min 3 (4 - ([99, 100] : List Int).length) : Nat) : Int) = 2 from rfl]
  have HR4 : Hid (IsRing w4 (w.heap.size + 1) w.heap.size 4 6 2 [99, 100, 120, 121]) := hr2
  have HB4 : Hid (Below w.heap.size w w4) := (HB3.out.alloc hs1 _).trans (hk2.below (by omega) (by omega) (by simp; omega))
  clear hr2 hk2 hs1 hl1 HR3 HB3
  go_wp2_with fail
  have hl2 := HR4.out.size_lt
  refine (take_ring (w.heap.size + 1) w.heap.size 4 6 2 9 [99, 100, 120, 121] w4 HR4.out).mono ?_
  rintro e w5 ⟨rfl, hg3, hr3, hk3⟩
  rw [show (min (9 : Int).toNat ([99, 100, 120, 121] : List Int).length) = 4 from rfl]
  have HR5 : Hid (IsRing w5 (w.heap.size + 1) w.heap.size 4 6 6 []) := hr3
  have HB5 : Hid (Below w.heap.size w w5) := HB4.out.trans (hk3.below (by omega) (by omega) (by omega))
  have hst : (convert 30 9 (.slice (some ⟨w4.heap.size, 0, none⟩) 4 4)).run Try.prog w5 = .ok (.string ⟨#[99, 100, 120, 121]⟩) w5 := run_str w5 w4.heap.size [99, 100, 120, 121] 4 hg3
  clear hr3 hk3 hg3 HR4 HB4 hl2
  go_wp2_with fail
  refine (moved_ring (w.heap.size + 1) w.heap.size 4 6 6 [] w5 HR5.out).mono ?_
  rintro e w6 ⟨rfl, k6, rfl⟩
  go_wp2_with fail
  go_ret
  exact ⟨rfl, below_drewN HB5.out _⟩

end Go.Proofs.Ytfijoienicjilaa
