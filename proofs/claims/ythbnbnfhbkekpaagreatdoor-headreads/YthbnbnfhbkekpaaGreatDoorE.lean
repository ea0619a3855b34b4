/-
  Whether an error is what the reference tells: 'Is', and 'Like'; conditions as each theorem has them.
-/
import Derived.Test.YthbnbnfhbkekpaaGreatDoorD
import Derived.Test.YthbnbnfhbkekpaaGreatDoorX
set_option linter.unusedSimpArgs false
set_option linter.unusedVariables false
namespace Go.Proofs.YthbnbnfhbkekpaaGreatDoor
open Go.RowKit

theorem eq28 (a b c d : ByteArray) (w : World) : (Op.equalIn 9999 28 (.agg #[.string a, .string b, .string c, .string d]) (.agg #[.string a, .string b, .string c, .string d])).run Tryz.prog w = .ok true w := by
  obtain ⟨i, hi⟩ : ∃ i, Tryz.prog.info? 9 = some i := Option.isSome_iff_exists.1 (by kernel_rfl)
  have c9 : Tryz.prog.cellsOf 9 = 1 := by kernel_rfl
  have hs : ∀ w, (sizeOf 9).run Tryz.prog w = .ok 1 w := fun w => by kernel_rfl
  have ha : ∀ w, (isAgg 9).run Tryz.prog w = .ok false w := fun w => by kernel_rfl
  rw [run_equalIn_array w 9998 _ _ (by kernel_rfl : Tryz.prog.underlying 28 = some (.array 4 9)) hi, c9, show List.range 4 = [0, 1, 2, 3] from rfl]
  simp [Op.eqItems, Go.part, hs, ha, run_equalIn_string _ _ _ _ _ Tryz.underlying9]
theorem eq29x (a b c d : Int) (w : World) : (Op.equalIn 9999 29 (.agg #[.int .i64 a, .int .i64 b, .int .i64 c, .int .i64 d]) (.agg #[.int .i64 a, .int .i64 b, .int .i64 c, .int .i64 d])).run Tryz.prog w = .ok true w := by
  obtain ⟨i, hi⟩ : ∃ i, Tryz.prog.info? 3 = some i := Option.isSome_iff_exists.1 (by kernel_rfl)
  have c9 : Tryz.prog.cellsOf 3 = 1 := by kernel_rfl
  have hs : ∀ w, (sizeOf 3).run Tryz.prog w = .ok 1 w := fun w => by kernel_rfl
  have ha : ∀ w, (isAgg 3).run Tryz.prog w = .ok false w := fun w => by kernel_rfl
  rw [run_equalIn_array w 9998 _ _ (by kernel_rfl : Tryz.prog.underlying 29 = some (.array 4 3)) hi, c9, show List.range 4 = [0, 1, 2, 3] from rfl]
  simp [Op.eqItems, Go.part, hs, ha, run_equalIn_int _ _ _ _ _ _ _ Tryz.underlying3]

set_option maxRecDepth 100000 in
set_option maxHeartbeats 2000000 in
theorem is_at (e : Hr) (v : Value) (w : World) (h : IsH w e v) : Calls Tryz.prog 12 #[v, badH e] w fun x w' => x = .returned (.bool true) ∧ Below w.heap.size w w' := by
  have H := hide (h.below ((Below.refl _ w).alloc (Nat.le_refl _) (.cells (badG e) 32)))
  clear h
  cases e with
  | ok =>
    simp only [badH, badV]
    go_enter Tryz.func12, Tryz.ntmps12
    go_wp2_with fail
    refine (of_at .ok v _ H.out).mono ?_
    rintro x w1 ⟨rfl, hbel⟩
    have hr : w1.heap[w.heap.size]? = some (.cells (badG .ok) 32) := (hbel.block w.heap.size (by simp)).trans (alloc_new _ _)
    have hz := lt_of_some hr
    have HB : Hid (Below w.heap.size w w1) := ((Below.refl _ w).alloc (Nat.le_refl _) _).trans (hbel.mono (by simp))
    have hne : w.heap.size ≠ w1.heap.size := by omega
    have k0 : w1.cell? ⟨w.heap.size, 0, none⟩ = some (.int .i64 0) := by simp [World.cell?, hr, badG, badH, badV]
    have k1 : w1.cell? ⟨w.heap.size, 1, none⟩ = some (.string ⟨#[]⟩) := by simp [World.cell?, hr, badG, badH, badV]
    have k2 : w1.cell? ⟨w.heap.size, 2, none⟩ = some (.string ⟨#[]⟩) := by simp [World.cell?, hr, badG, badH, badV]
    have k3 : w1.cell? ⟨w.heap.size, 3, none⟩ = some (.string ⟨#[]⟩) := by simp [World.cell?, hr, badG, badH, badV]
    have k4 : w1.cell? ⟨w.heap.size, 4, none⟩ = some (.string ⟨#[]⟩) := by simp [World.cell?, hr, badG, badH, badV]
    have k5 : w1.cell? ⟨w.heap.size, 5, none⟩ = some (.int .i64 0) := by simp [World.cell?, hr, badG, badH, badV]
    have k6 : w1.cell? ⟨w.heap.size, 6, none⟩ = some (.int .i64 0) := by simp [World.cell?, hr, badG, badH, badV]
    have k7 : w1.cell? ⟨w.heap.size, 7, none⟩ = some (.int .i64 0) := by simp [World.cell?, hr, badG, badH, badV]
    have k8 : w1.cell? ⟨w.heap.size, 8, none⟩ = some (.int .i64 0) := by simp [World.cell?, hr, badG, badH, badV]
    have k9 : w1.cell? ⟨w.heap.size, 9, none⟩ = some (.int .i64 0) := by simp [World.cell?, hr, badG, badH, badV]
    simp only [badH, badV]
    have q28 := eq28
    have q29 := eq29x
    clear hbel hr
    go_wp2_with fail
    go_ret
    exact ⟨by simp, HB.out.alloc (by omega) _⟩
  | one a c =>
    simp only [badH, badV]
    go_enter Tryz.func12, Tryz.ntmps12
    go_wp2_with fail
    refine (of_at (.one a c) v _ H.out).mono ?_
    rintro x w1 ⟨rfl, hbel⟩
    have hr : w1.heap[w.heap.size]? = some (.cells (badG (.one a c)) 32) := (hbel.block w.heap.size (by simp)).trans (alloc_new _ _)
    have hz := lt_of_some hr
    have HB : Hid (Below w.heap.size w w1) := ((Below.refl _ w).alloc (Nat.le_refl _) _).trans (hbel.mono (by simp))
    have hne : w.heap.size ≠ w1.heap.size := by omega
    have k0 : w1.cell? ⟨w.heap.size, 0, none⟩ = some (.int .i64 1) := by simp [World.cell?, hr, badG, badH, badV]
    have k1 : w1.cell? ⟨w.heap.size, 1, none⟩ = some (.string ⟨#[104, 101, 97, 100]⟩) := by simp [World.cell?, hr, badG, badH, badV]
    have k2 : w1.cell? ⟨w.heap.size, 2, none⟩ = some (.string ⟨#[]⟩) := by simp [World.cell?, hr, badG, badH, badV]
    have k3 : w1.cell? ⟨w.heap.size, 3, none⟩ = some (.string ⟨#[]⟩) := by simp [World.cell?, hr, badG, badH, badV]
    have k4 : w1.cell? ⟨w.heap.size, 4, none⟩ = some (.string ⟨#[]⟩) := by simp [World.cell?, hr, badG, badH, badV]
    have k5 : w1.cell? ⟨w.heap.size, 5, none⟩ = some (.int .i64 a) := by simp [World.cell?, hr, badG, badH, badV]
    have k6 : w1.cell? ⟨w.heap.size, 6, none⟩ = some (.int .i64 0) := by simp [World.cell?, hr, badG, badH, badV]
    have k7 : w1.cell? ⟨w.heap.size, 7, none⟩ = some (.int .i64 0) := by simp [World.cell?, hr, badG, badH, badV]
    have k8 : w1.cell? ⟨w.heap.size, 8, none⟩ = some (.int .i64 0) := by simp [World.cell?, hr, badG, badH, badV]
    have k9 : w1.cell? ⟨w.heap.size, 9, none⟩ = some (.int .i64 c) := by simp [World.cell?, hr, badG, badH, badV]
    simp only [badH, badV]
    have q28 := eq28
    have q29 := eq29x
    clear hbel hr
    go_wp2_with fail
    go_ret
    exact ⟨by simp, HB.out.alloc (by omega) _⟩
  | wr a e =>
    have he := H.out.1
    cases e with
    | ok => exact absurd rfl he
    | one b c =>
      simp only [badH, badV]
      go_enter Tryz.func12, Tryz.ntmps12
      go_wp2_with fail
      refine (of_at (.wr a (.one b c)) v _ H.out).mono ?_
      rintro x w1 ⟨rfl, hbel⟩
      have hr : w1.heap[w.heap.size]? = some (.cells (badG (.wr a (.one b c))) 32) := (hbel.block w.heap.size (by simp)).trans (alloc_new _ _)
      have hz := lt_of_some hr
      have HB : Hid (Below w.heap.size w w1) := ((Below.refl _ w).alloc (Nat.le_refl _) _).trans (hbel.mono (by simp))
      have hne : w.heap.size ≠ w1.heap.size := by omega
      have k0 : w1.cell? ⟨w.heap.size, 0, none⟩ = some (.int .i64 2) := by simp [World.cell?, hr, badG, badH, badV]
      have k1 : w1.cell? ⟨w.heap.size, 1, none⟩ = some (.string ⟨#[104, 101, 97, 100]⟩) := by simp [World.cell?, hr, badG, badH, badV]
      have k2 : w1.cell? ⟨w.heap.size, 2, none⟩ = some (.string ⟨#[104, 111, 115, 116]⟩) := by simp [World.cell?, hr, badG, badH, badV]
      have k3 : w1.cell? ⟨w.heap.size, 3, none⟩ = some (.string ⟨#[]⟩) := by simp [World.cell?, hr, badG, badH, badV]
      have k4 : w1.cell? ⟨w.heap.size, 4, none⟩ = some (.string ⟨#[]⟩) := by simp [World.cell?, hr, badG, badH, badV]
      have k5 : w1.cell? ⟨w.heap.size, 5, none⟩ = some (.int .i64 a) := by simp [World.cell?, hr, badG, badH, badV]
      have k6 : w1.cell? ⟨w.heap.size, 6, none⟩ = some (.int .i64 b) := by simp [World.cell?, hr, badG, badH, badV]
      have k7 : w1.cell? ⟨w.heap.size, 7, none⟩ = some (.int .i64 0) := by simp [World.cell?, hr, badG, badH, badV]
      have k8 : w1.cell? ⟨w.heap.size, 8, none⟩ = some (.int .i64 0) := by simp [World.cell?, hr, badG, badH, badV]
      have k9 : w1.cell? ⟨w.heap.size, 9, none⟩ = some (.int .i64 c) := by simp [World.cell?, hr, badG, badH, badV]
      simp only [badH, badV]
      have q28 := eq28
      have q29 := eq29x
      clear hbel hr
      go_wp2_with fail
      go_ret
      exact ⟨by simp, HB.out.alloc (by omega) _⟩
    | two b b2 c =>
      simp only [badH, badV]
      go_enter Tryz.func12, Tryz.ntmps12
      go_wp2_with fail
      refine (of_at (.wr a (.two b b2 c)) v _ H.out).mono ?_
      rintro x w1 ⟨rfl, hbel⟩
      have hr : w1.heap[w.heap.size]? = some (.cells (badG (.wr a (.two b b2 c))) 32) := (hbel.block w.heap.size (by simp)).trans (alloc_new _ _)
      have hz := lt_of_some hr
      have HB : Hid (Below w.heap.size w w1) := ((Below.refl _ w).alloc (Nat.le_refl _) _).trans (hbel.mono (by simp))
      have hne : w.heap.size ≠ w1.heap.size := by omega
      have k0 : w1.cell? ⟨w.heap.size, 0, none⟩ = some (.int .i64 3) := by simp [World.cell?, hr, badG, badH, badV]
      have k1 : w1.cell? ⟨w.heap.size, 1, none⟩ = some (.string ⟨#[104, 101, 97, 100]⟩) := by simp [World.cell?, hr, badG, badH, badV]
      have k2 : w1.cell? ⟨w.heap.size, 2, none⟩ = some (.string ⟨#[104, 111, 115, 116]⟩) := by simp [World.cell?, hr, badG, badH, badV]
      have k3 : w1.cell? ⟨w.heap.size, 3, none⟩ = some (.string ⟨#[104, 111, 115, 116]⟩) := by simp [World.cell?, hr, badG, badH, badV]
      have k4 : w1.cell? ⟨w.heap.size, 4, none⟩ = some (.string ⟨#[]⟩) := by simp [World.cell?, hr, badG, badH, badV]
      have k5 : w1.cell? ⟨w.heap.size, 5, none⟩ = some (.int .i64 a) := by simp [World.cell?, hr, badG, badH, badV]
      have k6 : w1.cell? ⟨w.heap.size, 6, none⟩ = some (.int .i64 b) := by simp [World.cell?, hr, badG, badH, badV]
      have k7 : w1.cell? ⟨w.heap.size, 7, none⟩ = some (.int .i64 b2) := by simp [World.cell?, hr, badG, badH, badV]
      have k8 : w1.cell? ⟨w.heap.size, 8, none⟩ = some (.int .i64 0) := by simp [World.cell?, hr, badG, badH, badV]
      have k9 : w1.cell? ⟨w.heap.size, 9, none⟩ = some (.int .i64 c) := by simp [World.cell?, hr, badG, badH, badV]
      simp only [badH, badV]
      have q28 := eq28
      have q29 := eq29x
      clear hbel hr
      go_wp2_with fail
      go_ret
      exact ⟨by simp, HB.out.alloc (by omega) _⟩

set_option maxRecDepth 100000 in
set_option maxHeartbeats 2000000 in
theorem like_at (e : Hr) (v u : Value) (w : World) (h : IsH w e v) (h2 : IsH w e u) : Calls Tryz.prog 33 #[v, u] w fun x w' => x = .returned (.bool true) ∧ Below w.heap.size w w' := by
  have H := hide h
  have H2 := hide h2
  clear h h2
  go_enter Tryz.func33, Tryz.ntmps33
  go_wp2_with fail
  refine (of_at e u _ H2.out).mono ?_
  rintro x w1 ⟨rfl, hb1⟩
  rw [badH_badG]
  obtain ⟨W2, hW2⟩ : ∃ W2, W2 = (w1.alloc (.cells (badC .ok) 32)).setRow w1.heap.size (badG e) := ⟨_, rfl⟩
  have z2 : (w1.alloc (.cells (badC .ok) 32)).heap[w1.heap.size]? = some (.cells (badC .ok) 32) := alloc_new _ _
  have k2 : Below w1.heap.size w1 W2 := by rw [hW2]; exact below_setRow ((Below.refl _ _).alloc (Nat.le_refl _) _) (by omega) _
  have p2 : W2.heap[w1.heap.size]? = some (.cells (badG e) 32) := by rw [hW2]; exact setRow_heap _ _ _ _ _ z2
  have Z2 := hide z2
  have P2 := hide p2
  have HW2 := hide hW2
  have B1 := hide (hb1.trans (k2.mono hb1.size))
  have HV := hide (((H.out.below hb1).below k2))
  clear hW2 z2 k2 p2 hb1
  go_wp2_with (first
    | (refine wpList_store_rowW rfl 32 _ _ rfl w1.heap.size (badG e) rfl rfl 32 (badC .ok) Z2.out (badGI e) (by simp [badC_size, badG_size]) (badG_one _) W2 HW2.out ?_)
    | (refine wpList_load_rowG rfl 32 _ rfl w1.heap.size rfl 32 (badG e) (0, 0) _ P2.out Tryz.underlying32 rfl (badGI e) ?_))
  rw [← badH_badG]
  refine (is_at e v _ HV.out).mono ?_
  rintro x w3 ⟨rfl, hb3⟩
  have B3 := hide (B1.out.trans (hb3.mono B1.out.size))
  clear hb3
  go_wp2_with fail
  go_ret
  exact ⟨by first | rfl | simp, B3.out⟩
end Go.Proofs.YthbnbnfhbkekpaaGreatDoor
