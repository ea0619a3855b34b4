/-
  Whether an error is what the reference tells: 'Is', and 'Like'; conditions as each theorem has them.
-/
import Derived.Test.YtelfikbahcckaaaDoorD
set_option linter.unusedSimpArgs false
set_option linter.unusedVariables false
namespace Go.Proofs.YtelfikbahcckaaaDoor
open Go.RowKit

theorem wpList_load_rowG {P : Program} {ops : Array Oper} {rest : List Oper} {o : Oper} {a : Act} {w : World} {Q : Exit → Act → World → Prop} (hgd : Region.wanted o (yielded ops a.tmps) = true) (ty : TypeId) (x : Operand) (ho : o.op = .load ty x)
    (g : Nat) (hx : a.eval x = .pointer (some ⟨g, 0, none⟩)) (t : TypeId) (cs : Array Value) (fr : Nat × Nat) (d : TypeDesc) (hg : w.heap[g]? = some (.cells cs t fr))
    (hu : P.underlying ty = some d) (hd : (match d with | .struct _ | .array _ _ => true | _ => false) = true) (hi : (P.info? ty).map (·.size) = some cs.size)
    (h : wpList P ops Q rest (a.put o.dst (.agg cs)) w) : wpList P ops Q (o :: rest) a w :=
  BigFrame.wpList_want hgd fun _ hK => wp_load_row ty x ho g hx t cs fr d hg hu hd hi (hK _ _ h)
theorem keepB {w w' : World} {b : Nat} {o : Obj} (k : Below w.heap.size w w') (h : w.heap[b]? = some o) : w'.heap[b]? = some o := (k.block b (lt_of_some h)).trans h
theorem eq29 (a b c d : ByteArray) (w : World) : (Op.equalIn 9999 28 (.agg #[.string a, .string b, .string c, .string d]) (.agg #[.string a, .string b, .string c, .string d])).run Tryd.prog w = .ok true w := by
  obtain ⟨i, hi⟩ : ∃ i, Tryd.prog.info? 9 = some i := Option.isSome_iff_exists.1 (by kernel_rfl)
  have c9 : Tryd.prog.cellsOf 9 = 1 := by kernel_rfl
  have hs : ∀ w, (sizeOf 9).run Tryd.prog w = .ok 1 w := fun w => by kernel_rfl
  have ha : ∀ w, (isAgg 9).run Tryd.prog w = .ok false w := fun w => by kernel_rfl
  rw [run_equalIn_array w 9998 _ _ (by kernel_rfl : Tryd.prog.underlying 28 = some (.array 4 9)) hi, c9, show List.range 4 = [0, 1, 2, 3] from rfl]
  simp [Op.eqItems, Go.part, hs, ha, run_equalIn_string _ _ _ _ _ Tryd.underlying9]
theorem eq30 (a b c d : Int) (w : World) : (Op.equalIn 9999 29 (.agg #[.int .i64 a, .int .i64 b, .int .i64 c, .int .i64 d]) (.agg #[.int .i64 a, .int .i64 b, .int .i64 c, .int .i64 d])).run Tryd.prog w = .ok true w := by
  obtain ⟨i, hi⟩ : ∃ i, Tryd.prog.info? 3 = some i := Option.isSome_iff_exists.1 (by kernel_rfl)
  have c9 : Tryd.prog.cellsOf 3 = 1 := by kernel_rfl
  have hs : ∀ w, (sizeOf 3).run Tryd.prog w = .ok 1 w := fun w => by kernel_rfl
  have ha : ∀ w, (isAgg 3).run Tryd.prog w = .ok false w := fun w => by kernel_rfl
  rw [run_equalIn_array w 9998 _ _ (by kernel_rfl : Tryd.prog.underlying 29 = some (.array 4 3)) hi, c9, show List.range 4 = [0, 1, 2, 3] from rfl]
  simp [Op.eqItems, Go.part, hs, ha, run_equalIn_int _ _ _ _ _ _ _ Tryd.underlying3]
theorem ne30 (a b c d x : Int) (w : World) (h : a ≠ x) : (Op.equalIn 9999 29 (.agg #[.int .i64 a, .int .i64 b, .int .i64 c, .int .i64 d]) (.agg #[.int .i64 x, .int .i64 b, .int .i64 c, .int .i64 d])).run Tryd.prog w = .ok false w := by
  obtain ⟨i, hi⟩ : ∃ i, Tryd.prog.info? 3 = some i := Option.isSome_iff_exists.1 (by kernel_rfl)
  have c9 : Tryd.prog.cellsOf 3 = 1 := by kernel_rfl
  have hs : ∀ w, (sizeOf 3).run Tryd.prog w = .ok 1 w := fun w => by kernel_rfl
  have ha : ∀ w, (isAgg 3).run Tryd.prog w = .ok false w := fun w => by kernel_rfl
  rw [run_equalIn_array w 9998 _ _ (by kernel_rfl : Tryd.prog.underlying 29 = some (.array 4 3)) hi, c9, show List.range 4 = [0, 1, 2, 3] from rfl]
  simp [Op.eqItems, Go.part, hs, ha, run_equalIn_int _ _ _ _ _ _ _ Tryd.underlying3, h]

set_option maxRecDepth 100000 in
set_option maxHeartbeats 2000000 in
theorem is_at (e : Er) (v : Value) (w : World) (h : IsF w e v) : Calls Tryd.prog 10 #[v, badF e] w fun x w' => x = .returned (.bool true) ∧ Below w.heap.size w w' := by
  have H := hide (h.below ((Below.refl _ w).alloc (Nat.le_refl _) (.cells (badG e) 32)))
  clear h
  cases e with
  | ok =>
    simp only [badF, badV]
    go_enter Tryd.func10, Tryd.ntmps10
    go_wp2_with fail
    refine (of_at .ok v _ H.out).mono ?_
    rintro x w1 ⟨rfl, hbel⟩
    have hr : w1.heap[w.heap.size]? = some (.cells (badG .ok) 32) := (hbel.block w.heap.size (by simp)).trans (alloc_new _ _)
    have hz := lt_of_some hr
    have HB : Hid (Below w.heap.size w w1) := ((Below.refl _ w).alloc (Nat.le_refl _) _).trans (hbel.mono (by simp))
    have hne : w.heap.size ≠ w1.heap.size := by omega
    have k0 : w1.cell? ⟨w.heap.size, 0, none⟩ = some (.int .i64 0) := by simp [World.cell?, hr, badG, badF, badV]
    have k1 : w1.cell? ⟨w.heap.size, 1, none⟩ = some (.string ⟨#[]⟩) := by simp [World.cell?, hr, badG, badF, badV]
    have k2 : w1.cell? ⟨w.heap.size, 2, none⟩ = some (.string ⟨#[]⟩) := by simp [World.cell?, hr, badG, badF, badV]
    have k3 : w1.cell? ⟨w.heap.size, 3, none⟩ = some (.string ⟨#[]⟩) := by simp [World.cell?, hr, badG, badF, badV]
    have k4 : w1.cell? ⟨w.heap.size, 4, none⟩ = some (.string ⟨#[]⟩) := by simp [World.cell?, hr, badG, badF, badV]
    have k5 : w1.cell? ⟨w.heap.size, 5, none⟩ = some (.int .i64 0) := by simp [World.cell?, hr, badG, badF, badV]
    have k6 : w1.cell? ⟨w.heap.size, 6, none⟩ = some (.int .i64 0) := by simp [World.cell?, hr, badG, badF, badV]
    have k7 : w1.cell? ⟨w.heap.size, 7, none⟩ = some (.int .i64 0) := by simp [World.cell?, hr, badG, badF, badV]
    have k8 : w1.cell? ⟨w.heap.size, 8, none⟩ = some (.int .i64 0) := by simp [World.cell?, hr, badG, badF, badV]
    have k9 : w1.cell? ⟨w.heap.size, 9, none⟩ = some (.int .i64 0) := by simp [World.cell?, hr, badG, badF, badV]
    simp only [badF, badV]
    have q28 := eq29
    have q29 := eq30
    clear hbel hr
    go_wp2_with fail
    go_ret
    exact ⟨by simp, HB.out.alloc (by omega) _⟩
  | one a c =>
    simp only [badF, badV]
    go_enter Tryd.func10, Tryd.ntmps10
    go_wp2_with fail
    refine (of_at (.one a c) v _ H.out).mono ?_
    rintro x w1 ⟨rfl, hbel⟩
    have hr : w1.heap[w.heap.size]? = some (.cells (badG (.one a c)) 32) := (hbel.block w.heap.size (by simp)).trans (alloc_new _ _)
    have hz := lt_of_some hr
    have HB : Hid (Below w.heap.size w w1) := ((Below.refl _ w).alloc (Nat.le_refl _) _).trans (hbel.mono (by simp))
    have hne : w.heap.size ≠ w1.heap.size := by omega
    have k0 : w1.cell? ⟨w.heap.size, 0, none⟩ = some (.int .i64 1) := by simp [World.cell?, hr, badG, badF, badV]
    have k1 : w1.cell? ⟨w.heap.size, 1, none⟩ = some (.string ⟨#[100, 110, 115]⟩) := by simp [World.cell?, hr, badG, badF, badV]
    have k2 : w1.cell? ⟨w.heap.size, 2, none⟩ = some (.string ⟨#[]⟩) := by simp [World.cell?, hr, badG, badF, badV]
    have k3 : w1.cell? ⟨w.heap.size, 3, none⟩ = some (.string ⟨#[]⟩) := by simp [World.cell?, hr, badG, badF, badV]
    have k4 : w1.cell? ⟨w.heap.size, 4, none⟩ = some (.string ⟨#[]⟩) := by simp [World.cell?, hr, badG, badF, badV]
    have k5 : w1.cell? ⟨w.heap.size, 5, none⟩ = some (.int .i64 a) := by simp [World.cell?, hr, badG, badF, badV]
    have k6 : w1.cell? ⟨w.heap.size, 6, none⟩ = some (.int .i64 0) := by simp [World.cell?, hr, badG, badF, badV]
    have k7 : w1.cell? ⟨w.heap.size, 7, none⟩ = some (.int .i64 0) := by simp [World.cell?, hr, badG, badF, badV]
    have k8 : w1.cell? ⟨w.heap.size, 8, none⟩ = some (.int .i64 0) := by simp [World.cell?, hr, badG, badF, badV]
    have k9 : w1.cell? ⟨w.heap.size, 9, none⟩ = some (.int .i64 c) := by simp [World.cell?, hr, badG, badF, badV]
    simp only [badF, badV]
    have q28 := eq29
    have q29 := eq30
    clear hbel hr
    go_wp2_with fail
    go_ret
    exact ⟨by simp, HB.out.alloc (by omega) _⟩
  | two a b c =>
    simp only [badF, badV]
    go_enter Tryd.func10, Tryd.ntmps10
    go_wp2_with fail
    refine (of_at (.two a b c) v _ H.out).mono ?_
    rintro x w1 ⟨rfl, hbel⟩
    have hr : w1.heap[w.heap.size]? = some (.cells (badG (.two a b c)) 32) := (hbel.block w.heap.size (by simp)).trans (alloc_new _ _)
    have hz := lt_of_some hr
    have HB : Hid (Below w.heap.size w w1) := ((Below.refl _ w).alloc (Nat.le_refl _) _).trans (hbel.mono (by simp))
    have hne : w.heap.size ≠ w1.heap.size := by omega
    have k0 : w1.cell? ⟨w.heap.size, 0, none⟩ = some (.int .i64 2) := by simp [World.cell?, hr, badG, badF, badV]
    have k1 : w1.cell? ⟨w.heap.size, 1, none⟩ = some (.string ⟨#[100, 110, 115]⟩) := by simp [World.cell?, hr, badG, badF, badV]
    have k2 : w1.cell? ⟨w.heap.size, 2, none⟩ = some (.string ⟨#[104, 111, 115, 116]⟩) := by simp [World.cell?, hr, badG, badF, badV]
    have k3 : w1.cell? ⟨w.heap.size, 3, none⟩ = some (.string ⟨#[]⟩) := by simp [World.cell?, hr, badG, badF, badV]
    have k4 : w1.cell? ⟨w.heap.size, 4, none⟩ = some (.string ⟨#[]⟩) := by simp [World.cell?, hr, badG, badF, badV]
    have k5 : w1.cell? ⟨w.heap.size, 5, none⟩ = some (.int .i64 a) := by simp [World.cell?, hr, badG, badF, badV]
    have k6 : w1.cell? ⟨w.heap.size, 6, none⟩ = some (.int .i64 b) := by simp [World.cell?, hr, badG, badF, badV]
    have k7 : w1.cell? ⟨w.heap.size, 7, none⟩ = some (.int .i64 0) := by simp [World.cell?, hr, badG, badF, badV]
    have k8 : w1.cell? ⟨w.heap.size, 8, none⟩ = some (.int .i64 0) := by simp [World.cell?, hr, badG, badF, badV]
    have k9 : w1.cell? ⟨w.heap.size, 9, none⟩ = some (.int .i64 c) := by simp [World.cell?, hr, badG, badF, badV]
    simp only [badF, badV]
    have q28 := eq29
    have q29 := eq30
    clear hbel hr
    go_wp2_with fail
    go_ret
    exact ⟨by simp, HB.out.alloc (by omega) _⟩
set_option maxRecDepth 100000 in
set_option maxHeartbeats 2000000 in
theorem is_not (e : Er) (a2 c2 : Nat) (v : Value) (w : World) (h : IsF w e v) (h0 : e ≠ .ok) (hne0 : e ≠ .one a2 c2) : Calls Tryd.prog 10 #[v, badF (.one a2 c2)] w fun x w' => x = .returned (.bool false) ∧ Below w.heap.size w w' := by
  have H := hide (h.below ((Below.refl _ w).alloc (Nat.le_refl _) (.cells (badG (.one a2 c2)) 32)))
  clear h
  cases e with
  | ok => exact absurd rfl h0
  | one a c =>
    by_cases ha : a = a2
    · subst ha
      have hc : ((c : Int) == (c2 : Int)) = false := by
        have : c ≠ c2 := fun e => hne0 (by rw [e])
        simp; omega
      clear h0 hne0
      simp only [badF, badV]
      go_enter Tryd.func10, Tryd.ntmps10
      go_wp2_with fail
      refine (of_at (.one a c) v _ H.out).mono ?_
      rintro x w1 ⟨rfl, hbel⟩
      have hr : w1.heap[w.heap.size]? = some (.cells (badG (.one a c2)) 32) := (hbel.block w.heap.size (by simp)).trans (alloc_new _ _)
      have hz := lt_of_some hr
      have HB : Hid (Below w.heap.size w w1) := ((Below.refl _ w).alloc (Nat.le_refl _) _).trans (hbel.mono (by simp))
      have hne : w.heap.size ≠ w1.heap.size := by omega
      have k0 : w1.cell? ⟨w.heap.size, 0, none⟩ = some (.int .i64 1) := by simp [World.cell?, hr, badG, badF, badV]
      have k1 : w1.cell? ⟨w.heap.size, 1, none⟩ = some (.string ⟨#[100, 110, 115]⟩) := by simp [World.cell?, hr, badG, badF, badV]
      have k2 : w1.cell? ⟨w.heap.size, 2, none⟩ = some (.string ⟨#[]⟩) := by simp [World.cell?, hr, badG, badF, badV]
      have k3 : w1.cell? ⟨w.heap.size, 3, none⟩ = some (.string ⟨#[]⟩) := by simp [World.cell?, hr, badG, badF, badV]
      have k4 : w1.cell? ⟨w.heap.size, 4, none⟩ = some (.string ⟨#[]⟩) := by simp [World.cell?, hr, badG, badF, badV]
      have k5 : w1.cell? ⟨w.heap.size, 5, none⟩ = some (.int .i64 a) := by simp [World.cell?, hr, badG, badF, badV]
      have k6 : w1.cell? ⟨w.heap.size, 6, none⟩ = some (.int .i64 0) := by simp [World.cell?, hr, badG, badF, badV]
      have k7 : w1.cell? ⟨w.heap.size, 7, none⟩ = some (.int .i64 0) := by simp [World.cell?, hr, badG, badF, badV]
      have k8 : w1.cell? ⟨w.heap.size, 8, none⟩ = some (.int .i64 0) := by simp [World.cell?, hr, badG, badF, badV]
      have k9 : w1.cell? ⟨w.heap.size, 9, none⟩ = some (.int .i64 c2) := by simp [World.cell?, hr, badG, badF, badV]
      simp only [badF, badV]
      have q28 := eq29
      have q29 := eq30
      clear hbel hr
      go_wp2_with fail
      go_ret
      exact ⟨rfl, HB.out.alloc (by omega) _⟩
    · have ha' : (a : Int) ≠ (a2 : Int) := by omega
      have hq := ne30 (a : Int) 0 0 0 (a2 : Int)
      have HQ : Hid (∀ w, (Op.equalIn 9999 29 (.agg #[.int .i64 a, .int .i64 0, .int .i64 0, .int .i64 0]) (.agg #[.int .i64 a2, .int .i64 0, .int .i64 0, .int .i64 0])).run Tryd.prog w = .ok false w) := fun w => hq w ha'
      clear h0 hne0 ha ha' hq
      simp only [badF, badV]
      go_enter Tryd.func10, Tryd.ntmps10
      go_wp2_with fail
      refine (of_at (.one a c) v _ H.out).mono ?_
      rintro x w1 ⟨rfl, hbel⟩
      have hr : w1.heap[w.heap.size]? = some (.cells (badG (.one a2 c2)) 32) := (hbel.block w.heap.size (by simp)).trans (alloc_new _ _)
      have hz := lt_of_some hr
      have HB : Hid (Below w.heap.size w w1) := ((Below.refl _ w).alloc (Nat.le_refl _) _).trans (hbel.mono (by simp))
      have hne : w.heap.size ≠ w1.heap.size := by omega
      have k0 : w1.cell? ⟨w.heap.size, 0, none⟩ = some (.int .i64 1) := by simp [World.cell?, hr, badG, badF, badV]
      have k1 : w1.cell? ⟨w.heap.size, 1, none⟩ = some (.string ⟨#[100, 110, 115]⟩) := by simp [World.cell?, hr, badG, badF, badV]
      have k2 : w1.cell? ⟨w.heap.size, 2, none⟩ = some (.string ⟨#[]⟩) := by simp [World.cell?, hr, badG, badF, badV]
      have k3 : w1.cell? ⟨w.heap.size, 3, none⟩ = some (.string ⟨#[]⟩) := by simp [World.cell?, hr, badG, badF, badV]
      have k4 : w1.cell? ⟨w.heap.size, 4, none⟩ = some (.string ⟨#[]⟩) := by simp [World.cell?, hr, badG, badF, badV]
      have k5 : w1.cell? ⟨w.heap.size, 5, none⟩ = some (.int .i64 a2) := by simp [World.cell?, hr, badG, badF, badV]
      have k6 : w1.cell? ⟨w.heap.size, 6, none⟩ = some (.int .i64 0) := by simp [World.cell?, hr, badG, badF, badV]
      have k7 : w1.cell? ⟨w.heap.size, 7, none⟩ = some (.int .i64 0) := by simp [World.cell?, hr, badG, badF, badV]
      have k8 : w1.cell? ⟨w.heap.size, 8, none⟩ = some (.int .i64 0) := by simp [World.cell?, hr, badG, badF, badV]
      have k9 : w1.cell? ⟨w.heap.size, 9, none⟩ = some (.int .i64 c2) := by simp [World.cell?, hr, badG, badF, badV]
      simp only [badF, badV]
      have q28 := eq29
      have q31 := HQ.out
      clear hbel hr
      go_wp2_with fail
      go_ret
      exact ⟨rfl, HB.out.alloc (by omega) _⟩
  | two a b c =>
    clear h0 hne0
    simp only [badF, badV]
    go_enter Tryd.func10, Tryd.ntmps10
    go_wp2_with fail
    refine (of_at (.two a b c) v _ H.out).mono ?_
    rintro x w1 ⟨rfl, hbel⟩
    have hr : w1.heap[w.heap.size]? = some (.cells (badG (.one a2 c2)) 32) := (hbel.block w.heap.size (by simp)).trans (alloc_new _ _)
    have hz := lt_of_some hr
    have HB : Hid (Below w.heap.size w w1) := ((Below.refl _ w).alloc (Nat.le_refl _) _).trans (hbel.mono (by simp))
    have hne : w.heap.size ≠ w1.heap.size := by omega
    have k0 : w1.cell? ⟨w.heap.size, 0, none⟩ = some (.int .i64 1) := by simp [World.cell?, hr, badG, badF, badV]
    have k1 : w1.cell? ⟨w.heap.size, 1, none⟩ = some (.string ⟨#[100, 110, 115]⟩) := by simp [World.cell?, hr, badG, badF, badV]
    have k2 : w1.cell? ⟨w.heap.size, 2, none⟩ = some (.string ⟨#[]⟩) := by simp [World.cell?, hr, badG, badF, badV]
    have k3 : w1.cell? ⟨w.heap.size, 3, none⟩ = some (.string ⟨#[]⟩) := by simp [World.cell?, hr, badG, badF, badV]
    have k4 : w1.cell? ⟨w.heap.size, 4, none⟩ = some (.string ⟨#[]⟩) := by simp [World.cell?, hr, badG, badF, badV]
    have k5 : w1.cell? ⟨w.heap.size, 5, none⟩ = some (.int .i64 a2) := by simp [World.cell?, hr, badG, badF, badV]
    have k6 : w1.cell? ⟨w.heap.size, 6, none⟩ = some (.int .i64 0) := by simp [World.cell?, hr, badG, badF, badV]
    have k7 : w1.cell? ⟨w.heap.size, 7, none⟩ = some (.int .i64 0) := by simp [World.cell?, hr, badG, badF, badV]
    have k8 : w1.cell? ⟨w.heap.size, 8, none⟩ = some (.int .i64 0) := by simp [World.cell?, hr, badG, badF, badV]
    have k9 : w1.cell? ⟨w.heap.size, 9, none⟩ = some (.int .i64 c2) := by simp [World.cell?, hr, badG, badF, badV]
    simp only [badF, badV]
    have q28 := eq29
    have q29 := eq30
    clear hbel hr
    go_wp2_with fail
    go_ret
    exact ⟨rfl, HB.out.alloc (by omega) _⟩

end Go.Proofs.YtelfikbahcckaaaDoor
