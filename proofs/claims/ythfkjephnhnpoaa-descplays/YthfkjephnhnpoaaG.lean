/-
  The chapter's example, and the calls of a table that no call made; conditions as each theorem has them.
-/
import Derived.Test.YthfkjephnhnpoaaF
set_option linter.unusedSimpArgs false
set_option linter.unusedVariables false
namespace Go.Proofs.Ythfkjephnhnpoaa
open Go.RowKit

/-- A handle's box. -/
def Box (w : World) (b : Nat) (x y : Int) : Prop := w.heap[b]? = some (boxH x y)
theorem Box.cells {w : World} {b : Nat} {x y : Int} (h : Box w b x y) : w.cell? ⟨b, 0, none⟩ = some (.int .i64 x) ∧ w.cell? ⟨b, 1, none⟩ = some (.int .i64 y) := by
  unfold Box at h
  constructor
  · simp only [World.cell?, h]; rfl
  · simp only [World.cell?, h]; rfl
theorem Box.frozen {w : World} {b : Nat} {x y : Int} (h : Box w b x y) (o : Nat) : w.frozen? ⟨b, o, none⟩ = false := cells_frozen h o
theorem Box.lt {w : World} {b : Nat} {x y : Int} (h : Box w b x y) : b < w.heap.size := lt_of_some h
theorem Box.below {w w' : World} {B b : Nat} {x y : Int} (h : Box w b x y) (k : Below B w w') (hb : b < B) : Box w' b x y := (k.block b hb).trans h
theorem Box.kept {w w' : World} {g b : Nat} {x y : Int} (h : Box w b x y) (k : Kept g g w w') (hb : b ≠ g) : Box w' b x y := (k.block b h.lt hb hb).trans h
theorem Box.alloc {w : World} {b : Nat} {x y : Int} (h : Box w b x y) (o : Obj) : Box (w.alloc o) b x y := alloc_old o h
theorem box_new (w : World) (x y : Int) : Box (w.alloc (boxH x y)) w.heap.size x y := alloc_new _ _

set_option maxRecDepth 100000 in
set_option maxHeartbeats 1000000 in
theorem works_at (w : World) : Calls Try.prog 19 #[] w fun e w' => e = .returned (.bool true) ∧ Below w.heap.size w w' := by
  obtain ⟨g, hg⟩ : ∃ g, g = w.heap.size := ⟨_, rfl⟩
  have HG := hide hg
  go_enter Try.func19, Try.ntmps19
  go_wp2_with fail
  refine (new_good 1 w (by omega)).mono ?_
  rintro e w1 ⟨rfl, ht, hb⟩
  rw [← hg] at ht hb ⊢
  clear hg
  have hl1 := ht.lt
  have HO : Hid (Calls Try.prog 13 #[.pointer (some ⟨g + 1, 0, none⟩), .int .i64 7, .int .i64 8] w1 fun x w' => x = .returned (.tuple #[hnd 0 1, .int .i64 0]) ∧ IsTab w' (g + 1) g [⟨1, 1, 7, 8⟩] ∧ Kept g g w1 w') := open_ok (g + 1) g [freshE] 0 freshE 7 8 w1 ht rfl rfl
  have HB1 := hide hb
  clear ht hb
  go_wp2_with fail
  refine HO.out.mono ?_
  rintro e w2 ⟨rfl, ht2, hk2⟩
  have hl2 := ht2.lt
  have HB2 : Hid (Below g w w2) := HB1.out.trans (hk2.below (Nat.le_refl _) (Nat.le_refl _) (by omega))
  have HO2 : Hid (Calls Try.prog 13 #[.pointer (some ⟨g + 1, 0, none⟩), .int .i64 1, .int .i64 1] (w2.alloc (boxH 0 1)) fun x w' => x = .returned (.tuple #[hnd 0 0, .int .i64 4]) ∧ Below (w2.alloc (boxH 0 1)).heap.size (w2.alloc (boxH 0 1)) w') := open_full (g + 1) g _ 1 1 (w2.alloc (boxH 0 1)) (ht2.alloc _) rfl
  have HT2 := hide (ht2.alloc (boxH 0 1))
  clear ht2 hk2 HO HB1
  go_wp2_with fail
  refine HO2.out.mono ?_
  rintro e w3 ⟨rfl, hb3⟩
  have hz3 := hb3.size
  have hz3' : w2.heap.size < w3.heap.size := by simp at hz3; omega
  have HX3 : Hid (Box w3 w2.heap.size 0 1) := (box_new w2 0 1).below hb3 (by simp)
  have HT3 : Hid (IsTab w3 (g + 1) g [⟨1, 1, 7, 8⟩]) := HT2.out.below hb3 (by simp; omega) (by simp; omega)
  have HB3 : Hid (Below g w w3) := (HB2.out.alloc (by omega) _).trans (hb3.mono (by simp; omega))
  obtain ⟨q0, q1⟩ := HX3.out.cells
  have HC : Hid (Calls Try.prog 12 #[.pointer (some ⟨g + 1, 0, none⟩), hnd 0 1] (w3.alloc (boxH 0 0)) fun x w' => x = .returned (.int .i64 0) ∧ IsTab w' (g + 1) g [⟨0, 2, 0, 0⟩] ∧ Kept g g (w3.alloc (boxH 0 0)) w') := close_ok (g + 1) g _ 0 ⟨1, 1, 7, 8⟩ (w3.alloc (boxH 0 0)) (HT3.out.alloc _) rfl rfl
  clear hb3 hz3 HO2 HT2 HB2
  go_wp2_with fail
  refine HC.out.mono ?_
  rintro e w4 ⟨rfl, ht4, hk4⟩
  have hz4 := hk4.size
  have hz4' : w2.heap.size < w4.heap.size := by simp at hz4; omega
  have HX4 : Hid (Box w4 w2.heap.size 0 1) := (HX3.out.alloc _).kept hk4 (by omega)
  have HB4 : Hid (Below g w w4) := (HB3.out.alloc (by omega) _).trans (hk4.below (Nat.le_refl _) (Nat.le_refl _) (by simp; omega))
  have HL : Hid (Calls Try.prog 20 #[.pointer (some ⟨g + 1, 0, none⟩), hnd 0 1] w4 fun e w' => e = .returned (.tuple #[.int .i64 0, .int .i64 0, .int .i64 30]) ∧ Below w4.heap.size w4 w') := lookup_bad (g + 1) g _ 0 1 w4 ht4 (show code [⟨0, 2, 0, 0⟩] 0 1 ≠ 0 by decide)
  have HT4 := hide ht4
  obtain ⟨q0, q1⟩ := HX4.out.cells
  clear ht4 hk4 hz4 HC HX3 HT3 HB3
  go_wp2_with fail
  refine HL.out.mono ?_
  rintro e w5 ⟨rfl, hb5⟩
  have hz5 := hb5.size
  have HX5 : Hid (Box w5 w2.heap.size 0 1) := HX4.out.below hb5 hz4'
  have HT5 : Hid (IsTab w5 (g + 1) g [⟨0, 2, 0, 0⟩]) := HT4.out.below hb5 (by omega) (by omega)
  have HB5 : Hid (Below g w w5) := HB4.out.trans (hb5.mono (by omega))
  have HO5 : Hid (Calls Try.prog 13 #[.pointer (some ⟨g + 1, 0, none⟩), .int .i64 9, .int .i64 9] w5 fun x w' => x = .returned (.tuple #[hnd 0 2, .int .i64 0]) ∧ IsTab w' (g + 1) g [⟨1, 2, 9, 9⟩] ∧ Kept g g w5 w') := open_ok (g + 1) g _ 0 ⟨0, 2, 0, 0⟩ 9 9 w5 HT5.out rfl rfl
  clear hb5 HX4 HT4 HB4 HL
  go_wp2_with fail
  refine HO5.out.mono ?_
  rintro e w6 ⟨rfl, ht6, hk6⟩
  have hz6 := hk6.size
  have HX6 : Hid (Box w6 w2.heap.size 0 1) := HX5.out.kept hk6 (by omega)
  have HB6 : Hid (Below g w w6) := HB5.out.trans (hk6.below (Nat.le_refl _) (Nat.le_refl _) (by omega))
  have HL6 : Hid (Calls Try.prog 20 #[.pointer (some ⟨g + 1, 0, none⟩), hnd 0 2] (w6.alloc (boxH 0 2)) fun e w' => e = .returned (.tuple #[.int .i64 9, .int .i64 9, .int .i64 0]) ∧ Below (w6.alloc (boxH 0 2)).heap.size (w6.alloc (boxH 0 2)) w') := lookup_ok (g + 1) g _ 0 ⟨1, 2, 9, 9⟩ _ (ht6.alloc _) rfl rfl
  clear ht6 hk6 HO5 HX5 HT5 HB5
  go_wp2_with fail
  refine HL6.out.mono ?_
  rintro e w7 ⟨rfl, hb7⟩
  have HX7 : Hid (Box w7 w2.heap.size 0 1) := (HX6.out.alloc _).below hb7 (by simp; omega)
  have HY7 : Hid (Box w7 w6.heap.size 0 2) := (box_new w6 0 2).below hb7 (by simp)
  have HB7 : Hid (Below g w w7) := (HB6.out.alloc (by omega) _).trans (hb7.mono (by simp; omega))
  obtain ⟨q0, q1⟩ := HX7.out.cells
  obtain ⟨p0, p1⟩ := HY7.out.cells
  clear hb7 HL6
  go_wp2_with fail
  go_ret
  exact ⟨rfl, by rw [← HG.out]; exact HB7.out⟩

/-- A pointer to no table that New made: nil, or to one that does not say that it was made. -/
def Unmade (w : World) (v : Value) : Prop := v = .pointer none ∨ ∃ r : Nat, v = .pointer (some ⟨r, 0, none⟩) ∧ w.cell? ⟨r, 0, none⟩ = some (.bool false) ∧ r < w.heap.size

theorem Unmade.below {w w' : World} {v : Value} (h : Unmade w v) (hb : Below w.heap.size w w') : Unmade w' v := by
  rcases h with h | ⟨r, h1, h2, h3⟩
  · exact Or.inl h
  · exact Or.inr ⟨r, h1, (hb.cell (p := ⟨r, 0, none⟩) h3).trans h2, Nat.lt_of_lt_of_le h3 hb.size⟩

set_option maxHeartbeats 400000 in
theorem open_un (v : Value) (k n : Int) (w : World) (hv : Unmade w v) : Calls Try.prog 13 #[v, .int .i64 k, .int .i64 n] w fun e w' => e = .returned (.tuple #[hnd 0 0, .int .i64 1]) ∧ Below w.heap.size w w' := by
  rcases hv with rfl | ⟨r, rfl, h0, hr⟩
  all_goals
    go_enter Try.func13, Try.ntmps13
    go_wp2
    go_returns
    exact ⟨rfl, (Below.refl _ _).alloc (Nat.le_refl _) _⟩

set_option maxHeartbeats 400000 in
theorem find_un (v : Value) (x y : Int) (w : World) (hv : Unmade w v) : Calls Try.prog 24 #[v, hnd x y] w fun e w' => e = .returned (.tuple #[.pointer none, .int .i64 1]) ∧ Below w.heap.size w w' := by
  rcases hv with rfl | ⟨r, rfl, h0, hr⟩
  all_goals
    go_enter Try.func24, Try.ntmps24
    go_wp2
    go_ret2
    exact ⟨rfl, (Below.refl _ _).alloc (Nat.le_refl _) _⟩

theorem Unmade.alloc {w : World} {v : Value} (h : Unmade w v) (o : Obj) : Unmade (w.alloc o) v := h.below ((Below.refl _ _).alloc (Nat.le_refl _) _)

set_option maxHeartbeats 400000 in
theorem close_un (v : Value) (x y : Int) (w : World) (hv : Unmade w v) : Calls Try.prog 12 #[v, hnd x y] w fun e w' => e = .returned (.int .i64 1) ∧ Below w.heap.size w w' := by
  have HF := hide (find_un v x y _ (hv.alloc (boxH x y)))
  clear hv
  go_enter Try.func12, Try.ntmps12
  go_wp2_with fail
  refine HF.out.mono ?_
  rintro e w1 ⟨rfl, hb⟩
  have HB := hide hb
  clear hb
  go_wp2_with fail
  go_ret
  exact ⟨rfl, below_new _ HB.out⟩

set_option maxHeartbeats 400000 in
theorem lookup_un (v : Value) (x y : Int) (w : World) (hv : Unmade w v) : Calls Try.prog 20 #[v, hnd x y] w fun e w' => e = .returned (.tuple #[.int .i64 0, .int .i64 0, .int .i64 1]) ∧ Below w.heap.size w w' := by
  have HF := hide (find_un v x y _ (hv.alloc (boxH x y)))
  clear hv
  go_enter Try.func20, Try.ntmps20
  go_wp2_with fail
  refine HF.out.mono ?_
  rintro e w1 ⟨rfl, hb⟩
  have HB := hide hb
  clear hb
  go_wp2_with fail
  go_ret3
  exact ⟨rfl, below_new _ HB.out⟩

set_option maxHeartbeats 400000 in
theorem set_un (v : Value) (x y k n : Int) (w : World) (hv : Unmade w v) : Calls Try.prog 21 #[v, hnd x y, .int .i64 k, .int .i64 n] w fun e w' => e = .returned (.int .i64 1) ∧ Below w.heap.size w w' := by
  have HF := hide (find_un v x y _ (hv.alloc (boxH x y)))
  clear hv
  go_enter Try.func21, Try.ntmps21
  go_wp2_with fail
  refine HF.out.mono ?_
  rintro e w1 ⟨rfl, hb⟩
  have HB := hide hb
  clear hb
  go_wp2_with fail
  go_ret
  exact ⟨rfl, below_new _ HB.out⟩

set_option maxHeartbeats 400000 in
theorem age_un (v : Value) (x y : Int) (w : World) (hv : Unmade w v) : Calls Try.prog 22 #[v, .int .i64 x, .int .i64 y] w fun e w' => e = .returned (.int .i64 1) ∧ w = w' := by
  rcases hv with rfl | ⟨r, rfl, h0, hr⟩
  all_goals
    go_enter Try.func22, Try.ntmps22
    go_wp2
    go_ret
    exact ⟨rfl, rfl⟩

set_option maxHeartbeats 400000 in
theorem used_un (v : Value) (w : World) (hv : Unmade w v) : Calls Try.prog 18 #[v] w fun e w' => e = .returned (.int .i64 0) ∧ w = w' := by
  rcases hv with rfl | ⟨r, rfl, h0, hr⟩
  all_goals
    go_enter Try.func18, Try.ntmps18
    go_wp2
    go_ret
    exact ⟨rfl, rfl⟩

set_option maxHeartbeats 400000 in
theorem live_un (v : Value) (w : World) (hv : Unmade w v) : Calls Try.prog 15 #[v] w fun e w' => e = .returned (.slice none 0 0) ∧ w = w' := by
  rcases hv with rfl | ⟨r, rfl, h0, hr⟩
  all_goals
    go_enter Try.func15, Try.ntmps15
    go_wp2
    go_ret
    exact ⟨rfl, rfl⟩

set_option maxHeartbeats 400000 in
theorem clone_un (v : Value) (w : World) (hv : Unmade w v) : Calls Try.prog 11 #[v] w fun e w' => e = .returned (.pointer none) ∧ w = w' := by
  rcases hv with rfl | ⟨r, rfl, h0, hr⟩
  all_goals
    go_enter Try.func11, Try.ntmps11
    go_wp2
    go_ret
    exact ⟨rfl, rfl⟩

end Go.Proofs.Ythfkjephnhnpoaa
