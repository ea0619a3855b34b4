/-
  The walk of DescNone: for every handle the call answers true and leaves what was there; no conditions.
-/
import Derived.Test.YthfkjephnhnpoaaG
set_option linter.unusedSimpArgs false
set_option linter.unusedVariables false
namespace Go.Proofs.Ythfkjephnhnpoaa
open Go.RowKit

structure St (w W : World) (b z : Nat) (x y : Int) : Prop where
  box : Box W b x y
  un : Unmade W (.pointer (some ⟨z, 0, none⟩))
  below : Below w.heap.size w W
  zlt : z < W.heap.size
theorem St.step {w W W' : World} {b z : Nat} {x y : Int} (s : St w W b z x y) (h : Below W.heap.size W W') : St w W' b z x y :=
  ⟨s.box.below h s.box.lt, s.un.below h, s.below.trans (h.mono s.below.size), Nat.lt_of_lt_of_le s.zlt h.size⟩
theorem St.alloc {w W : World} {b z : Nat} {x y : Int} (s : St w W b z x y) (o : Obj) : St w (W.alloc o) b z x y := s.step ((Below.refl _ _).alloc (Nat.le_refl _) _)

set_option maxRecDepth 100000 in
set_option maxHeartbeats 2000000 in
theorem none_walk (x y : Int) (w : World) : Calls Try.prog 7 #[hnd x y] w fun e w' => e = .returned (.bool true) ∧ Below w.heap.size w w' := by
  obtain ⟨b, hb0⟩ : ∃ b, b = w.heap.size := ⟨_, rfl⟩
  go_enter Try.func7, Try.ntmps7
  go_wp2_with fail
  refine (works_at (w.alloc (boxH x y))).mono ?_
  rintro e w1 ⟨rfl, hb⟩
  have hbx : Box w1 b x y := by rw [hb0]; exact (box_new w x y).below hb (by simp)
  have hbw : Below w.heap.size w w1 := below_new _ hb
  rw [← hb0]
  obtain ⟨q0, q1⟩ := hbx.cells
  have hbl := hbx.lt
  have HBX := hide hbx
  have HBW := hide hbw
  have HB0 := hide hb0
  clear hb0 hb hbx hbw
  obtain ⟨z, hz⟩ : ∃ z, z = w1.heap.size := ⟨_, rfl⟩
  have S0 : Hid (St w (w1.alloc (.cells #[.bool false, .slice none 0 0] 54)) b z x y) := by
    rw [hz]
    refine ⟨HBX.out.alloc _, Or.inr ⟨_, rfl, ?_, by simp⟩, HBW.out.alloc HBW.out.size _, by simp⟩
    simp only [World.cell?, alloc_new]; rfl
  go_wp2_with fail
  rw [← hz]
  have HZ := hide hz
  clear hz
  refine (open_un (.pointer none) 1 2 (w1.alloc (.cells #[.bool false, .slice none 0 0] 54)) (Or.inl rfl)).mono ?_
  rintro e w2 ⟨rfl, hb⟩
  have S1 : Hid (St w (w2.alloc (boxH 0 0)) b z x y) := (S0.out.step hb).alloc _
  obtain ⟨q0, q1⟩ := (S0.out.step hb).box.cells
  have hb2 := (S0.out.step hb).box.lt
  have hz2 := (S0.out.step hb).zlt
  clear hb
  go_wp2_with fail
  refine (open_un (.pointer (some ⟨z, 0, none⟩)) 1 2 (w2.alloc (boxH 0 0)) S1.out.un).mono ?_
  rintro e w3 ⟨rfl, hb⟩
  have S2 : Hid (St w (w3.alloc (boxH 0 0)) b z x y) := (S1.out.step hb).alloc _
  obtain ⟨q0, q1⟩ := (S1.out.step hb).box.cells
  have hb3 := (S1.out.step hb).box.lt
  have hz3 := (S1.out.step hb).zlt
  clear hb
  go_wp2_with fail
  refine (lookup_un (.pointer none) x y (w3.alloc (boxH 0 0)) (Or.inl rfl)).mono ?_
  rintro e w4 ⟨rfl, hb⟩
  have S3 : Hid (St w w4 b z x y) := S2.out.step hb
  obtain ⟨q0, q1⟩ := (S2.out.step hb).box.cells
  have hb4 := (S2.out.step hb).box.lt
  have hz4 := (S2.out.step hb).zlt
  clear hb
  go_wp2_with fail
  refine (lookup_un (.pointer (some ⟨z, 0, none⟩)) x y w4 S3.out.un).mono ?_
  rintro e w5 ⟨rfl, hb⟩
  have S4 : Hid (St w w5 b z x y) := S3.out.step hb
  obtain ⟨q0, q1⟩ := (S3.out.step hb).box.cells
  have hb5 := (S3.out.step hb).box.lt
  have hz5 := (S3.out.step hb).zlt
  clear hb
  go_wp2_with fail
  refine (close_un (.pointer none) x y w5 (Or.inl rfl)).mono ?_
  rintro e w6 ⟨rfl, hb⟩
  have S5 : Hid (St w w6 b z x y) := S4.out.step hb
  obtain ⟨q0, q1⟩ := (S4.out.step hb).box.cells
  have hb6 := (S4.out.step hb).box.lt
  have hz6 := (S4.out.step hb).zlt
  clear hb
  go_wp2_with fail
  refine (close_un (.pointer (some ⟨z, 0, none⟩)) x y w6 S5.out.un).mono ?_
  rintro e w7 ⟨rfl, hb⟩
  have S6 : Hid (St w w7 b z x y) := S5.out.step hb
  obtain ⟨q0, q1⟩ := (S5.out.step hb).box.cells
  have hb7 := (S5.out.step hb).box.lt
  have hz7 := (S5.out.step hb).zlt
  clear hb
  go_wp2_with fail
  refine (set_un (.pointer none) x y 1 1 w7 (Or.inl rfl)).mono ?_
  rintro e w8 ⟨rfl, hb⟩
  have S7 : Hid (St w w8 b z x y) := S6.out.step hb
  obtain ⟨q0, q1⟩ := (S6.out.step hb).box.cells
  have hb8 := (S6.out.step hb).box.lt
  have hz8 := (S6.out.step hb).zlt
  clear hb
  go_wp2_with fail
  refine (set_un (.pointer (some ⟨z, 0, none⟩)) x y 1 1 w8 S7.out.un).mono ?_
  rintro e w9 ⟨rfl, hb⟩
  have S8 : Hid (St w w9 b z x y) := S7.out.step hb
  obtain ⟨q0, q1⟩ := (S7.out.step hb).box.cells
  have hb9 := (S7.out.step hb).box.lt
  have hz9 := (S7.out.step hb).zlt
  clear hb
  go_wp2_with fail
  refine (age_un (.pointer none) 0 1 w9 (Or.inl rfl)).mono ?_
  rintro e v1 ⟨rfl, rfl⟩
  go_wp2_with fail
  refine (age_un (.pointer (some ⟨z, 0, none⟩)) 0 1 w9 S8.out.un).mono ?_
  rintro e v1 ⟨rfl, rfl⟩
  go_wp2_with fail
  refine (used_un (.pointer none) w9 (Or.inl rfl)).mono ?_
  rintro e v1 ⟨rfl, rfl⟩
  go_wp2_with fail
  refine (used_un (.pointer (some ⟨z, 0, none⟩)) w9 S8.out.un).mono ?_
  rintro e v1 ⟨rfl, rfl⟩
  go_wp2_with fail
  refine (live_un (.pointer none) w9 (Or.inl rfl)).mono ?_
  rintro e v1 ⟨rfl, rfl⟩
  go_wp2_with fail
  refine (live_un (.pointer (some ⟨z, 0, none⟩)) w9 S8.out.un).mono ?_
  rintro e v1 ⟨rfl, rfl⟩
  go_wp2_with fail
  refine (clone_un (.pointer none) w9 (Or.inl rfl)).mono ?_
  rintro e v1 ⟨rfl, rfl⟩
  go_wp2_with fail
  refine (clone_un (.pointer (some ⟨z, 0, none⟩)) w9 S8.out.un).mono ?_
  rintro e v1 ⟨rfl, rfl⟩
  go_wp2_with fail
  go_ret
  exact ⟨rfl, S8.out.below⟩

end Go.Proofs.Ythfkjephnhnpoaa
