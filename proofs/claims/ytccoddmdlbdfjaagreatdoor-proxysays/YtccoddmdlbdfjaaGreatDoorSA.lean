/-
  A connection that no call made answers nothing; what is said when nothing waits; conditions as each theorem has them.
-/
import Derived.Test.YtccoddmdlbdfjaaGreatDoorJoinedWK
set_option linter.unusedSimpArgs false
set_option linter.unusedVariables false
set_option linter.constructorNameAsVariable false
set_option maxRecDepth 100000
namespace Go.Proofs.YtccoddmdlbdfjaaGreatDoor
open Go.RowKit

/-- A connection that New did not make. -/
def Bare (w : World) (p : Option Addr) : Prop := p = none ∨ ∃ b, p = some ⟨b, 0, none⟩ ∧ w.cell? ⟨b, 0, none⟩ = some (.bool false)
theorem Bare.made {w : World} {p : Option Addr} (h : Bare w p) : Calls Tryz.prog 36 #[.pointer p] w fun e w' => e = .returned (.bool false) ∧ w = w' := by
  rcases h with rfl | ⟨b, rfl, h⟩
  · exact isMade_nil w
  · exact isMade_zero b w h
theorem Bare.below {w w' : World} {p : Option Addr} (h : Bare w p) (k : Below w.heap.size w w') : Bare w' p := by
  rcases h with h | ⟨b, e, h⟩
  · exact Or.inl h
  · exact Or.inr ⟨b, e, (k.cell (p := ⟨b, 0, none⟩) (lt_of_cell h)).trans h⟩
theorem add_bare (p a : Option Addr) (n c : Nat) (w : World) (h : Bare w p) : Calls Tryz.prog 11 #[.pointer p, .slice a n c] w fun e w' => e = .returned (.int .i64 0) ∧ w = w' := by
  have HM := hide h.made
  clear h
  go_enter Tryz.func11, Tryz.ntmps11
  go_wp2_with fail
  refine HM.out.mono ?_
  rintro e w1 ⟨rfl, rfl⟩
  go_wp2_with fail
  go_ret
  exact ⟨rfl, rfl⟩
theorem tell_bare (p : Option Addr) (c : Int) (w : World) (h : Bare w p) : Calls Tryz.prog 14 #[.pointer p, .int .i64 c] w fun e w' => e = .returned (.int .i64 1) ∧ w = w' := by
  have HM := hide h.made
  clear h
  go_enter Tryz.func14, Tryz.ntmps14
  go_wp2_with fail
  refine HM.out.mono ?_
  rintro e w1 ⟨rfl, rfl⟩
  go_wp2_with fail
  go_ret
  exact ⟨rfl, rfl⟩
theorem pass_bare (p : Option Addr) (w : World) (h : Bare w p) : Calls Tryz.prog 16 #[.pointer p] w fun e w' => e = .returned (.int .i64 1) ∧ w = w' := by
  have HM := hide h.made
  clear h
  go_enter Tryz.func16, Tryz.ntmps16
  go_wp2_with fail
  refine HM.out.mono ?_
  rintro e w1 ⟨rfl, rfl⟩
  go_wp2_with fail
  go_ret
  exact ⟨rfl, rfl⟩
theorem out_bare (p : Option Addr) (w : World) (h : Bare w p) : Calls Tryz.prog 18 #[.pointer p] w fun e w' => e = .returned (.slice none 0 0) ∧ w = w' := by
  have HM := hide h.made
  clear h
  go_enter Tryz.func18, Tryz.ntmps18
  go_wp2_with fail
  refine HM.out.mono ?_
  rintro e w1 ⟨rfl, rfl⟩
  go_wp2_with fail
  go_ret
  exact ⟨rfl, rfl⟩
theorem sends_bare (p : Option Addr) (w : World) (h : Bare w p) : Calls Tryz.prog 27 #[.pointer p] w fun e w' => e = .returned (.slice none 0 0) ∧ w = w' := by
  have HM := hide h.made
  clear h
  go_enter Tryz.func27, Tryz.ntmps27
  go_wp2_with fail
  refine HM.out.mono ?_
  rintro e w1 ⟨rfl, rfl⟩
  go_wp2_with fail
  go_ret
  exact ⟨rfl, rfl⟩
theorem state_bare (p : Option Addr) (w : World) (h : Bare w p) : Calls Tryz.prog 25 #[.pointer p] w fun e w' => e = .returned (.int .i64 0) ∧ w = w' := by
  have HM := hide h.made
  clear h
  go_enter Tryz.func25, Tryz.ntmps25
  go_wp2_with fail
  refine HM.out.mono ?_
  rintro e w1 ⟨rfl, rfl⟩
  go_wp2_with fail
  go_ret
  exact ⟨rfl, rfl⟩
theorem clone_bare (p : Option Addr) (w : World) (h : Bare w p) : Calls Tryz.prog 19 #[.pointer p] w fun e w' => e = .returned (.pointer none) ∧ w = w' := by
  have HM := hide h.made
  clear h
  go_enter Tryz.func19, Tryz.ntmps19
  go_wp2_with fail
  refine HM.out.mono ?_
  rintro e w1 ⟨rfl, rfl⟩
  go_wp2_with fail
  go_ret
  exact ⟨rfl, rfl⟩
theorem own_none_at (w : World) : Calls Tryz.prog 21 #[.int .i64 0] w fun e w' => e = .returned (.slice none 0 0) ∧ w = w' := by
  have HR := hide (reasonOf_at 0 w)
  have q : ((strN (rsn 0)).toList == []) = true := by decide +kernel
  obtain ⟨R, hR⟩ : ∃ R, R = strN (rsn 0) := ⟨_, rfl⟩
  rw [← hR] at HR q
  clear hR
  go_enter Tryz.func21, Tryz.ntmps21
  go_wp2_with fail
  refine HR.out.mono ?_
  rintro e w1 ⟨rfl, rfl⟩
  go_wp2_with fail
  go_ret
  exact ⟨rfl, rfl⟩
theorem out_none_at (b x : Nat) (C : Cn) (w : World) (h : PC w b x C) (h0 : C.said = 0) : Calls Tryz.prog 18 #[.pointer (some ⟨b, 0, none⟩)] w fun e w' => e = .returned (.slice none 0 0) ∧ PC w' b x (outC C) ∧ Kept b b w w' := by
  have H0 := hide (h.setSaid 0)
  obtain ⟨r, a, n, c, h1, _⟩ := h
  have HM := hide (isMade_at b w (h1.cell 0))
  have c11 : w.cell? ⟨b, 11, none⟩ = some (.int .i64 C.said) := h1.cell 11
  rw [h0] at c11
  have f11 := h1.frozen 11
  have k0 : Kept b b w (w.setCell ⟨b, 11, none⟩ (.int .i64 0)) := (Kept.refl b b w).set 11 _
  have HO := hide (own_none_at (w.setCell ⟨b, 11, none⟩ (.int .i64 0)))
  have K0 := hide k0
  have HC : Hid ({ C with said := 0 } = outC C) := rfl
  rw [HC.out] at H0
  obtain ⟨D, hD⟩ : ∃ D, D = outC C := ⟨_, rfl⟩
  rw [← hD] at H0 ⊢
  clear h1 k0 HC hD h0
  go_enter Tryz.func18, Tryz.ntmps18
  go_wp2_with fail
  refine HM.out.mono ?_
  rintro e w1 ⟨rfl, rfl⟩
  go_wp2_with fail
  refine HO.out.mono ?_
  rintro e w1 ⟨rfl, rfl⟩
  go_wp2_with fail
  go_ret
  exact ⟨rfl, H0.out, K0.out⟩
attribute [local go_sem ↓] run_opLd run_opst44 Go.wp_at_zero Go.wp_at_succ
attribute [local go_sem] arrAt_ptr isAt_ptr putAt_ptr
set_option maxHeartbeats 1000000 in
theorem wants_bare (p : Option Addr) (w : World) (h : Bare w p) : Calls Tryz.prog 24 #[.pointer p] w fun e w' => e = .returned (.tuple #[.agg #[.string ⟨#[]⟩, .int .u8 0, .int .u8 0, .int .u8 0, .int .u8 0, .string ⟨#[]⟩, .int .i64 0, .string ⟨#[]⟩, .slice none 0 0], .bool false]) ∧ Below w.heap.size w w' := by
  obtain ⟨G, hG⟩ : ∃ G, G = w.heap.size := ⟨_, rfl⟩
  obtain ⟨Z, hZ⟩ : ∃ Z : Array Value, Z = #[.string ⟨#[]⟩, .int .u8 0, .int .u8 0, .int .u8 0, .int .u8 0, .string ⟨#[]⟩, .int .i64 0, .string ⟨#[]⟩, .slice none 0 0] := ⟨_, rfl⟩
  obtain ⟨W1, hW1⟩ : ∃ W1, W1 = w.alloc (.cells Z 34) := ⟨_, rfl⟩
  have b1 : Below w.heap.size w W1 := by rw [hW1]; exact (Below.refl _ _).alloc (Nat.le_refl _) _
  have g1 : W1.heap[G]? = some (.cells Z 34) := by rw [hW1, hG]; exact alloc_new _ _
  have HM1 := hide (h.below b1).made
  have B1 := hide b1
  have HW1 : Hid (w.alloc (.cells #[.string ⟨#[]⟩, .int .u8 0, .int .u8 0, .int .u8 0, .int .u8 0, .string ⟨#[]⟩, .int .i64 0, .string ⟨#[]⟩, .slice none 0 0] 34) = W1) := by show _ = _; rw [hW1, hZ]
  have HG := hide hG.symm
  have G1 := hide g1
  have hz : ∀ w, (zeroValue 34).run Tryz.prog w = .ok (.agg #[.string ⟨#[]⟩, .int .u8 0, .int .u8 0, .int .u8 0, .int .u8 0, .string ⟨#[]⟩, .int .i64 0, .string ⟨#[]⟩, .slice none 0 0]) w := fun w => by kernel_rfl
  have hZs : Z.size = 9 := by rw [hZ]; rfl
  have hZ1 : Z.all (·.oneCell') = true := by rw [hZ]; simp [Value.oneCell']
  have y1 : canPut 9 34 W1 (.pointer (some ⟨G, 0, none⟩)) (.agg #[.string ⟨#[]⟩, .int .u8 0, .int .u8 0, .int .u8 0, .int .u8 0, .string ⟨#[]⟩, .int .i64 0, .string ⟨#[]⟩, .slice none 0 0]) = true := by rw [← hZ]; exact canPut_row g1 hZs hZs hZ1
  have y2 : W1.setRow G #[.string ⟨#[]⟩, .int .u8 0, .int .u8 0, .int .u8 0, .int .u8 0, .string ⟨#[]⟩, .int .i64 0, .string ⟨#[]⟩, .slice none 0 0] = W1 := by rw [← hZ]; exact setRow_self W1 G Z _ _ g1
  have HZ := hide hZ
  clear h hW1 b1 hZ hZs hZ1 hG g1
  go_enter Tryz.func24, Tryz.ntmps24
  go_wp2_with fail
  rw [HW1.out, HG.out]
  refine HM1.out.mono ?_
  rintro e w2 ⟨rfl, rfl⟩
  go_wp2_with fail
  refine bodyPost_ret (res_cell_tmp rfl _ _ G 34 Z (0, 0) _ rfl G1.out Tryz.underlying34 rfl (by rw [HZ.out]; exact info44c)) rfl ⟨?_, B1.out⟩
  rw [HZ.out]
  rfl
end Go.Proofs.YtccoddmdlbdfjaaGreatDoor
