/-
  Comparisons of heads of the reference's base; conditions as each theorem has them.
-/
import Derived.Test.YthbnbnfhbkekpaaGreatDoorBA
set_option linter.unusedSimpArgs false
set_option linter.unusedVariables false
namespace Go.Proofs.YthbnbnfhbkekpaaGreatDoor
open Go.RowKit

set_option maxRecDepth 100000 in
set_option maxHeartbeats 4000000 in
theorem same_reply (w : World) (s : Int) (t : ByteArray) (a b : Option Addr) (n c m d : Nat) (fs : List Fd) (h1 : SrcF w a n c fs) (h2 : SrcF w b m d fs) : Calls Tryz.prog 18 #[.agg #[.int .i64 s, .string t, .slice a n c], .agg #[.int .i64 s, .string t, .slice b m d]] w fun e w' => e = .returned (.bool true) ∧ Below w.heap.size w w' := by
  have b2 : Below w.heap.size w ((w.alloc (.cells #[.int .i64 s, .string t, .slice a n c] 51)).alloc (.cells #[.int .i64 s, .string t, .slice b m d] 51)) := ((Below.refl _ _).alloc (Nat.le_refl _) _).alloc (by simp) _
  have HS := hide (same_fields _ a b n c m d fs (h1.below b2) (h2.below b2))
  have B2 := hide b2
  have ss : (s == s) = true := by simp
  clear h1 h2 b2
  go_enter Tryz.func18, Tryz.ntmps18
  go_wp2_with fail
  refine HS.out.mono ?_
  rintro e w3 ⟨rfl, k3⟩
  have B3 := hide (B2.out.trans (k3.mono B2.out.size))
  clear k3 B2 HS
  go_wp2_with fail
  go_ret
  exact ⟨rfl, B3.out⟩
set_option maxRecDepth 100000 in
set_option maxHeartbeats 4000000 in
theorem same_request (w : World) (q : ByteArray) (x0 x1 x2 x3 : Nat) (s : ByteArray) (p : Int) (t : ByteArray) (a b : Option Addr) (n c m d : Nat) (fs : List Fd) (h1 : SrcF w a n c fs) (h2 : SrcF w b m d fs) : Calls Tryz.prog 15 #[.agg #[.string q, .int .u8 (x0 : Nat), .int .u8 (x1 : Nat), .int .u8 (x2 : Nat), .int .u8 (x3 : Nat), .string s, .int .i64 p, .string t, .slice a n c], .agg #[.string q, .int .u8 (x0 : Nat), .int .u8 (x1 : Nat), .int .u8 (x2 : Nat), .int .u8 (x3 : Nat), .string s, .int .i64 p, .string t, .slice b m d]] w fun e w' => e = .returned (.bool true) ∧ Below w.heap.size w w' := by
  obtain ⟨r1, hr1⟩ : ∃ r : Array Value, r = #[.string q, .int .u8 (x0 : Nat), .int .u8 (x1 : Nat), .int .u8 (x2 : Nat), .int .u8 (x3 : Nat), .string s, .int .i64 p, .string t, .slice a n c] := ⟨_, rfl⟩
  obtain ⟨r2, hr2⟩ : ∃ r : Array Value, r = #[.string q, .int .u8 (x0 : Nat), .int .u8 (x1 : Nat), .int .u8 (x2 : Nat), .int .u8 (x3 : Nat), .string s, .int .i64 p, .string t, .slice b m d] := ⟨_, rfl⟩
  obtain ⟨W2, hW2⟩ : ∃ W, W = (w.alloc (.cells r1 44)).alloc (.cells r2 44) := ⟨_, rfl⟩
  have b2 : Below w.heap.size w W2 := by rw [hW2]; exact ((Below.refl _ _).alloc (Nat.le_refl _) _).alloc (by simp) _
  have HS := hide (same_fields _ a b n c m d fs (h1.below b2) (h2.below b2))
  have B2 := hide b2
  obtain ⟨F, hF⟩ : ∃ F, F = w.heap.size := ⟨_, rfl⟩
  obtain ⟨G, hG⟩ : ∃ G, G = w.heap.size + 1 := ⟨_, rfl⟩
  have g1 : W2.heap[F]? = some (.cells r1 44) := by rw [hW2, hF]; exact alloc_old _ (alloc_new _ _)
  have g2 : W2.heap[G]? = some (.cells r2 44) := by rw [hW2, hG]; exact alloc_new2 _ _ _
  have eF0 : W2.cell? ⟨F, 0, none⟩ = some (.string q) := by simp [World.cell?, g1, hr1]
  have eF1 : W2.cell? ⟨F, 1, none⟩ = some (.int .u8 (x0 : Nat)) := by simp [World.cell?, g1, hr1]
  have eF2 : W2.cell? ⟨F, 2, none⟩ = some (.int .u8 (x1 : Nat)) := by simp [World.cell?, g1, hr1]
  have eF3 : W2.cell? ⟨F, 3, none⟩ = some (.int .u8 (x2 : Nat)) := by simp [World.cell?, g1, hr1]
  have eF4 : W2.cell? ⟨F, 4, none⟩ = some (.int .u8 (x3 : Nat)) := by simp [World.cell?, g1, hr1]
  have eF5 : W2.cell? ⟨F, 5, none⟩ = some (.string s) := by simp [World.cell?, g1, hr1]
  have eF6 : W2.cell? ⟨F, 6, none⟩ = some (.int .i64 p) := by simp [World.cell?, g1, hr1]
  have eF7 : W2.cell? ⟨F, 7, none⟩ = some (.string t) := by simp [World.cell?, g1, hr1]
  have eF8 : W2.cell? ⟨F, 8, none⟩ = some (.slice a n c) := by simp [World.cell?, g1, hr1]
  have eG0 : W2.cell? ⟨G, 0, none⟩ = some (.string q) := by simp [World.cell?, g2, hr2]
  have eG1 : W2.cell? ⟨G, 1, none⟩ = some (.int .u8 (x0 : Nat)) := by simp [World.cell?, g2, hr2]
  have eG2 : W2.cell? ⟨G, 2, none⟩ = some (.int .u8 (x1 : Nat)) := by simp [World.cell?, g2, hr2]
  have eG3 : W2.cell? ⟨G, 3, none⟩ = some (.int .u8 (x2 : Nat)) := by simp [World.cell?, g2, hr2]
  have eG4 : W2.cell? ⟨G, 4, none⟩ = some (.int .u8 (x3 : Nat)) := by simp [World.cell?, g2, hr2]
  have eG5 : W2.cell? ⟨G, 5, none⟩ = some (.string s) := by simp [World.cell?, g2, hr2]
  have eG6 : W2.cell? ⟨G, 6, none⟩ = some (.int .i64 p) := by simp [World.cell?, g2, hr2]
  have eG7 : W2.cell? ⟨G, 7, none⟩ = some (.string t) := by simp [World.cell?, g2, hr2]
  have eG8 : W2.cell? ⟨G, 8, none⟩ = some (.slice b m d) := by simp [World.cell?, g2, hr2]
  have HW2 : Hid ((w.alloc (.cells #[.string q, .int .u8 (x0 : Nat), .int .u8 (x1 : Nat), .int .u8 (x2 : Nat), .int .u8 (x3 : Nat), .string s, .int .i64 p, .string t, .slice a n c] 44)).alloc (.cells #[.string q, .int .u8 (x0 : Nat), .int .u8 (x1 : Nat), .int .u8 (x2 : Nat), .int .u8 (x3 : Nat), .string s, .int .i64 p, .string t, .slice b m d] 44) = W2) := by rw [← hr1, ← hr2]; exact hW2.symm
  have HF := hide hF.symm
  have HG := hide hG.symm
  clear h1 h2 b2 hW2 hr1 hr2 g1 g2 hF hG
  go_enter Tryz.func15, Tryz.ntmps15
  go_wp2_with (first | (rw [HW2.out, HG.out, HF.out]))
  try (rw [HW2.out, HG.out, HF.out]; go_wp2_with fail)
  refine HS.out.mono ?_
  rintro e w3 ⟨rfl, k3⟩
  have B3 := hide (B2.out.trans (k3.mono B2.out.size))
  clear k3 B2 HS
  go_wp2_with fail
  go_ret
  exact ⟨rfl, B3.out⟩
end Go.Proofs.YthbnbnfhbkekpaaGreatDoor
