/-
  A resolver that no call made; conditions as each theorem has them.
-/
import Derived.Test.YtabkelhipmijfaaGreatDoorGX
set_option linter.unusedSimpArgs false
set_option linter.unusedVariables false
namespace Go.Proofs.YtabkelhipmijfaaGreatDoor
open Go.RowKit

def NoRes (w : World) (v : Value) : Prop := v = .pointer none ∨ ∃ b, v = .pointer (some ⟨b, 0, none⟩) ∧ w.cell? ⟨b, 1, none⟩ = some (.pointer none)
theorem NoRes.below {w w' : World} {v : Value} (h : NoRes w v) (k : Below w.heap.size w w') : NoRes w' v := by
  rcases h with h | ⟨b, h1, h2⟩
  · exact Or.inl h
  · exact Or.inr ⟨b, h1, (k.cell (p := ⟨b, 1, none⟩) (Nm.lt_of_cell h2)).trans h2⟩
theorem isMade_un (v : Value) (w : World) (h : NoRes w v) : Calls Tryz.prog 30 #[v] w fun e w' => e = .returned (.bool false) ∧ w = w' := by
  rcases h with rfl | ⟨b, rfl, hc⟩
  · go_enter Tryz.func30, Tryz.ntmps30
    go_wp2
    go_ret
    exact ⟨rfl, rfl⟩
  · go_enter Tryz.func30, Tryz.ntmps30
    go_wp2
    go_ret
    exact ⟨rfl, rfl⟩
theorem ask_un (v : Value) (now draw : Int) (nm : ByteArray) (w : World) (h : NoRes w v) : Calls Tryz.prog 10 #[v, .int .i64 now, .int .i64 draw, .string nm] w fun e w' => e = .returned (.tuple #[.int .i64 0, .slice none 0 0, .int .i64 1]) ∧ w = w' := by
  have HM := hide (isMade_un v w h)
  clear h
  go_enter Tryz.func10, Tryz.ntmps10
  go_wp2_with fail
  refine HM.out.mono ?_
  rintro e w1 ⟨rfl, rfl⟩
  go_wp2_with fail
  go_ret3
  exact ⟨rfl, rfl⟩
theorem step_un (v : Value) (now draw : Int) (w : World) (h : NoRes w v) : Calls Tryz.prog 13 #[v, .int .i64 now, .int .i64 draw] w fun e w' => e = .returned (.tuple #[.bool false, .int .i64 1]) ∧ w = w' := by
  have HM := hide (isMade_un v w h)
  clear h
  go_enter Tryz.func13, Tryz.ntmps13
  go_wp2_with fail
  refine HM.out.mono ?_
  rintro e w1 ⟨rfl, rfl⟩
  go_wp2_with fail
  go_ret2
  exact ⟨rfl, rfl⟩
theorem take_un (v : Value) (now : Int) (a : Option Addr) (n c : Nat) (w : World) (h : NoRes w v) : Calls Tryz.prog 18 #[v, .int .i64 now, .slice a n c] w fun e w' => e = .returned (.tuple #[.bool false, .int .i64 1]) ∧ w = w' := by
  have HM := hide (isMade_un v w h)
  clear h
  go_enter Tryz.func18, Tryz.ntmps18
  go_wp2_with fail
  refine HM.out.mono ?_
  rintro e w1 ⟨rfl, rfl⟩
  go_wp2_with fail
  go_ret2
  exact ⟨rfl, rfl⟩
theorem posts_un (v : Value) (w : World) (h : NoRes w v) : Calls Tryz.prog 22 #[v] w fun e w' => e = .returned (.slice none 0 0) ∧ w = w' := by
  have HM := hide (isMade_un v w h)
  clear h
  go_enter Tryz.func22, Tryz.ntmps22
  go_wp2_with fail
  refine HM.out.mono ?_
  rintro e w1 ⟨rfl, rfl⟩
  go_wp2_with fail
  go_ret
  exact ⟨rfl, rfl⟩
theorem asked_un (v : Value) (w : World) (h : NoRes w v) : Calls Tryz.prog 16 #[v] w fun e w' => e = .returned (.slice none 0 0) ∧ w = w' := by
  have HM := hide (isMade_un v w h)
  clear h
  go_enter Tryz.func16, Tryz.ntmps16
  go_wp2_with fail
  refine HM.out.mono ?_
  rintro e w1 ⟨rfl, rfl⟩
  go_wp2_with fail
  go_ret
  exact ⟨rfl, rfl⟩
theorem used_un (v : Value) (now : Int) (w : World) (h : NoRes w v) : Calls Tryz.prog 23 #[v, .int .i64 now] w fun e w' => e = .returned (.int .i64 0) ∧ w = w' := by
  have HM := hide (isMade_un v w h)
  clear h
  go_enter Tryz.func23, Tryz.ntmps23
  go_wp2_with fail
  refine HM.out.mono ?_
  rintro e w1 ⟨rfl, rfl⟩
  go_wp2_with fail
  go_ret
  exact ⟨rfl, rfl⟩
theorem clone_un (v : Value) (w : World) (h : NoRes w v) : Calls Tryz.prog 21 #[v] w fun e w' => e = .returned (.pointer none) ∧ w = w' := by
  have HM := hide (isMade_un v w h)
  clear h
  go_enter Tryz.func21, Tryz.ntmps21
  go_wp2_with fail
  refine HM.out.mono ?_
  rintro e w1 ⟨rfl, rfl⟩
  go_wp2_with fail
  go_ret
  exact ⟨rfl, rfl⟩
set_option maxRecDepth 100000 in
set_option maxHeartbeats 4000000 in
theorem none_walk (now : Int) (s : ByteArray) (a : Option Addr) (n c : Nat) (w : World) (hV : Vars w) : Calls Tryz.prog 6 #[.int .i64 now, .string s, .slice a n c] w fun e w' => e = .returned (.bool true) ∧ Below w.heap.size w w' := by
  have HW := hide (works_at w hV)
  clear hV
  go_enter Tryz.func6, Tryz.ntmps6
  go_wp2_with fail
  refine HW.out.mono ?_
  rintro e w1 ⟨rfl, k1⟩
  have K1 := hide k1
  obtain ⟨WZ, hWZ⟩ : ∃ WZ, WZ = w1.alloc (.cells #[.int .i64 0, .pointer none, .slice none 0 0, .slice none 0 0] 74) := ⟨_, rfl⟩
  have hz1 : NoRes WZ (.pointer (some ⟨w1.heap.size, 0, none⟩)) := Or.inr ⟨_, rfl, by rw [hWZ, World.cell?_alloc_new w1 _ _ 1]; rfl⟩
  have NZ := hide hz1
  have NP : Hid (NoRes WZ (.pointer none)) := Or.inl rfl
  have K2 : Hid (Below w.heap.size w WZ) := by rw [hWZ]; exact k1.alloc k1.size _
  obtain ⟨zb, hzb⟩ : ∃ zb, zb = w1.heap.size := ⟨_, rfl⟩
  rw [← hzb] at NZ
  have HWZ := hide hWZ.symm
  have HZB := hide hzb.symm
  clear k1 hz1 hWZ hzb
  go_wp2_with fail
  rw [HWZ.out, HZB.out]
  refine (ask_un (.pointer none) now 1 s WZ NP.out).mono ?_
  rintro x W0 ⟨rfl, e0⟩; subst e0
  go_wp2_with fail
  refine (ask_un (.pointer (some ⟨zb, 0, none⟩)) now 1 s WZ NZ.out).mono ?_
  rintro x W1 ⟨rfl, e1⟩; subst e1
  go_wp2_with fail
  refine (step_un (.pointer none) now 1 WZ NP.out).mono ?_
  rintro x W2 ⟨rfl, e2⟩; subst e2
  go_wp2_with fail
  refine (step_un (.pointer (some ⟨zb, 0, none⟩)) now 1 WZ NZ.out).mono ?_
  rintro x W3 ⟨rfl, e3⟩; subst e3
  go_wp2_with fail
  refine (take_un (.pointer none) now a n c WZ NP.out).mono ?_
  rintro x W4 ⟨rfl, e4⟩; subst e4
  go_wp2_with fail
  refine (take_un (.pointer (some ⟨zb, 0, none⟩)) now a n c WZ NZ.out).mono ?_
  rintro x W5 ⟨rfl, e5⟩; subst e5
  go_wp2_with fail
  refine (posts_un (.pointer none)  WZ NP.out).mono ?_
  rintro x W6 ⟨rfl, e6⟩; subst e6
  go_wp2_with fail
  refine (posts_un (.pointer (some ⟨zb, 0, none⟩))  WZ NZ.out).mono ?_
  rintro x W7 ⟨rfl, e7⟩; subst e7
  go_wp2_with fail
  refine (asked_un (.pointer none)  WZ NP.out).mono ?_
  rintro x W8 ⟨rfl, e8⟩; subst e8
  go_wp2_with fail
  refine (asked_un (.pointer (some ⟨zb, 0, none⟩))  WZ NZ.out).mono ?_
  rintro x W9 ⟨rfl, e9⟩; subst e9
  go_wp2_with fail
  refine (used_un (.pointer none) now WZ NP.out).mono ?_
  rintro x W10 ⟨rfl, e10⟩; subst e10
  go_wp2_with fail
  refine (used_un (.pointer (some ⟨zb, 0, none⟩)) now WZ NZ.out).mono ?_
  rintro x W11 ⟨rfl, e11⟩; subst e11
  go_wp2_with fail
  refine (clone_un (.pointer none)  WZ NP.out).mono ?_
  rintro x W12 ⟨rfl, e12⟩; subst e12
  go_wp2_with fail
  refine (clone_un (.pointer (some ⟨zb, 0, none⟩))  WZ NZ.out).mono ?_
  rintro x W13 ⟨rfl, e13⟩; subst e13
  go_wp2_with fail
  go_ret
  exact ⟨rfl, K2.out⟩

end Go.Proofs.YtabkelhipmijfaaGreatDoor
