/-
  A table that no call made; conditions as each theorem has them.
-/
import Derived.Test.YtmolcipbopaniaaL
set_option linter.unusedSimpArgs false
set_option linter.unusedVariables false
namespace Go.Proofs.Ytmolcipbopaniaa
open Go.RowKit
/-- A table that no call made. -/
def NoTab (w : World) (p : Option Addr) : Prop := p = none ∨ ∃ r, p = some ⟨r, 0, none⟩ ∧ w.cell? ⟨r, 0, none⟩ = some (.bool false)
theorem isMade_no {w : World} {p : Option Addr} (h : NoTab w p) : Calls Try.prog 24 #[.pointer p] w fun e w' => e = .returned (.bool false) ∧ w = w' := by
  rcases h with rfl | ⟨r, rfl, h⟩
  · exact isMade_nil w
  · exact isMade_at r false w h
theorem get_no {w : World} {p : Option Addr} (h : NoTab w p) (now : Int) (name : ByteArray) : Calls Try.prog 16 #[.pointer p, .int .i64 now, .string name] w fun e w' => e = .returned (.tuple #[.slice none 0 0, .int .i64 0, .int .i64 1]) ∧ w = w' := by
  have HM := hide (isMade_no h)
  clear h
  go_enter Try.func16, Try.ntmps16
  go_wp2_with fail
  refine HM.out.mono ?_
  rintro e w1 ⟨rfl, rfl⟩
  go_wp2_with fail
  first | go_ret3 | go_ret2 | go_ret
  exact ⟨rfl, rfl⟩
theorem put_no {w : World} {p : Option Addr} (h : NoTab w p) (now : Int) (name : ByteArray) (v : Value) (ttl : Int) : Calls Try.prog 11 #[.pointer p, .int .i64 now, .string name, v, .int .i64 ttl] w fun e w' => e = .returned (.int .i64 1) ∧ w = w' := by
  have HM := hide (isMade_no h)
  clear h
  go_enter Try.func11, Try.ntmps11
  go_wp2_with fail
  refine HM.out.mono ?_
  rintro e w1 ⟨rfl, rfl⟩
  go_wp2_with fail
  go_ret
  exact ⟨rfl, rfl⟩
theorem used_no {w : World} {p : Option Addr} (h : NoTab w p) (now : Int) : Calls Try.prog 18 #[.pointer p, .int .i64 now] w fun e w' => e = .returned (.int .i64 0) ∧ w = w' := by
  have HM := hide (isMade_no h)
  clear h
  go_enter Try.func18, Try.ntmps18
  go_wp2_with fail
  refine HM.out.mono ?_
  rintro e w1 ⟨rfl, rfl⟩
  go_wp2_with fail
  go_ret
  exact ⟨rfl, rfl⟩
theorem list_no {w : World} {p : Option Addr} (h : NoTab w p) : Calls Try.prog 21 #[.pointer p] w fun e w' => e = .returned (.slice none 0 0) ∧ w = w' := by
  have HM := hide (isMade_no h)
  clear h
  go_enter Try.func21, Try.ntmps21
  go_wp2_with fail
  refine HM.out.mono ?_
  rintro e w1 ⟨rfl, rfl⟩
  go_wp2_with fail
  go_ret
  exact ⟨rfl, rfl⟩
theorem clone_no {w : World} {p : Option Addr} (h : NoTab w p) : Calls Try.prog 14 #[.pointer p] w fun e w' => e = .returned (.pointer none) ∧ w = w' := by
  have HM := hide (isMade_no h)
  clear h
  go_enter Try.func14, Try.ntmps14
  go_wp2_with fail
  refine HM.out.mono ?_
  rintro e w1 ⟨rfl, rfl⟩
  go_wp2_with fail
  go_ret
  exact ⟨rfl, rfl⟩
set_option maxRecDepth 100000 in
set_option maxHeartbeats 4000000 in
theorem none_walk (now : Int) (name : ByteArray) (w : World) (_ : name.size ≤ maxLen) : Calls Try.prog 7 #[.int .i64 now, .string name] w fun e w' => e = .returned (.bool true) ∧ Below w.heap.size w w' := by
  go_enter Try.func7, Try.ntmps7
  go_wp2_with fail
  refine (works_at w).mono ?_
  rintro e w1 ⟨rfl, k1⟩
  have K1 := hide k1
  clear k1
  have NA : Hid (NoTab (w1.alloc (.cells #[.bool false, .slice none 0 0] 53)) none) := Or.inl rfl
  have NB : Hid (NoTab (w1.alloc (.cells #[.bool false, .slice none 0 0] 53)) (some ⟨w1.heap.size, 0, none⟩)) := Or.inr ⟨_, rfl, by simp only [World.cell?, alloc_new]; rfl⟩
  have KA : Hid (Below w.heap.size w (w1.alloc (.cells #[.bool false, .slice none 0 0] 53))) := K1.out.alloc K1.out.size _
  clear K1
  go_wp2_with fail
  refine (get_no NA.out now name).mono ?_
  rintro e w2 ⟨rfl, rfl⟩
  go_wp2_with fail
  refine (get_no NB.out now name).mono ?_
  rintro e w2 ⟨rfl, rfl⟩
  go_wp2_with fail
  refine (put_no NA.out 1 aN _ 1).mono ?_
  rintro e w2 ⟨rfl, rfl⟩
  go_wp2_with fail
  refine (put_no NB.out 1 aN _ 1).mono ?_
  rintro e w2 ⟨rfl, rfl⟩
  go_wp2_with fail
  refine (used_no NA.out now).mono ?_
  rintro e w2 ⟨rfl, rfl⟩
  go_wp2_with fail
  refine (used_no NB.out now).mono ?_
  rintro e w2 ⟨rfl, rfl⟩
  go_wp2_with fail
  refine (list_no NA.out).mono ?_
  rintro e w2 ⟨rfl, rfl⟩
  go_wp2_with fail
  refine (list_no NB.out).mono ?_
  rintro e w2 ⟨rfl, rfl⟩
  go_wp2_with fail
  refine (clone_no NA.out).mono ?_
  rintro e w2 ⟨rfl, rfl⟩
  go_wp2_with fail
  refine (clone_no NB.out).mono ?_
  rintro e w2 ⟨rfl, rfl⟩
  go_wp2_with fail
  go_ret
  exact ⟨rfl, KA.out⟩
end Go.Proofs.Ytmolcipbopaniaa
