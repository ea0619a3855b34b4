/-
  HeadWords' walk; conditions as each theorem has them.
-/
import Derived.Test.YthbnbnfhbkekpaaGreatDoorHN
import Derived.Test.YthbnbnfhbkekpaaGreatDoorWK
set_option linter.unusedSimpArgs false
set_option linter.unusedVariables false
namespace Go.Proofs.YthbnbnfhbkekpaaGreatDoor
open Go.RowKit

set_option maxRecDepth 100000 in
set_option maxHeartbeats 8000000 in
theorem words_walk (t : ByteArray) (a : Option Addr) (n c : Nat) (fs : List Fd) (u : ByteArray) (w : World) (hT : Tabs w) (hm : t.size ≤ maxLen) (hm2 : t.size ≤ 140737488355328) (h : SrcF w a n c fs) (hsh : ∀ f ∈ fs, f.1.length ≤ 140737488351232 ∧ f.2.length ≤ 140737488351232) (hu : u.size ≤ maxLen) (hu2 : u.size ≤ 140737488355328) :
    Calls Tryz.prog 5 #[.string t, .slice a n c, .string u] w fun e w' => e = .returned (.bool true) ∧ Below w.heap.size w w' := by
  obtain ⟨V, hV⟩ : ∃ V, V = strN (get fs (byt u)).1 := ⟨_, rfl⟩
  obtain ⟨q, hq⟩ : ∃ q, q = (get fs (byt u)).2 := ⟨_, rfl⟩
  obtain ⟨T, hTT⟩ : ∃ q, q = tok (byt t) := ⟨_, rfl⟩
  obtain ⟨X, hX⟩ : ∃ q, q = value (byt t) := ⟨_, rfl⟩
  have H27 : Hid (∀ W, SrcF W a n c fs → Calls Tryz.prog 27 #[.slice a n c, .string u] W fun e w' => e = .returned (.tuple #[.string V, .int .i64 (q : Nat)]) ∧ Below W.heap.size W w') := fun W hW => by rw [hV, hq]; exact get_at a n c fs u W hW (fun f hf => by have := hsh f hf; unfold maxLen; omega) hu
  have H28 : Hid (∀ W, SrcF W a n c fs → Calls Tryz.prog 28 #[.slice a n c, .string u] W fun e w' => e = .returned (.tuple #[.string V, .int .i64 (q : Nat)]) ∧ Below W.heap.size W w') := fun W hW => by rw [hV, hq]; exact rget_at a n c fs u W hW (fun f hf => by have := hsh f hf; omega) hu2
  have H29 : Hid (∀ W, Calls Tryz.prog 29 #[.string t] W fun e w' => e = .returned (.bool T) ∧ Below W.heap.size W w') := fun W => by rw [hTT]; exact token_at t W hm
  have H30 : Hid (∀ W, Calls Tryz.prog 30 #[.string t] W fun e w' => e = .returned (.bool T) ∧ Below W.heap.size W w') := fun W => by rw [hTT]; exact rtoken_at t W hm2
  have H31 : Hid (∀ W, Calls Tryz.prog 31 #[.string t] W fun e w' => e = .returned (.bool X) ∧ Below W.heap.size W w') := fun W => by rw [hX]; exact value_at t W hm
  have H32 : Hid (∀ W, Calls Tryz.prog 32 #[.string t] W fun e w' => e = .returned (.bool X) ∧ Below W.heap.size W w') := fun W => by rw [hX]; exact rvalue_at t W hm2
  have HS := hide h
  have HT := hide hT
  have hqq : ((q : Int) == (q : Int)) = true := by simp
  clear hV hq hTT hX hm hm2 hu hu2 h hT hsh
  go_enter Tryz.func5, Tryz.ntmps5
  go_wp2_with fail
  refine (H27.out _ HS.out).mono ?_
  rintro e w1 ⟨rfl, k1⟩
  have S1 := hide (HS.out.below k1)
  have B1 := hide k1
  clear k1 HS
  go_wp2_with fail
  refine (H28.out _ S1.out).mono ?_
  rintro e w2 ⟨rfl, k2⟩
  have B2 := hide (B1.out.trans (k2.mono B1.out.size))
  clear k2 B1 S1
  go_wp2_with fail
  refine (H29.out _).mono ?_
  rintro e w3 ⟨rfl, k3⟩
  have B3 := hide (B2.out.trans (k3.mono B2.out.size))
  clear k3 B2
  go_wp2_with fail
  refine (H30.out _).mono ?_
  rintro e w4 ⟨rfl, k4⟩
  have B4 := hide (B3.out.trans (k4.mono B3.out.size))
  clear k4 B3
  have tt : (T == T) = true := by simp
  have xx : (X == X) = true := by simp
  go_wp2_with fail
  refine (H31.out _).mono ?_
  rintro e w5 ⟨rfl, k5⟩
  have B5 := hide (B4.out.trans (k5.mono B4.out.size))
  clear k5 B4
  go_wp2_with fail
  refine (H32.out _).mono ?_
  rintro e w6 ⟨rfl, k6⟩
  have B6 := hide (B5.out.trans (k6.mono B5.out.size))
  clear k6 B5
  have vv : (V.toList == V.toList) = true := by simp
  go_wp2_with fail
  refine (works_at _ (HT.out.below B6.out)).mono ?_
  rintro e w7 ⟨rfl, k7⟩
  have B7 := hide (B6.out.trans (k7.mono B6.out.size))
  clear k7 B6
  go_wp2_with fail
  go_ret
  exact ⟨rfl, B7.out⟩
end Go.Proofs.YthbnbnfhbkekpaaGreatDoor
