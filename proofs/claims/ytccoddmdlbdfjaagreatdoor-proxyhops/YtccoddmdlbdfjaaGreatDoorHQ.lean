/-
  Begins, bytes and fields from a place on, for ProxyHops; conditions as each theorem has them.
-/
import Derived.Test.YtccoddmdlbdfjaaGreatDoorHP
import Derived.Test.YtccoddmdlbdfjaaGreatDoorJoinedWK
import Derived.Test.YtccoddmdlbdfjaaGreatDoorEB
import Derived.Test.YtccoddmdlbdfjaaGreatDoorJoinedFF
set_option linter.unusedSimpArgs false
set_option linter.unusedVariables false
set_option linter.constructorNameAsVariable false
set_option maxRecDepth 100000
namespace Go.Proofs.YtccoddmdlbdfjaaGreatDoor
open Go.RowKit

theorem begins_true (S P R : ByteArray) (w : World) (h : S = P ++ R) (hm : S.size ≤ maxLen) : Calls Tryz.prog 29 #[.string S, .string P] w fun e w' => e = .returned (.bool true) ∧ w = w' := by
  have hsz : S.size = P.size + R.size := by rw [h]; simp
  have q1 : decide ((P.size : Int) ≤ (S.size : Int)) = true := decide_eq_true (by omega)
  have q1' : decide ((S.size : Int) ≥ (P.size : Int)) = true := decide_eq_true (by omega)
  have q2 : ((S.extract 0 P.size).toList == P.toList) = true := by
    have e : (P ++ R).extract 0 P.size = P := by
      apply ByteArray.ext
      rw [ByteArray.data_extract, ByteArray.data_append]
      show (P.data ++ R.data).extract 0 P.data.size = P.data
      simp
    rw [h, e]
    simp
  unfold maxLen at hm
  clear h
  go_enter Tryz.func29, Tryz.ntmps29
  go_wp2_with fail
  go_ret
  exact ⟨rfl, rfl⟩
theorem bytes_from4 (a : Option Addr) (n c : Nat) (hc : n ≤ c) (h4 : 4 ≤ n) : ∃ x : Option Addr,
    (∀ w, (Instr.sliceAt 35 (.slice a n c) (some (.int .i64 4)) none none).run Tryz.prog w = .ok (.slice x (n - 4) (c - 4)) w) ∧
    (∀ w, (Instr.slice 35 (.slice a n c) (some (.int .i64 4)) none none).run Tryz.prog w = .ok (.slice x (n - 4) (c - 4)) w) ∧ ∀ (W : World) (l : List Nat), Src W a n c l → Src W x (n - 4) (c - 4) (l.drop 4) := by
  have key : ∀ w, (Instr.slice 35 (.slice a n c) (some (.int .i64 4)) none none).run Tryz.prog w = .ok (sliced a 4 n c 1) w := fun w => by
    have := run_slice_l w 35 (a := a) n c und22 .i64 4 (by omega) (by omega)
    rw [this, size22]
    simp [Result.andThen]
  refine ⟨if c = 4 then a else a.map (·.add (4 * 1)), fun w => ?_, fun w => ?_, fun W l h => ⟨by have := h.hlen; rw [List.length_drop]; omega, by omega, by have := h.hmax; omega, fun e => ?_, fun h0 => ?_, fun x hx => h.byte x (List.mem_of_mem_drop hx)⟩⟩
  · rw [run_sliceAt_slice w 35 _ _ _ _ und22, key]; rfl
  · rw [key]; rfl
  · obtain ⟨x, o, rfl, _⟩ := h.lies (by omega)
    split at e <;> simp at e
  · obtain ⟨x, o, rfl, hx, hcell⟩ := h.lies (by omega)
    rw [if_neg (by omega)]
    refine ⟨x, o + 4, by rw [Option.map_some, add_none], hx, fun i hi => ?_⟩
    have := hcell (4 + i) (by omega)
    rw [← Nat.add_assoc] at this
    rw [this]
    simp [List.getD, List.getElem?_drop]
theorem und32 : Tryz.prog.underlying 32 = some (.slice (Tryz.prog.elem 32)) := by kernel_rfl
theorem size32 : ∀ w, (sizeOf (Tryz.prog.elem 32)).run Tryz.prog w = .ok 2 w := fun w => by kernel_rfl
theorem fields_from2 (a : Option Addr) (n c : Nat) (hc : n ≤ c) (h2 : 2 ≤ n) : ∃ x : Option Addr,
    (∀ w, (Instr.sliceAt 32 (.slice a n c) (some (.int .i64 2)) none none).run Tryz.prog w = .ok (.slice x (n - 2) (c - 2)) w) ∧
    (∀ w, (Instr.slice 32 (.slice a n c) (some (.int .i64 2)) none none).run Tryz.prog w = .ok (.slice x (n - 2) (c - 2)) w) ∧ ∀ (W : World) (f g : Fd) (r : List Fd), SrcF W a n c (f :: g :: r) → SrcF W x (n - 2) (c - 2) r := by
  have key : ∀ w, (Instr.slice 32 (.slice a n c) (some (.int .i64 2)) none none).run Tryz.prog w = .ok (sliced a 2 n c 2) w := fun w => by
    have := run_slice_l w 32 (a := a) n c und32 .i64 2 (by omega) (by omega)
    rw [this, size32]
    simp [Result.andThen]
  refine ⟨if c = 2 then a else a.map (·.add (2 * 2)), fun w => ?_, fun w => ?_, fun W f g r h => ⟨by have := h.hlen; simp at this; omega, by omega, by have := h.hmax; omega, fun e => ?_, fun h0 => ?_, ?_⟩⟩
  · rw [run_sliceAt_slice w 32 _ _ _ _ und32, key]; rfl
  · rw [key]; rfl
  · obtain ⟨x, o, rfl, _⟩ := h.lies (by omega)
    split at e <;> simp at e
  · obtain ⟨x, o, rfl, hx, hcell⟩ := h.lies (by omega)
    rw [if_neg (by omega)]
    refine ⟨x, o + 4, by rw [Option.map_some, add_none], hx, fun j u hu => ?_⟩
    have := hcell (4 + j) u (by
      show (fcs (f :: g :: r))[4 + j]? = some u
      have e : fcs (f :: g :: r) = [.string (strN f.1), .string (strN f.2), .string (strN g.1), .string (strN g.2)] ++ fcs r := by simp [fcs]
      rw [e, List.getElem?_append_right (by simp)]
      simpa using hu)
    rw [← Nat.add_assoc] at this
    exact this
  · intro x hx
    exact h.byte x (by simp [hx])
end Go.Proofs.YtccoddmdlbdfjaaGreatDoor
