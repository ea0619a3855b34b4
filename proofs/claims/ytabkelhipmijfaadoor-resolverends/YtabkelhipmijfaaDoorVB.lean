/-
  The leaf functions of package names, and the functions that are handed in; conditions as each theorem has them.
-/
import Derived.Test.YtabkelhipmijfaaDoorVA
set_option linter.unusedSimpArgs false
set_option linter.unusedVariables false
namespace Go.Proofs.YtabkelhipmijfaaDoor.Nm
open Go.RowKit
set_option maxHeartbeats 400000 in
theorem isMade_at (r : Nat) (b : Bool) (w : World) (h : w.cell? ⟨r, 0, none⟩ = some (.bool b)) : Calls Tryd.prog 24 #[.pointer (some ⟨r, 0, none⟩)] w fun e w' => e = .returned (.bool b) ∧ w = w' := by
  go_enter Tryd.func24, Tryd.ntmps24
  go_wp2
  go_ret
  exact ⟨rfl, rfl⟩
theorem isMade_nil (w : World) : Calls Tryd.prog 24 #[.pointer none] w fun e w' => e = .returned (.bool false) ∧ w = w' := by
  go_enter Tryd.func24, Tryd.ntmps24
  go_wp2
  go_ret
  exact ⟨rfl, rfl⟩
theorem isNow_at (now : Int) (w : World) : Calls Tryd.prog 25 #[.int .i64 now] w fun e w' => e = .returned (.bool (decide (¬ badNow now))) ∧ w = w' := by
  by_cases h1 : now < 0
  · have e : decide (¬ badNow now) = false := by simp [badNow]; omega
    rw [e]
    have d : decide (now ≥ 0) = false := by simp; omega
    have d' : decide (0 ≤ now) = false := by simp; omega
    go_enter Tryd.func25, Tryd.ntmps25
    go_wp2
    go_ret
    exact ⟨rfl, rfl⟩
  · have d : decide (now ≥ 0) = true := by simp; omega
    have d' : decide (0 ≤ now) = true := by simp; omega
    by_cases h2 : 1099511627776 < now
    · have e : decide (¬ badNow now) = false := by simp [badNow]; omega
      rw [e]
      have d2 : decide (now ≤ 1099511627776) = false := by simp; omega
      go_enter Tryd.func25, Tryd.ntmps25
      go_wp2
      go_ret
      exact ⟨rfl, rfl⟩
    · have e : decide (¬ badNow now) = true := by simp [badNow]; omega
      rw [e]
      have d2 : decide (now ≤ 1099511627776) = true := by simp; omega
      go_enter Tryd.func25, Tryd.ntmps25
      go_wp2
      go_ret
      exact ⟨rfl, rfl⟩
theorem holds_at (g o : Nat) (till now : Int) (w : World) (h : w.cell? ⟨g, o + 1, none⟩ = some (.int .i64 till)) : Calls Tryd.prog 28 #[.pointer (some ⟨g, o, none⟩), .int .i64 now] w fun e w' => e = .returned (.bool (decide (now < till))) ∧ w = w' := by
  go_enter Tryd.func28, Tryd.ntmps28
  go_wp2
  go_ret
  exact ⟨rfl, rfl⟩

abbrev boxS (t : ByteArray) : Obj := .cells #[.string t] 9
abbrev boxI (n : Int) : Obj := .cells #[.int .i64 n] 3
theorem box_cell {w : World} {b : Nat} {v : Value} {t : TypeId} (h : w.heap[b]? = some (.cells #[v] t)) : w.cell? ⟨b, 0, none⟩ = some v := by simp [World.cell?, h]
theorem hasName_at (name : ByteArray) (w : World) : Calls Tryd.prog 27 #[.string name] w fun e w' => e = .returned (.func (.func 35) #[] #[.pointer (some ⟨w.heap.size, 0, none⟩)]) ∧ w' = w.alloc (boxS name) := by
  go_enter Tryd.func27, Tryd.ntmps27
  go_wp2
  go_ret
  exact ⟨rfl, rfl⟩
theorem placeOf_at (now : Int) (name : ByteArray) (w : World) : Calls Tryd.prog 40 #[.int .i64 now, .string name] w fun e w' => e = .returned (.func (.func 44) #[] #[.pointer (some ⟨w.heap.size + 1, 0, none⟩), .pointer (some ⟨w.heap.size, 0, none⟩)]) ∧ w' = (w.alloc (boxI now)).alloc (boxS name) := by
  go_enter Tryd.func40, Tryd.ntmps40
  go_wp2
  go_ret
  exact ⟨rfl, rfl⟩
theorem c41_at (g o b : Nat) (x name : ByteArray) (w : World) (h : w.cell? ⟨g, o, none⟩ = some (.string x)) (hb : w.cell? ⟨b, 0, none⟩ = some (.string name)) : Calls Tryd.prog 35 #[.pointer (some ⟨g, o, none⟩), .pointer (some ⟨b, 0, none⟩)] w fun e w' => e = .returned (.bool (decide (x = name))) ∧ Below w.heap.size w w' := by
  rw [← eq_ba]
  go_enter Tryd.func35, Tryd.ntmps35
  go_wp2_with fail
  go_region
  all_goals
    go_wp2_with fail
    go_ret
    exact ⟨rfl, (Below.refl _ _).drew⟩
theorem c40_at (g o b c : Nat) (s : Sl) (name : ByteArray) (now : Int) (w : World) (h : w.cell? ⟨g, o, none⟩ = some (.string s.name)) (h1 : w.cell? ⟨g, o + 1, none⟩ = some (.int .i64 s.till)) (hb : w.cell? ⟨b, 0, none⟩ = some (.string name)) (hc : w.cell? ⟨c, 0, none⟩ = some (.int .i64 now)) : Calls Tryd.prog 44 #[.pointer (some ⟨g, o, none⟩), .pointer (some ⟨b, 0, none⟩), .pointer (some ⟨c, 0, none⟩)] w fun e w' => e = .returned (.int .i64 (rank now name s)) ∧ Below w.heap.size w w' := by
  have HH : ∀ n, Hid (Calls Tryd.prog 28 #[.pointer (some ⟨g, o, none⟩), .int .i64 now] (w.drewN n) fun e w' => e = .returned (.bool (decide (now < s.till))) ∧ w.drewN n = w') := fun n => hide (holds_at g o s.till now _ h1)
  by_cases hn : s.name = name
  · have d1 : (s.name.toList == name.toList) = true := by rw [eq_ba]; simp [hn]
    have HR : Hid (rank now name s = -2) := rank_own hn
    clear HH hn
    go_enter Tryd.func44, Tryd.ntmps44
    go_wp2_with fail
    go_region
    all_goals
      go_wp2_with fail
      go_ret
      exact ⟨by rw [HR.out]; rfl, (Below.refl _ _).drew⟩
  · have d1 : (s.name.toList == name.toList) = false := by rw [eq_ba]; simp [hn]
    by_cases ht : now < s.till
    · have HR : Hid (rank now name s = s.till) := by show _ = _; unfold rank; rw [if_neg hn, if_pos ht]
      have d2 : decide (now < s.till) = true := decide_eq_true ht
      rw [d2] at HH
      clear hn ht d2
      go_enter Tryd.func44, Tryd.ntmps44
      go_wp2_with fail
      go_region
      all_goals
        go_wp2_with fail
        refine (HH 1).out.mono ?_
        rintro e w1 ⟨rfl, rfl⟩
        go_wp2_with fail
        go_ret
        exact ⟨by rw [HR.out]; rfl, (Below.refl _ _).drew⟩
    · have HR : Hid (rank now name s = -1) := by show _ = _; unfold rank; rw [if_neg hn, if_neg ht]
      have d2 : decide (now < s.till) = false := decide_eq_false ht
      rw [d2] at HH
      clear hn ht d2
      go_enter Tryd.func44, Tryd.ntmps44
      go_wp2_with fail
      go_region
      all_goals
        go_wp2_with fail
        refine (HH 1).out.mono ?_
        rintro e w1 ⟨rfl, rfl⟩
        go_wp2_with fail
        go_ret
        exact ⟨by rw [HR.out]; rfl, (Below.refl _ _).drew⟩
end Go.Proofs.YtabkelhipmijfaaDoor.Nm
