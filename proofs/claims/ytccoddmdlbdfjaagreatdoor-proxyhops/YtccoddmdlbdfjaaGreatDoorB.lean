/-
  Texts as numbers, and the leaf functions of package host: digits, whole numbers, ports; conditions as each theorem has them.
-/
import Derived.Test.YtccoddmdlbdfjaaGreatDoorJoinedM
import Derived.Test.YtccoddmdlbdfjaaGreatDoorShelf
import Derived.Lib.SlBytesConst
set_option linter.unusedSimpArgs false
set_option linter.unusedVariables false
namespace Go.Proofs.YtccoddmdlbdfjaaGreatDoor
open Go.RowKit

/-- Numbers as the bytes of a string, and a text as numbers. -/
def strN (l : List Nat) : ByteArray := ⟨(l.map UInt8.ofNat).toArray⟩
def byt (t : ByteArray) : List Nat := t.data.toList.map UInt8.toNat
theorem byt_length (t : ByteArray) : (byt t).length = t.size := by show (t.data.toList.map _).length = t.data.size; simp
theorem byt_lt (t : ByteArray) : ∀ x ∈ byt t, x < 256 := by
  intro x hx
  simp only [byt, List.mem_map] at hx
  obtain ⟨c, _, rfl⟩ := hx
  exact c.toNat_lt
theorem strN_byt (t : ByteArray) : strN (byt t) = t := by
  simp only [strN, byt, List.map_map]
  have : (UInt8.ofNat ∘ UInt8.toNat) = id := by funext x; simp
  rw [this, List.map_id]
theorem byt_strN (l : List Nat) (h : ∀ x ∈ l, x < 256) : byt (strN l) = l := by
  simp only [strN, byt, List.map_map]
  conv => rhs; rw [← List.map_id l]
  apply List.map_congr_left
  intro x hx
  have := h x hx
  simp
  omega
theorem byt_inj {a b : ByteArray} (h : byt a = byt b) : a = b := by rw [← strN_byt a, ← strN_byt b, h]
theorem strN_size (l : List Nat) : (strN l).size = l.length := by show ((l.map UInt8.ofNat).toArray).size = _; simp
theorem getD_lt {l : List Nat} (h : ∀ x ∈ l, x < 256) (k : Nat) : l.getD k 0 < 256 := by
  rw [List.getD]
  cases e : l[k]? with
  | none => simp
  | some x => exact h x (List.mem_of_getElem? e)
/-- 't[i]'. -/
theorem run_ixstr (t : ByteArray) (i : Nat) (hi : i < t.size) (w : World) : (Instr.index 9 (.string t) (.int .i64 i)).run Tryz.prog w = .ok (.int .u8 ((byt t).getD i 0 : Nat)) w := by
  rw [run_index_string w 9 _ .i64 _ Tryz.underlying9, dif_pos ⟨by omega, by omega⟩]
  have e : ((i : Int)).toNat = i := by omega
  simp only [e]
  congr 3
  have h' : i < t.data.toList.length := by rw [Array.length_toList]; exact hi
  rw [byt, List.getD, List.getElem?_map, List.getElem?_eq_getElem h']
  rfl
theorem empty_size {t : ByteArray} : t = ⟨#[]⟩ ↔ t.size = 0 := by
  constructor
  · rintro rfl; rfl
  · intro h
    obtain ⟨⟨l⟩⟩ := t
    cases l with
    | nil => rfl
    | cons a b => simp [ByteArray.size] at h
theorem byt_nil (t : ByteArray) : byt t = [] ↔ t.size = 0 := by rw [← byt_length]; exact List.length_eq_zero_iff.symm
theorem isEmpty_byt (t : ByteArray) : t.toList.isEmpty = decide (byt t = []) := by
  rw [Lib.toList_data]
  cases h : t.data.toList <;> simp [byt, h]
theorem eq_byt (a b : ByteArray) : (a.toList == b.toList) = decide (byt a = byt b) := by
  rw [Lib.toList_data, Lib.toList_data]
  by_cases h : byt a = byt b
  · rw [byt_inj h]; simp
  · have : ¬ a.data.toList = b.data.toList := fun e => h (by simp [byt, e])
    have h2 : ¬ a.data = b.data := fun e => this (by rw [e])
    simp [h, h2]
theorem take_snoc (l : List Nat) (k : Nat) (h : k < l.length) : l.take (k + 1) = l.take k ++ [l.getD k 0] := by
  rw [List.take_succ_eq_append_getElem h, List.getD, List.getElem?_eq_getElem h]; rfl

theorem isDigit_at (c : Nat) (w : World) (hc : c < 256) : Calls Tryz.prog 191 #[.int .u8 c] w fun e w' => e = .returned (.bool (dig c)) ∧ w = w' := by
  by_cases h1 : 48 ≤ c
  · by_cases h2 : c ≤ 57
    · have e : dig c = true := by simp [dig]; omega
      rw [e]
      go_enter Tryz.func191, Tryz.ntmps191
      go_wp2
      go_ret
      exact ⟨by simp; omega, rfl⟩
    · have e : dig c = false := by simp [dig]; omega
      rw [e]
      go_enter Tryz.func191, Tryz.ntmps191
      go_wp2
      go_ret
      exact ⟨by simp; omega, rfl⟩
  · have e : dig c = false := by simp [dig]; omega
    rw [e]
    go_enter Tryz.func191, Tryz.ntmps191
    go_wp2
    go_ret
    exact ⟨rfl, rfl⟩
theorem digit_at (c : Nat) (w : World) (hc : c < 256) : Calls Tryz.prog 145 #[.int .u8 c] w fun e w' => e = .returned (.bool (dig c)) ∧ w = w' := by
  by_cases h1 : 48 ≤ c
  · by_cases h2 : c ≤ 57
    · have e : dig c = true := by simp [dig]; omega
      rw [e]
      go_enter Tryz.func145, Tryz.ntmps145
      go_wp2
      go_ret
      exact ⟨by simp; omega, rfl⟩
    · have e : dig c = false := by simp [dig]; omega
      rw [e]
      go_enter Tryz.func145, Tryz.ntmps145
      go_wp2
      go_ret
      exact ⟨by simp; omega, rfl⟩
  · have e : dig c = false := by simp [dig]; omega
    rw [e]
    go_enter Tryz.func145, Tryz.ntmps145
    go_wp2
    go_ret
    exact ⟨rfl, rfl⟩
theorem isPort_at (n : Int) (w : World) (b : Bool) (hb : b = decide (1 ≤ n ∧ n ≤ 65535)) : Calls Tryz.prog 163 #[.int .i64 n] w fun e w' => e = .returned (.bool b) ∧ w = w' := by
  subst hb
  by_cases h1 : 1 ≤ n
  · go_enter Tryz.func163, Tryz.ntmps163
    go_wp2
    go_ret
    exact ⟨by simp [h1], rfl⟩
  · go_enter Tryz.func163, Tryz.ntmps163
    go_wp2
    go_ret
    exact ⟨by simp; omega, rfl⟩

set_option maxHeartbeats 1000000 in
theorem alone_at (t : ByteArray) (w : World) (hm : t.size ≤ maxLen) : Calls Tryz.prog 193 #[.string t] w fun e w' => e = .returned (.bool (decide (byt t ≠ []) && (byt t).all dig)) ∧ w = w' := by
  obtain ⟨l, hl⟩ : ∃ l, l = byt t := ⟨_, rfl⟩
  have hix : ∀ i, i < t.size → ∀ w, (Instr.index 9 (.string t) (.int .i64 (i : Nat))).run Tryz.prog w = .ok (.int .u8 (l.getD i 0 : Nat)) w := fun i hi w => by rw [hl]; exact run_ixstr t i hi w
  have hlt : ∀ k, l.getD k 0 < 256 := fun k => by rw [hl]; exact getD_lt (byt_lt t) k
  have hsz : t.size = l.length := by rw [hl, byt_length]
  rw [← hl]
  have HL : Hid (byt t = l) := hl.symm
  have HIX := hide hix
  have HLT := hide hlt
  have HSZ := hide hsz
  obtain ⟨N, hN⟩ : ∃ N, N = t.size := ⟨_, rfl⟩
  have HN := hide hN
  rw [← hN] at hm
  unfold maxLen at hm
  have hNI : (t.size : Int) = (N : Int) := by rw [hN]
  clear hix hlt hl hsz hN
  go_enter Tryz.func193, Tryz.ntmps193
  go_wp2_with fail
  go_loop [6] (fun i => ∃ k : Nat, k ≤ N ∧ i = .int .i64 k ∧ Hid ((l.take k).all dig = true)) (fun i => N - (intOf i).toNat)
  case atStart => exact ⟨0, by omega, rfl, rfl⟩
  case round =>
    obtain ⟨k, hk, rfl, HI⟩ := hrel
    by_cases h1 : k < N
    · have hx := HIX.out k (by rw [← HN.out]; exact h1)
      have hc := HLT.out k
      obtain ⟨c, hcc⟩ : ∃ c, c = l.getD k 0 := ⟨_, rfl⟩
      rw [← hcc] at hx hc
      have HC := hide hcc
      clear hcc
      have hd : decide ((k : Int) < (N : Int)) = true := decide_eq_true (by omega)
      cases hb : dig c with
      | false =>
        have HB := hide hb
        clear hb
        go_wp2_with fail
        refine (isDigit_at c _ hc).mono ?_
        rintro e w' ⟨rfl, rfl⟩
        rw [HB.out]
        go_wp2_with fail
        go_ret
        refine ⟨?_, rfl⟩
        have : l.all dig = false := by
          rw [List.all_eq_false]
          have hl : k < l.length := by rw [← HSZ.out, ← HN.out]; exact h1
          refine ⟨c, ?_, by simp [HB.out]⟩
          rw [HC.out, List.getD, List.getElem?_eq_getElem hl]; exact List.getElem_mem _
        simp [this]
      | true =>
        have HB := hide hb
        clear hb
        go_wp2_with fail
        refine (isDigit_at c _ hc).mono ?_
        rintro e w' ⟨rfl, rfl⟩
        rw [HB.out]
        go_wp2_with fail
        go_round
        case rel => exact ⟨k + 1, by omega, by go_num, by
          have hl : k < l.length := by rw [← HSZ.out, ← HN.out]; exact h1
          show _ = _
          rw [take_snoc l k hl, List.all_append, HI.out, ← HC.out]; simp [HB.out]⟩
        case measure => simp [intOf]; omega
    · have hd : decide ((k : Int) < (N : Int)) = false := decide_eq_false (by omega)
      have hall : Hid (l.all dig = true) := by
        have := HI.out
        rw [List.take_of_length_le (by rw [← HSZ.out, ← HN.out]; omega)] at this
        exact this
      go_wp2_with fail
      go_ret
      refine ⟨?_, rfl⟩
      rw [hall.out]
      simp [isEmpty_byt, HL.out]

set_option maxHeartbeats 1000000 in
theorem looks_at (t : ByteArray) (w : World) (hm : t.size ≤ maxLen) : Calls Tryz.prog 159 #[.string t] w fun e w' => e = .returned (.bool (looks (byt t))) ∧ w = w' := by
  obtain ⟨l, hl⟩ : ∃ l, l = byt t := ⟨_, rfl⟩
  have hix : ∀ i, i < t.size → ∀ w, (Instr.index 9 (.string t) (.int .i64 (i : Nat))).run Tryz.prog w = .ok (.int .u8 (l.getD i 0 : Nat)) w := fun i hi w => by rw [hl]; exact run_ixstr t i hi w
  have hlt : ∀ k, l.getD k 0 < 256 := fun k => by rw [hl]; exact getD_lt (byt_lt t) k
  have hsz : t.size = l.length := by rw [hl, byt_length]
  rw [← hl]
  have HIX := hide hix
  have HLT := hide hlt
  have HSZ := hide hsz
  obtain ⟨N, hN⟩ : ∃ N, N = t.size := ⟨_, rfl⟩
  have HN := hide hN
  rw [← hN] at hm
  unfold maxLen at hm
  have hNI : (t.size : Int) = (N : Int) := by rw [hN]
  clear hix hlt hl hsz hN
  go_enter Tryz.func159, Tryz.ntmps159
  go_wp2_with fail
  go_loop [6] (fun i => ∃ k : Nat, k ≤ N ∧ i = .int .i64 k ∧ Hid (looks (l.take k) = true)) (fun i => N - (intOf i).toNat)
  case atStart => exact ⟨0, by omega, rfl, rfl⟩
  case round =>
    obtain ⟨k, hk, rfl, HI⟩ := hrel
    by_cases h1 : k < N
    · have hx := HIX.out k (by rw [← HN.out]; exact h1)
      have hc := HLT.out k
      have hl : Hid (k < l.length) := by show _ < _; rw [← HSZ.out, ← HN.out]; exact h1
      obtain ⟨c, hcc⟩ : ∃ c, c = l.getD k 0 := ⟨_, rfl⟩
      rw [← hcc] at hx hc
      have HC := hide hcc
      have HT : Hid (l.take (k + 1) = l.take k ++ [c]) := by show _ = _; rw [take_snoc l k hl.out, ← hcc]
      have HM : Hid (c ∈ l) := by show _ ∈ _; rw [hcc, List.getD, List.getElem?_eq_getElem hl.out]; exact List.getElem_mem _
      clear hcc
      have hd : decide ((k : Int) < (N : Int)) = true := decide_eq_true (by omega)
      by_cases h46 : c = 46
      · have hb : ((c : Int) != 46) = false := by simp; omega
        have hb' : ((c : Int) == 46) = true := by simp; omega
        have H46 := hide h46
        clear h46
        go_wp2_with fail
        go_round
        case rel => exact ⟨k + 1, by omega, by go_num, by
          show _ = _
          rw [HT.out, looks, List.all_append]
          have := HI.out
          rw [looks] at this
          rw [this, H46.out]; rfl⟩
        case measure => simp [intOf]; omega
      · have hb : ((c : Int) != 46) = true := by simp; omega
        have hb' : ((c : Int) == 46) = false := by simp; omega
        have H46 := hide h46
        clear h46
        cases hdg : dig c with
        | false =>
          have HB := hide hdg
          clear hdg
          go_wp2_with fail
          refine (isDigit_at c _ hc).mono ?_
          rintro e w' ⟨rfl, rfl⟩
          rw [HB.out]
          go_wp2_with fail
          go_ret
          refine ⟨?_, rfl⟩
          have : looks l = false := by
            rw [looks, List.all_eq_false]
            exact ⟨c, HM.out, by simp [HB.out, H46.out]⟩
          rw [this]; rfl
        | true =>
          have HB := hide hdg
          clear hdg
          go_wp2_with fail
          refine (isDigit_at c _ hc).mono ?_
          rintro e w' ⟨rfl, rfl⟩
          rw [HB.out]
          go_wp2_with fail
          go_round
          case rel => exact ⟨k + 1, by omega, by go_num, by
            show _ = _
            rw [HT.out, looks, List.all_append]
            have := HI.out
            rw [looks] at this
            rw [this]; simp [HB.out]⟩
          case measure => simp [intOf]; omega
    · have hd : decide ((k : Int) < (N : Int)) = false := decide_eq_false (by omega)
      have hall : Hid (looks l = true) := by
        have := HI.out
        rw [List.take_of_length_le (by rw [← HSZ.out, ← HN.out]; omega)] at this
        exact this
      go_wp2_with fail
      go_ret
      refine ⟨?_, rfl⟩
      rw [hall.out]; rfl

/-- What a reader of a number tells. -/
def two (o : Option Nat) : Value := .tuple #[.int .i64 (o.getD 0 : Nat), .bool o.isSome]
end Go.Proofs.YtccoddmdlbdfjaaGreatDoor
