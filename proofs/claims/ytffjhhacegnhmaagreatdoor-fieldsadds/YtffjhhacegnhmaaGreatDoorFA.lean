/-
  Small functions of package fields: small, readName, readDirective, readNumber, readAge, forbids; conditions as each theorem has them.
-/
import Derived.Test.YtffjhhacegnhmaaGreatDoorHD
import Derived.Test.YtffjhhacegnhmaaGreatDoorFM
set_option linter.unusedSimpArgs false
set_option linter.unusedVariables false
namespace Go.Proofs.YtffjhhacegnhmaaGreatDoor
open Go.RowKit

set_option maxRecDepth 100000 in
set_option maxHeartbeats 4000000 in
theorem fsmall_at (t : ByteArray) (w : World) (hm : t.size ≤ 140737488355328) : Calls Tryz.prog 55 #[.string t] w fun e w' => e = .returned (.string (strN (low (byt t)))) ∧ Below w.heap.size w w' := by
  obtain ⟨l, hl⟩ : ∃ l, l = byt t := ⟨_, rfl⟩
  rw [← hl]
  have HL : Hid (byt t = l) := hl.symm
  obtain ⟨N, hN⟩ : ∃ N, N = t.size := ⟨_, rfl⟩
  have HNL : Hid (N = l.length) := by show _ = _; rw [hN, hl, byt_length]
  have HLT : Hid (∀ k, l.getD k 0 < 256) := fun k => by rw [hl]; exact getD_lt (byt_lt t) k
  obtain ⟨cap, w1, hcv, hcap, hb1, hbeg⟩ := conv_bytes t w
  rw [← hN] at hcv hcap hm
  rw [← hl] at hbeg
  have HI : Hid (Beg w1 w.heap.size (low (l.take 0) ++ l.drop 0) ∧ Below w.heap.size w w1) := ⟨hbeg, hb1⟩
  clear hl hN hb1 hbeg
  go_enter Tryz.func55, Tryz.ntmps55
  go_wp2_with fail
  clear hcv
  go_loopw [10] (fun i wr => ∃ k : Nat, k ≤ N ∧ i = .int .i64 k ∧ Hid (Beg wr w.heap.size (low (l.take k) ++ l.drop k) ∧ Below w.heap.size w wr)) (fun i _ => N - (intOf i).toNat)
  case atStart => exact ⟨0, by omega, rfl, HI.out⟩
  case round =>
    obtain ⟨k, hk, rfl, HI⟩ := hrel
    obtain ⟨i1, i2⟩ := HI.out
    have I1 := hide i1
    have I2 := hide i2
    by_cases hkN : k < N
    · have hdk : decide ((k : Int) < (N : Int)) = true := decide_eq_true (by omega)
      have hkl : k < l.length := by rw [← HNL.out]; exact hkN
      have hcl := i1.cell (j := k) (by rw [mid_len]; exact hkl)
      rw [mid_getD l k hkl] at hcl
      have hfr := i1.frozen (j := k) (by rw [mid_len]; exact hkl)
      have hc := HLT.out k
      have HS := hide (i1.set (j := k) (by rw [mid_len]; exact hkl) (lo (l.getD k 0)))
      rw [low_set l k hkl] at HS
      have HM : Hid (lo (l.getD k 0) = l.getD k 0 → low (l.take k) ++ l.drop k = low (l.take (k + 1)) ++ l.drop (k + 1)) := low_same l k hkl
      obtain ⟨c, hcc⟩ : ∃ c, c = l.getD k 0 := ⟨_, rfl⟩
      rw [← hcc] at hcl hc HS HM
      clear hcc hkl i1 i2
      by_cases h65 : 65 ≤ c
      · have q1 : decide (65 ≤ (c : Int)) = true := decide_eq_true (by omega)
        by_cases h90 : c ≤ 90
        · have q2 : decide ((c : Int) ≤ 90) = true := decide_eq_true (by omega)
          have hlo : lo c = c + 32 := by rw [lo, if_pos ⟨h65, h90⟩]
          rw [hlo, show ((c + 32 : Nat) : Int) = (c : Int) - 65 + 97 by omega] at HS
          clear hlo HM
          go_wp2_with fail
          go_roundw
          case rel => exact ⟨k + 1, by omega, by go_num, HS.out, I2.out.setCell (by simp) _⟩
          case measure => simp [intOf]; omega
        · have q2 : decide ((c : Int) ≤ 90) = false := decide_eq_false (by omega)
          have hlo : lo c = c := by rw [lo, if_neg (by omega)]
          have HM2 := hide (HM.out hlo)
          clear hlo HM HS
          go_wp2_with fail
          go_roundw
          case rel => exact ⟨k + 1, by omega, by go_num, by have := I1.out; rw [HM2.out] at this; exact this, I2.out⟩
          case measure => simp [intOf]; omega
      · have q1 : decide (65 ≤ (c : Int)) = false := decide_eq_false (by omega)
        have hlo : lo c = c := by rw [lo, if_neg (by omega)]
        have HM2 := hide (HM.out hlo)
        clear hlo HM HS
        go_wp2_with fail
        go_roundw
        case rel => exact ⟨k + 1, by omega, by go_num, by have := I1.out; rw [HM2.out] at this; exact this, I2.out⟩
        case measure => simp [intOf]; omega
    · have hdk : decide ((k : Int) < (N : Int)) = false := decide_eq_false (by omega)
      rw [List.take_of_length_le (by rw [← HNL.out]; omega), List.drop_eq_nil_of_le (by rw [← HNL.out]; omega), List.append_nil] at i1
      have hstr := run_str wr w.heap.size 0 N cap (low l) (by rw [low_length, ← HNL.out]) (fun i hi => by
        rw [Nat.zero_add]; exact i1.cell (by rw [low_length, ← HNL.out]; exact hi))
      clear i1 i2
      go_wp2_with fail
      go_ret
      exact ⟨rfl, I2.out⟩
/-- What a reader of pieces answers: a text, and whether there is one. -/
def RdS (rd : List Nat → Option (List Nat)) (t : ByteArray) (e : Ending) : Prop := ∃ (x : ByteArray) (ok : Bool), e = .returned (.tuple #[.string x, .bool ok]) ∧ rd (byt t) = if ok then some (byt x) else none
def RdI (rd : List Nat → Option Nat) (t : ByteArray) (e : Ending) : Prop := ∃ (x : Nat) (ok : Bool), e = .returned (.tuple #[.int .i64 (x : Nat), .bool ok]) ∧ x < 10000000 ∧ rd (byt t) = if ok then some x else none
theorem readName_at (t : ByteArray) (w : World) (hm : t.size ≤ 140737488355328) : Calls Tryz.prog 84 #[.string t] w fun e w' => RdS rdN t e ∧ Below w.heap.size w w' := by
  have HS := hide (fsmall_at t w hm)
  have HT : Hid (∀ W, Calls Tryz.prog 11 #[.string t] W fun e w' => e = .returned (.bool (tok (byt t))) ∧ Below W.heap.size W w') := fun W => token_at t W (by unfold maxLen; omega)
  have HR : Hid (rdN (byt t) = if tok (byt t) then some (byt (strN (low (byt t)))) else none) := by
    show _ = _
    rw [byt_strN _ (low_lt (byt_lt t))]; rfl
  obtain ⟨X, hX⟩ : ∃ X, X = strN (low (byt t)) := ⟨_, rfl⟩
  obtain ⟨b, hb⟩ : ∃ b, b = tok (byt t) := ⟨_, rfl⟩
  rw [← hX, ← hb] at HR
  rw [← hX] at HS
  rw [← hb] at HT
  clear hX hb hm
  go_enter Tryz.func84, Tryz.ntmps84
  go_wp2_with fail
  refine HS.out.mono ?_
  rintro e w1 ⟨rfl, hb1⟩
  have B1 := hide hb1
  clear hb1
  go_wp2_with fail
  refine (HT.out _).mono ?_
  rintro e w2 ⟨rfl, hb2⟩
  have B2 := hide (B1.out.trans (hb2.mono B1.out.size))
  clear hb2
  go_wp2_with fail
  go_ret2
  exact ⟨⟨X, b, rfl, HR.out⟩, B2.out⟩
theorem readDirective_at (t : ByteArray) (w : World) (hm : t.size ≤ 140737488355328) : Calls Tryz.prog 58 #[.string t] w fun e w' => RdS rdD t e ∧ Below w.heap.size w w' := by
  have HS := hide (fsmall_at t w hm)
  have HR : Hid (rdD (byt t) = if (!decide (byt t = [])) then some (byt (strN (low (byt t)))) else none) := by
    show _ = _
    rw [byt_strN _ (low_lt (byt_lt t))]
    unfold rdD
    by_cases h : byt t = []
    · rw [if_pos h, decide_eq_true h]; rfl
    · rw [if_neg h, decide_eq_false h]; rfl
  have hne : (t.toList != []) = !decide (byt t = []) := by
    rw [bne]
    by_cases h : byt t = []
    · rw [(toList_nil t h).2, decide_eq_true h]
    · rw [(toList_ne t h).2, decide_eq_false h]
  obtain ⟨X, hX⟩ : ∃ X, X = strN (low (byt t)) := ⟨_, rfl⟩
  obtain ⟨b, hb⟩ : ∃ b, b = !decide (byt t = []) := ⟨_, rfl⟩
  rw [← hX, ← hb] at HR
  rw [← hX] at HS
  rw [← hb] at hne
  have hne2 : t.toList.isEmpty = !b := by
    rw [← hne, bne, Bool.not_not]
    cases t.toList with
    | nil => rfl
    | cons a r => rfl
  clear hX hb hm
  cases b with
  | true =>
    go_enter Tryz.func58, Tryz.ntmps58
    go_wp2_with fail
    refine HS.out.mono ?_
    rintro e w1 ⟨rfl, hb1⟩
    have B1 := hide hb1
    clear hb1
    go_wp2_with fail
    go_ret2
    exact ⟨⟨X, true, by first | rfl | simp [hne2], HR.out⟩, B1.out⟩
  | false =>
    go_enter Tryz.func58, Tryz.ntmps58
    go_wp2_with fail
    refine HS.out.mono ?_
    rintro e w1 ⟨rfl, hb1⟩
    have B1 := hide hb1
    clear hb1
    go_wp2_with fail
    go_ret2
    exact ⟨⟨X, false, by first | rfl | simp [hne2], HR.out⟩, B1.out⟩
end Go.Proofs.YtffjhhacegnhmaaGreatDoor
