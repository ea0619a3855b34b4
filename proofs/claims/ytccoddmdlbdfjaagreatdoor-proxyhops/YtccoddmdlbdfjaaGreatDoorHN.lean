/-
  Token, Value and Get of the reference; conditions as each theorem has them.
-/
import Derived.Test.YtccoddmdlbdfjaaGreatDoorHM
set_option linter.unusedSimpArgs false
set_option linter.unusedVariables false
namespace Go.Proofs.YtccoddmdlbdfjaaGreatDoor
open Go.RowKit

theorem blank_at (c : Nat) (w : World) : Calls Tryz.prog 110 #[.int .u8 c] w fun e w' => e = .returned (.bool (bk c)) ∧ w = w' := by
  unfold bk
  by_cases h : c = 32
  · subst h
    go_enter Tryz.func110, Tryz.ntmps110
    go_wp2
    go_ret
    exact ⟨rfl, rfl⟩
  · have q : ((c : Int) == 32) = false := by simp; omega
    rw [decide_eq_false h]
    by_cases h9 : c = 9
    · subst h9
      go_enter Tryz.func110, Tryz.ntmps110
      go_wp2
      go_ret
      exact ⟨rfl, rfl⟩
    · have q9 : ((c : Int) == 9) = false := by simp; omega
      rw [decide_eq_false h9]
      go_enter Tryz.func110, Tryz.ntmps110
      go_wp2
      go_ret
      exact ⟨rfl, rfl⟩
theorem ext_one (s : ByteArray) (k : Nat) (hk : k < s.size) : s.extract k (k + 1) = strN [(byt s).getD k 0] := by
  rw [← strN_byt (s.extract k (k + 1))]
  congr 1
  unfold byt
  rw [ByteArray.data_extract, Array.toList_extract, List.extract_eq_take_drop]
  have hk' : k < s.data.toList.length := by rw [Array.length_toList]; exact hk
  rw [show k + 1 - k = 1 by omega, List.drop_eq_getElem_cons hk', List.take_succ_cons, List.take_zero]
  simp only [List.map_cons, List.map_nil, List.getD, List.getElem?_map, List.getElem?_eq_getElem hk']
  rfl
theorem fst_mk (c : Nat) : decide (fI (fst c mk) < 0) = !mk.contains c := by
  cases h : fst c mk with
  | none =>
    have := fst_none_iff.1 h
    rw [show mk.contains c = false by simpa using this]; rfl
  | some k =>
    obtain ⟨_, h2, _⟩ := fst_lt h
    have := List.mem_of_getElem? h2
    rw [show mk.contains c = true by simpa using this]
    unfold fI
    simp
set_option maxRecDepth 100000 in
set_option maxHeartbeats 4000000 in
theorem rtoken_at (t : ByteArray) (w : World) (hm : t.size ≤ 140737488355328) : Calls Tryz.prog 70 #[.string t] w fun e w' => e = .returned (.bool (tok (byt t))) ∧ Below w.heap.size w w' := by
  obtain ⟨l, hl⟩ : ∃ l, l = byt t := ⟨_, rfl⟩
  have hix : ∀ i, i < t.size → ∀ w, (Instr.index 9 (.string t) (.int .i64 (i : Nat))).run Tryz.prog w = .ok (.int .u8 (l.getD i 0 : Nat)) w := fun i hi w => by rw [hl]; exact run_ixstr t i hi w
  have HEX : Hid (∀ k, k < t.size → t.extract k (k + 1) = strN [l.getD k 0]) := fun k hk => by rw [hl]; exact ext_one t k hk
  have HLT : Hid (∀ k, l.getD k 0 < 256) := fun k => by rw [hl]; exact getD_lt (byt_lt t) k
  rw [← hl]
  obtain ⟨N, hN⟩ : ∃ N, N = t.size := ⟨_, rfl⟩
  have hNI : (t.size : Int) = (N : Int) := by rw [hN]
  have HNL : Hid (N = l.length) := by show _ = _; rw [hN, hl, byt_length]
  rw [← hN] at hix HEX hm
  have HIX := hide hix
  clear hl hix hN
  go_enter Tryz.func70, Tryz.ntmps70
  go_wp2_with fail
  go_loopw [3] (fun i wr => ∃ k : Nat, k ≤ N ∧ i = .int .i64 k ∧ Hid ((l.take k).all tb = true ∧ Below w.heap.size w wr)) (fun i _ => N - (intOf i).toNat)
  case atStart => exact ⟨0, by omega, rfl, rfl, Below.refl _ _⟩
  case round =>
    obtain ⟨k, hk, rfl, HI⟩ := hrel
    by_cases hkN : k < N
    · have hdk : decide ((k : Int) < (N : Int)) = true := decide_eq_true (by omega)
      have hx := HIX.out k hkN
      have hc := HLT.out k
      have hkl : k < l.length := by rw [← HNL.out]; exact hkN
      have HA : Hid (tb (l.getD k 0) = true → (l.take (k + 1)).all tb = true) := fun h => all_take _ l k hkl HI.out.1 h
      have HF : Hid (tb (l.getD k 0) = false → tok l = false) := fun h => by unfold tok; rw [all_not _ l k hkl h]; simp
      have HFI : Hid (∀ W, Calls Tryz.prog 105 #[.string ⟨#[33, 35, 36, 37, 38, 39, 42, 43, 45, 46, 94, 95, 96, 124, 126]⟩, .string (t.extract k (k + 1))] W fun e w' => e = .returned (.int .i64 (fI (fst (l.getD k 0) mk))) ∧ W = w') := fun W => find_at _ _ _ W (by decide) hc (HEX.out k hkN)
      have hfm := fst_mk (l.getD k 0)
      obtain ⟨c, hcc⟩ : ∃ c, c = l.getD k 0 := ⟨_, rfl⟩
      rw [← hcc] at hx hc HA HF HFI hfm
      obtain ⟨F, hF⟩ : ∃ F, F = fI (fst c mk) := ⟨_, rfl⟩
      rw [← hF] at HFI hfm
      clear hcc hkl hF
      have HTB : Hid (tb c = ((decide (97 ≤ c) && decide (c ≤ 122)) || (decide (65 ≤ c) && decide (c ≤ 90)) || dig c || mk.contains c)) := rfl
      by_cases hlet : (97 ≤ c ∧ c ≤ 122) ∨ (65 ≤ c ∧ c ≤ 90) ∨ (48 ≤ c ∧ c ≤ 57)
      · have ht := hide (HA.out (by rw [HTB.out]; simp [dig]; omega))
        clear HA HF HTB hfm
        rcases hlet with ⟨g1, g2⟩ | ⟨g1, g2⟩ | ⟨g1, g2⟩
        · have q1 : decide ((c : Int) < 97) = false := decide_eq_false (by omega)
          have q2 : decide (122 < (c : Int)) = false := decide_eq_false (by omega)
          go_wp2_with fail
          go_roundw
          case rel => exact ⟨k + 1, by omega, by go_num, ht.out, HI.out.2⟩
          case measure => simp [intOf]; omega
        · have q1 : decide ((c : Int) < 97) = true := decide_eq_true (by omega)
          have q3 : decide ((c : Int) < 65) = false := decide_eq_false (by omega)
          have q4 : decide (90 < (c : Int)) = false := decide_eq_false (by omega)
          go_wp2_with fail
          go_roundw
          case rel => exact ⟨k + 1, by omega, by go_num, ht.out, HI.out.2⟩
          case measure => simp [intOf]; omega
        · have q1 : decide ((c : Int) < 97) = true := decide_eq_true (by omega)
          have q3 : decide ((c : Int) < 65) = true := decide_eq_true (by omega)
          have q5 : decide ((c : Int) < 48) = false := decide_eq_false (by omega)
          have q6 : decide (57 < (c : Int)) = false := decide_eq_false (by omega)
          go_wp2_with fail
          go_roundw
          case rel => exact ⟨k + 1, by omega, by go_num, ht.out, HI.out.2⟩
          case measure => simp [intOf]; omega
      · have HT2 : Hid (tb c = mk.contains c) := by
          show _ = _
          rw [HTB.out]
          have e1 : (decide (97 ≤ c) && decide (c ≤ 122)) = false := by simp; omega
          have e2 : (decide (65 ≤ c) && decide (c ≤ 90)) = false := by simp; omega
          have e3 : dig c = false := by simp [dig]; omega
          rw [e1, e2, e3]; rfl
        have hgap : c < 48 ∨ (57 < c ∧ c < 65) ∨ (90 < c ∧ c < 97) ∨ 122 < c := by omega
        clear hlet HTB
        cases hmk : mk.contains c with
        | true =>
          rw [hmk] at hfm
          have q9 : decide (F < 0) = false := hfm
          have ht := hide (HA.out (by rw [HT2.out, hmk]))
          clear HA HF hmk hfm
          rcases hgap with g | g | g | g
          · have qa : decide ((c : Int) < 97) = true := decide_eq_true (by omega)
            have qc : decide ((c : Int) < 65) = true := decide_eq_true (by omega)
            have qe : decide ((c : Int) < 48) = true := decide_eq_true (by omega)
            go_wp2_with fail
            refine (HFI.out _).mono ?_
            rintro e w1 ⟨rfl, hw1⟩
            rw [← hw1]
            clear hw1
            go_wp2_with fail
            go_roundw
            case rel => exact ⟨k + 1, by omega, by go_num, ht.out, HI.out.2⟩
            case measure => simp [intOf]; omega
          · have qa : decide ((c : Int) < 97) = true := decide_eq_true (by omega)
            have qc : decide ((c : Int) < 65) = true := decide_eq_true (by omega)
            have qe : decide ((c : Int) < 48) = false := decide_eq_false (by omega)
            have qf : decide (57 < (c : Int)) = true := decide_eq_true (by omega)
            go_wp2_with fail
            refine (HFI.out _).mono ?_
            rintro e w1 ⟨rfl, hw1⟩
            rw [← hw1]
            clear hw1
            go_wp2_with fail
            go_roundw
            case rel => exact ⟨k + 1, by omega, by go_num, ht.out, HI.out.2⟩
            case measure => simp [intOf]; omega
          · have qa : decide ((c : Int) < 97) = true := decide_eq_true (by omega)
            have qc : decide ((c : Int) < 65) = false := decide_eq_false (by omega)
            have qd : decide (90 < (c : Int)) = true := decide_eq_true (by omega)
            have qe : decide ((c : Int) < 48) = false := decide_eq_false (by omega)
            have qf : decide (57 < (c : Int)) = true := decide_eq_true (by omega)
            go_wp2_with fail
            refine (HFI.out _).mono ?_
            rintro e w1 ⟨rfl, hw1⟩
            rw [← hw1]
            clear hw1
            go_wp2_with fail
            go_roundw
            case rel => exact ⟨k + 1, by omega, by go_num, ht.out, HI.out.2⟩
            case measure => simp [intOf]; omega
          · have qa : decide ((c : Int) < 97) = false := decide_eq_false (by omega)
            have qb : decide (122 < (c : Int)) = true := decide_eq_true (by omega)
            have qc : decide ((c : Int) < 65) = false := decide_eq_false (by omega)
            have qd : decide (90 < (c : Int)) = true := decide_eq_true (by omega)
            have qe : decide ((c : Int) < 48) = false := decide_eq_false (by omega)
            have qf : decide (57 < (c : Int)) = true := decide_eq_true (by omega)
            go_wp2_with fail
            refine (HFI.out _).mono ?_
            rintro e w1 ⟨rfl, hw1⟩
            rw [← hw1]
            clear hw1
            go_wp2_with fail
            go_roundw
            case rel => exact ⟨k + 1, by omega, by go_num, ht.out, HI.out.2⟩
            case measure => simp [intOf]; omega
        | false =>
          rw [hmk] at hfm
          have q9 : decide (F < 0) = true := hfm
          have ht := hide (HF.out (by rw [HT2.out, hmk]))
          clear HA HF hmk hfm
          rcases hgap with g | g | g | g
          · have qa : decide ((c : Int) < 97) = true := decide_eq_true (by omega)
            have qc : decide ((c : Int) < 65) = true := decide_eq_true (by omega)
            have qe : decide ((c : Int) < 48) = true := decide_eq_true (by omega)
            go_wp2_with fail
            refine (HFI.out _).mono ?_
            rintro e w1 ⟨rfl, hw1⟩
            rw [← hw1]
            clear hw1
            go_wp2_with fail
            go_ret
            exact ⟨by rw [ht.out]; rfl, HI.out.2⟩
          · have qa : decide ((c : Int) < 97) = true := decide_eq_true (by omega)
            have qc : decide ((c : Int) < 65) = true := decide_eq_true (by omega)
            have qe : decide ((c : Int) < 48) = false := decide_eq_false (by omega)
            have qf : decide (57 < (c : Int)) = true := decide_eq_true (by omega)
            go_wp2_with fail
            refine (HFI.out _).mono ?_
            rintro e w1 ⟨rfl, hw1⟩
            rw [← hw1]
            clear hw1
            go_wp2_with fail
            go_ret
            exact ⟨by rw [ht.out]; rfl, HI.out.2⟩
          · have qa : decide ((c : Int) < 97) = true := decide_eq_true (by omega)
            have qc : decide ((c : Int) < 65) = false := decide_eq_false (by omega)
            have qd : decide (90 < (c : Int)) = true := decide_eq_true (by omega)
            have qe : decide ((c : Int) < 48) = false := decide_eq_false (by omega)
            have qf : decide (57 < (c : Int)) = true := decide_eq_true (by omega)
            go_wp2_with fail
            refine (HFI.out _).mono ?_
            rintro e w1 ⟨rfl, hw1⟩
            rw [← hw1]
            clear hw1
            go_wp2_with fail
            go_ret
            exact ⟨by rw [ht.out]; rfl, HI.out.2⟩
          · have qa : decide ((c : Int) < 97) = false := decide_eq_false (by omega)
            have qb : decide (122 < (c : Int)) = true := decide_eq_true (by omega)
            have qc : decide ((c : Int) < 65) = false := decide_eq_false (by omega)
            have qd : decide (90 < (c : Int)) = true := decide_eq_true (by omega)
            have qe : decide ((c : Int) < 48) = false := decide_eq_false (by omega)
            have qf : decide (57 < (c : Int)) = true := decide_eq_true (by omega)
            go_wp2_with fail
            refine (HFI.out _).mono ?_
            rintro e w1 ⟨rfl, hw1⟩
            rw [← hw1]
            clear hw1
            go_wp2_with fail
            go_ret
            exact ⟨by rw [ht.out]; rfl, HI.out.2⟩
    · have hdk : decide ((k : Int) < (N : Int)) = false := decide_eq_false (by omega)
      have hr := HI.out.1
      rw [List.take_of_length_le (by rw [← HNL.out]; omega)] at hr
      have HR : Hid (tok l = (decide (0 < (N : Int)) && decide ((N : Int) ≤ 64))) := by
        show _ = _
        unfold tok
        rw [hr, ← HNL.out, Bool.and_true]
        congr 1
        · apply decide_eq_decide.2
          rw [← List.length_pos_iff, ← HNL.out]; omega
        · apply decide_eq_decide.2; omega
      clear hr
      by_cases h0 : 0 < N
      · have q0 : decide (0 < (N : Int)) = true := decide_eq_true (by omega)
        go_wp2_with fail
        go_ret
        exact ⟨by rw [HR.out, q0]; rfl, HI.out.2⟩
      · have q0 : decide (0 < (N : Int)) = false := decide_eq_false (by omega)
        go_wp2_with fail
        go_ret
        exact ⟨by rw [HR.out, q0]; rfl, HI.out.2⟩

theorem vb_ref (c : Nat) : vb c = !((decide (c < 33) || decide (126 < c)) && !bk c) := by
  unfold vb bk
  by_cases h9 : c = 9
  · subst h9; decide
  · by_cases h32 : c = 32
    · subst h32; decide
    · rw [decide_eq_false h9, decide_eq_false h32]
      simp only [Bool.false_or, Bool.not_false, Bool.and_true, Bool.not_or]
      by_cases h1 : 33 ≤ c
      · by_cases h2 : c ≤ 126
        · rw [decide_eq_true (show 32 ≤ c by omega), decide_eq_true h2, decide_eq_false (show ¬ c < 33 by omega), decide_eq_false (show ¬ 126 < c by omega)]; rfl
        · rw [decide_eq_false h2, decide_eq_true (show 126 < c by omega)]; simp
      · rw [decide_eq_false (show ¬ 32 ≤ c by omega), decide_eq_true (show c < 33 by omega)]; rfl
theorem value_ref {l : List Nat} (h : l.all vb = true) : value l = (decide (l.length ≤ 4096) && (decide (l = []) || (!bk (l.getD 0 0) && !bk (l.getD (l.length - 1) 0)))) := by
  unfold value
  rw [h, Bool.and_true]
  congr 1
  cases l with
  | nil => decide
  | cons c r =>
    rw [decide_eq_false (show ¬ c :: r = [] by simp), Bool.false_or]
    have hl : (c :: r).getLast? = some ((c :: r).getD ((c :: r).length - 1) 0) := by
      rw [List.getLast?_eq_getElem?, List.getD, List.getElem?_eq_getElem (by simp)]; rfl
    by_cases ht : trim (c :: r) = c :: r
    · obtain ⟨h1, h2⟩ := (trim_ends _).1 ht
      rw [decide_eq_true ht, show bk ((c :: r).getD 0 0) = false from h1 c rfl, h2 _ hl]; rfl
    · rw [decide_eq_false ht]
      cases hb1 : bk ((c :: r).getD 0 0) with
      | true => rfl
      | false =>
        cases hb2 : bk ((c :: r).getD ((c :: r).length - 1) 0) with
        | true => rfl
        | false =>
          exfalso
          apply ht
          apply (trim_ends _).2
          refine ⟨fun x hx => ?_, fun x hx => ?_⟩
          · simp at hx; subst hx; exact hb1
          · rw [hl] at hx; cases hx; exact hb2
set_option maxRecDepth 100000 in
set_option maxHeartbeats 4000000 in
theorem rvalue_at (t : ByteArray) (w : World) (hm : t.size ≤ 140737488355328) : Calls Tryz.prog 111 #[.string t] w fun e w' => e = .returned (.bool (value (byt t))) ∧ Below w.heap.size w w' := by
  obtain ⟨l, hl⟩ : ∃ l, l = byt t := ⟨_, rfl⟩
  have hix : ∀ i, i < t.size → ∀ w, (Instr.index 9 (.string t) (.int .i64 (i : Nat))).run Tryz.prog w = .ok (.int .u8 (l.getD i 0 : Nat)) w := fun i hi w => by rw [hl]; exact run_ixstr t i hi w
  have HLT : Hid (∀ k, l.getD k 0 < 256) := fun k => by rw [hl]; exact getD_lt (byt_lt t) k
  have HE0 : Hid (l = [] → t.toList.isEmpty = true ∧ (t.toList == []) = true) := fun e => toList_nil t (by rw [← hl]; exact e)
  have HE1 : Hid (l ≠ [] → t.toList.isEmpty = false ∧ (t.toList == []) = false) := fun e => toList_ne t (by rw [← hl]; exact e)
  rw [← hl]
  obtain ⟨N, hN⟩ : ∃ N, N = t.size := ⟨_, rfl⟩
  have hNI : (t.size : Int) = (N : Int) := by rw [hN]
  have HNL : Hid (N = l.length) := by show _ = _; rw [hN, hl, byt_length]
  rw [← hN] at hix hm
  have HIX := hide hix
  have HSZ := hide hN
  have HG0 : Hid (∀ h : 0 < t.size, (t[0]'h).toNat = l.getD 0 0) := fun h => by rw [hl, ← get_bang t 0 h, ← Go.get_at t 0 h]
  clear hl hix hN
  go_enter Tryz.func111, Tryz.ntmps111
  go_wp2_with fail
  go_loopw [3] (fun i wr => ∃ k : Nat, k ≤ N ∧ i = .int .i64 k ∧ Hid ((l.take k).all vb = true ∧ Below w.heap.size w wr)) (fun i _ => N - (intOf i).toNat)
  case atStart => exact ⟨0, by omega, rfl, rfl, Below.refl _ _⟩
  case round =>
    obtain ⟨k, hk, rfl, HI⟩ := hrel
    by_cases hkN : k < N
    · have hdk : decide ((k : Int) < (N : Int)) = true := decide_eq_true (by omega)
      have hx := HIX.out k hkN
      have hc := HLT.out k
      have hkl : k < l.length := by rw [← HNL.out]; exact hkN
      have HA : Hid (vb (l.getD k 0) = true → (l.take (k + 1)).all vb = true) := fun h => all_take _ l k hkl HI.out.1 h
      have HF : Hid (vb (l.getD k 0) = false → value l = false) := fun h => by unfold value; rw [all_not _ l k hkl h]; simp
      obtain ⟨c, hcc⟩ : ∃ c, c = l.getD k 0 := ⟨_, rfl⟩
      rw [← hcc] at hx hc HA HF
      have HBL := hide (fun W => blank_at c W)
      clear hcc hkl
      rw [vb_ref] at HA HF
      by_cases h33 : c < 33
      · have q1 : decide ((c : Int) < 33) = true := decide_eq_true (by omega)
        rw [decide_eq_true h33] at HA HF
        simp only [Bool.true_or, Bool.true_and, Bool.not_not] at HA HF
        go_wp2_with fail
        refine (HBL.out _).mono ?_
        rintro e w1 ⟨rfl, hw1⟩
        rw [← hw1]
        clear hw1
        cases hb : bk c with
        | true =>
          have ht := hide (HA.out hb)
          clear HA HF hb
          go_wp2_with fail
          go_roundw
          case rel => exact ⟨k + 1, by omega, by go_num, ht.out, HI.out.2⟩
          case measure => simp [intOf]; omega
        | false =>
          have ht := hide (HF.out hb)
          clear HA HF hb
          go_wp2_with fail
          go_ret
          exact ⟨by rw [ht.out]; rfl, HI.out.2⟩
      · have q1 : decide ((c : Int) < 33) = false := decide_eq_false (by omega)
        rw [decide_eq_false h33] at HA HF
        by_cases h126 : 126 < c
        · have q2 : decide (126 < (c : Int)) = true := decide_eq_true (by omega)
          rw [decide_eq_true h126] at HA HF
          simp only [Bool.false_or, Bool.true_and, Bool.not_not] at HA HF
          go_wp2_with fail
          refine (HBL.out _).mono ?_
          rintro e w1 ⟨rfl, hw1⟩
          rw [← hw1]
          clear hw1
          cases hb : bk c with
          | true =>
            have ht := hide (HA.out hb)
            clear HA HF hb
            go_wp2_with fail
            go_roundw
            case rel => exact ⟨k + 1, by omega, by go_num, ht.out, HI.out.2⟩
            case measure => simp [intOf]; omega
          | false =>
            have ht := hide (HF.out hb)
            clear HA HF hb
            go_wp2_with fail
            go_ret
            exact ⟨by rw [ht.out]; rfl, HI.out.2⟩
        · have q2 : decide (126 < (c : Int)) = false := decide_eq_false (by omega)
          rw [decide_eq_false h126] at HA
          have ht := hide (HA.out rfl)
          clear HA HF
          go_wp2_with fail
          go_roundw
          case rel => exact ⟨k + 1, by omega, by go_num, ht.out, HI.out.2⟩
          case measure => simp [intOf]; omega
    · have hdk : decide ((k : Int) < (N : Int)) = false := decide_eq_false (by omega)
      have hr := HI.out.1
      rw [List.take_of_length_le (by rw [← HNL.out]; omega)] at hr
      have hv := value_ref hr
      rw [← HNL.out] at hv
      by_cases h4 : N ≤ 4096
      · have q4 : decide ((N : Int) ≤ 4096) = true := decide_eq_true (by omega)
        have q4' : decide (N ≤ 4096) = true := decide_eq_true h4
        rw [q4', Bool.true_and] at hv
        by_cases h0 : l = []
        · obtain ⟨e1, e2⟩ := HE0.out h0
          rw [decide_eq_true h0, Bool.true_or] at hv
          have HR := hide hv
          clear hr hv h0
          go_wp2_with fail
          go_ret
          exact ⟨by rw [HR.out]; rfl, HI.out.2⟩
        · obtain ⟨e1, e2⟩ := HE1.out h0
          rw [decide_eq_false h0, Bool.false_or] at hv
          have hN0 : 0 < N := by rw [HNL.out]; exact List.length_pos_iff.2 h0
          have hx0 := HIX.out 0 hN0
          have hx1 := HIX.out (N - 1) (by omega)
          have hN1 : ((N - 1 : Nat) : Int) = (N : Int) - 1 := by omega
          rw [hN1] at hx1
          have hg0 := HG0.out (by rw [← HSZ.out]; exact hN0)
          obtain ⟨a, ha⟩ : ∃ x, x = l.getD 0 0 := ⟨_, rfl⟩
          rw [← ha] at hg0
          obtain ⟨b, hb⟩ : ∃ x, x = l.getD (N - 1) 0 := ⟨_, rfl⟩
          rw [← ha, ← hb] at hv
          rw [← ha] at hx0
          rw [← hb] at hx1
          have HR := hide hv
          have HA := hide (fun W => blank_at a W)
          have HB := hide (fun W => blank_at b W)
          clear hr hv h0 ha hb
          go_wp2_with fail
          refine (HA.out _).mono ?_
          rintro e w1 ⟨rfl, hw1⟩
          rw [← hw1]
          clear hw1
          cases hba : bk a with
          | true =>
            have HR2 : Hid (value l = false) := by show _ = _; rw [HR.out, hba]; rfl
            clear hba HR
            go_wp2_with fail
            go_ret
            exact ⟨by rw [HR2.out]; rfl, HI.out.2⟩
          | false =>
            have HR2 : Hid (value l = !bk b) := by show _ = _; rw [HR.out, hba]; rfl
            clear hba HR
            go_wp2_with fail
            refine (HB.out _).mono ?_
            rintro e w2 ⟨rfl, hw2⟩
            rw [← hw2]
            clear hw2
            go_wp2_with fail
            go_ret
            exact ⟨by rw [HR2.out]; first | rfl | simp, HI.out.2⟩
      · have q4 : decide ((N : Int) ≤ 4096) = false := decide_eq_false (by omega)
        have q4' : decide (N ≤ 4096) = false := decide_eq_false h4
        rw [q4', Bool.false_and] at hv
        have HR := hide hv
        clear hr hv
        go_wp2_with fail
        go_ret
        exact ⟨by rw [HR.out]; rfl, HI.out.2⟩

set_option maxRecDepth 100000 in
set_option maxHeartbeats 4000000 in
theorem rget_at (a : Option Addr) (n c : Nat) (fs : List Fd) (t : ByteArray) (w : World) (h : SrcF w a n c fs) (hfm : ∀ f ∈ fs, f.1.length ≤ 140737488355328) (ht : t.size ≤ 140737488355328) : Calls Tryz.prog 43 #[.slice a n c, .string t] w fun e w' => e = .returned (.tuple #[.string (strN (get fs (byt t)).1), .int .i64 ((get fs (byt t)).2 : Nat)]) ∧ Below w.heap.size w w' := by
  obtain ⟨nm, hnm⟩ : ∃ x, x = byt t := ⟨_, rfl⟩
  have HLN : Hid (∀ W, Calls Tryz.prog 32 #[.string t] W fun e w' => e = .returned (.string (strN (low nm))) ∧ Below W.heap.size W w') := fun W => by rw [hnm]; exact lower_at t W ht
  rw [← hnm]
  have hlb : ∀ x ∈ low nm, x < 256 := fun x hx => by
    unfold low at hx
    simp at hx
    obtain ⟨y, hy, rfl⟩ := hx
    rw [hnm] at hy
    exact lo_lt (byt_lt t y hy)
  have HLB := hide hlb
  have hcl := h.hcap
  have hmx := h.hmax
  unfold maxLen at hmx
  have H := hide h
  have HFM := hide hfm
  clear h hfm hnm hlb
  go_enter Tryz.func43, Tryz.ntmps43
  go_wp2_with fail
  go_loopw [6, 7, 8] (fun v q i wr => ∃ k m : Nat, k ≤ n ∧ m ≤ k ∧ i = .int .i64 k ∧ q = .int .i64 m ∧ ∃ V : ByteArray, v = .string V ∧ Hid (get (fs.take k) nm = (byt V, m) ∧ Below w.heap.size w wr)) (fun _ _ i _ => n - (intOf i).toNat)
  case atStart => exact ⟨0, 0, by omega, by omega, rfl, rfl, ⟨#[]⟩, rfl, rfl, Below.refl _ _⟩
  case round =>
    obtain ⟨k, m, hk, hmk, rfl, rfl, V, rfl, HI⟩ := hrel
    by_cases hkn : k < n
    · have hdk : decide ((k : Int) < (n : Int)) = true := decide_eq_true (by omega)
      have s1 := H.out.keep (w' := wr) (fun h0 b o e => HI.out.2.block b (H.out.lt h0 e)) HI.out.2.size
      obtain ⟨b, o, rfl, c0, c1⟩ := s1.at_ hkn
      rw [Nat.mul_comm 2 k] at c0 c1
      have hkl : k < fs.length := by rw [H.out.hlen]; exact hkn
      have hmem : fs.getD k ([], []) ∈ fs := getD_mem hkl
      have hby := H.out.byte _ hmem
      have hfl := HFM.out _ hmem
      have HSN := hide (get_snoc (fs.take k) (fs.getD k ([], [])) nm)
      rw [← ftake_snoc fs k hkl, HI.out.1] at HSN
      obtain ⟨f, hf⟩ : ∃ f, f = fs.getD k ([], []) := ⟨_, rfl⟩
      rw [← hf] at c0 c1 hby hfl HSN
      obtain ⟨p, q⟩ := f
      simp only at c0 c1 hby hfl HSN
      have HLP : Hid (∀ W, Calls Tryz.prog 32 #[.string (strN p)] W fun e w' => e = .returned (.string (strN (low p))) ∧ Below W.heap.size W w') := fun W => by
        have := lower_at (strN p) W (by rw [strN_size]; exact hfl)
        rw [byt_strN p hby.1] at this; exact this
      have HQB : Hid (byt (strN q) = q) := byt_strN q hby.2
      have hpb : ∀ x ∈ low p, x < 256 := fun x hx => by
        unfold low at hx
        simp at hx
        obtain ⟨y, hy, rfl⟩ := hx
        exact lo_lt (hby.1 y hy)
      have heq := toList_two (low p) (low nm) hpb HLB.out
      obtain ⟨P, hP⟩ : ∃ x, x = strN p := ⟨_, rfl⟩
      obtain ⟨R, hR⟩ : ∃ x, x = strN q := ⟨_, rfl⟩
      obtain ⟨LP, hLP⟩ : ∃ x, x = strN (low p) := ⟨_, rfl⟩
      obtain ⟨LN, hLN⟩ : ∃ x, x = strN (low nm) := ⟨_, rfl⟩
      have HLN2 := HLN
      rw [← hP] at c0 HLP
      rw [← hR] at c1 HQB
      rw [← hLP] at HLP heq
      rw [← hLN] at HLN2 heq
      clear hkl hmem hby hfl hf hP hR s1 hpb hLP hLN
      go_wp2_with fail
      refine (HLP.out _).mono ?_
      rintro e w1 ⟨rfl, hb1⟩
      have B1 := hide (HI.out.2.trans (hb1.mono HI.out.2.size))
      have d1 := (hb1.cell (lt_of_cell c1)).trans c1
      clear hb1 c0 c1
      go_wp2_with fail
      refine (HLN2.out _).mono ?_
      rintro e w2 ⟨rfl, hb2⟩
      have B2 := hide (B1.out.trans (hb2.mono B1.out.size))
      have d2 := (hb2.cell (lt_of_cell d1)).trans d1
      clear hb2 d1 B1
      by_cases hs : low p = low nm
      · rw [decide_eq_true hs] at heq
        rw [if_pos hs] at HSN
        by_cases hm0 : m = 0
        · subst hm0
          have HS2 : Hid (get (fs.take (k + 1)) nm = (byt R, 0 + 1)) := by show _ = _; rw [HSN.out, HQB.out]; rfl
          clear hs HSN
          go_wp2_with fail
          go_roundw
          case rel => exact ⟨k + 1, 1, by omega, by omega, by go_num, rfl, R, rfl, HS2.out, B2.out⟩
          case measure => simp [intOf]; omega
        · have q0 : ((m : Int) == 0) = false := by simp; omega
          have HS2 : Hid (get (fs.take (k + 1)) nm = (byt V, m + 1)) := by show _ = _; rw [HSN.out, if_neg hm0]
          clear hs HSN hm0
          go_wp2_with fail
          go_roundw
          case rel => exact ⟨k + 1, m + 1, by omega, by omega, by go_num, by go_num, V, rfl, HS2.out, B2.out⟩
          case measure => simp [intOf]; omega
      · rw [decide_eq_false hs] at heq
        rw [if_neg hs] at HSN
        clear hs
        go_wp2_with fail
        go_roundw
        case rel => exact ⟨k + 1, m, by omega, by omega, by go_num, rfl, V, rfl, HSN.out, B2.out⟩
        case measure => simp [intOf]; omega
    · have hdk : decide ((k : Int) < (n : Int)) = false := decide_eq_false (by omega)
      have hr := HI.out.1
      rw [List.take_of_length_le (by rw [H.out.hlen]; omega)] at hr
      have HR := hide hr
      clear hr
      go_wp2_with fail
      go_ret2
      refine ⟨?_, HI.out.2⟩
      rw [HR.out, strN_byt]; rfl
end Go.Proofs.YtccoddmdlbdfjaaGreatDoor
