/-
  Labels: 'readLabel' of package host and 'label' of the reference; conditions as each theorem has them.
-/
import Derived.Test.YtccoddmdlbdfjaaGreatDoorJoinedF
set_option linter.unusedSimpArgs false
set_option linter.unusedVariables false
namespace Go.Proofs.YtccoddmdlbdfjaaGreatDoor
open Go.RowKit

theorem info5' : (Tryz.prog.info? 5).map (fun i => (i.zero, i.size, i.bytes)) = some (some (.int .u8 0), 1, 1) := by kernel_rfl
theorem info5p : ∃ i, Tryz.prog.info? 5 = some i ∧ i.zero = some (.int .u8 0) ∧ i.size = 1 ∧ i.bytes = 1 := info_parts info5'
/-- 'make([]byte, n)'. -/
theorem run_make_n (n : Nat) (hn : n ≤ 65536) (w : World) : (Instr.makeSlice 35 (.int .i64 n) (.int .i64 n)).run Tryz.prog w = .ok (.slice (some ⟨w.heap.size, 0, none⟩) n n) (w.alloc (.cells (nums .u8 (List.replicate n 0)).toArray 5)) := by
  have h := run_make_row' (P := Tryz.prog) 35 5 (.int .u8 0) 1 Tryz.underlying35 info5' rfl .i64 .i64 n (by omega) (by omega) w
  rw [h]
  have e : madeCells #[Value.int .u8 0] n = (nums .u8 (List.replicate n 0)).toArray := by
    rw [← Array.toList_inj, toList_madeCells_one]
    simp [nums]
  rw [e]
theorem lbAt_ok (c i n : Nat) : lbAt c i n = lbOk c (decide (0 < i) && decide (i + 1 < n)) := rfl
theorem lab_no {l : List Nat} {k : Nat} (hk : k < l.length) (h : lbAt (l.getD k 0) k l.length = false) : labB l = false := by
  cases e : labB l with
  | false => rfl
  | true =>
    have := ((labB_iff l).1 e).2.2 k hk
    rw [h] at this; cases this
theorem low_snoc (l : List Nat) (k : Nat) (h : k < l.length) : low (l.take (k + 1)) = low (l.take k) ++ [lo (l.getD k 0)] := by
  rw [take_snoc l k h]; simp [low]

set_option maxRecDepth 100000 in
set_option maxHeartbeats 2000000 in
theorem readLabel_at (t : ByteArray) (w : World) (hm : t.size ≤ maxLen) : Calls Tryz.prog 192 #[.string t] w fun e w' => ∃ v, e = .returned (.tuple #[v, .bool (labB (byt t))]) ∧ Below w.heap.size w w' ∧ (labB (byt t) = true → v = .slice (some ⟨w.heap.size, 0, none⟩) (byt t).length (byt t).length ∧ Row w' w.heap.size 5 (nums .u8 (low (byt t)))) := by
  obtain ⟨l, hl⟩ : ∃ l, l = byt t := ⟨_, rfl⟩
  have hix : ∀ i, i < t.size → ∀ w, (Instr.index 9 (.string t) (.int .i64 (i : Nat))).run Tryz.prog w = .ok (.int .u8 (l.getD i 0 : Nat)) w := fun i hi w => by rw [hl]; exact run_ixstr t i hi w
  have hlt : ∀ k, l.getD k 0 < 256 := fun k => by rw [hl]; exact getD_lt (byt_lt t) k
  have hsz : t.size = l.length := by rw [hl, byt_length]
  rw [← hl]
  have HL : Hid (byt t = l) := hl.symm
  have HIX := hide hix
  have HLT := hide hlt
  have HSZ := hide hsz
  obtain ⟨N, hN⟩ : ∃ N, N = t.size := ⟨_, rfl⟩
  have HN := hide hN
  have HMX := hide hm
  rw [← hN] at hm
  unfold maxLen at hm
  have hNI : (t.size : Int) = (N : Int) := by rw [hN]
  have HNL : Hid (N = l.length) := by show _ = _; rw [hN, hsz]
  clear hix hlt hl hsz hN
  by_cases h1 : N < 1
  · have HR : Hid (labB l = false) := by
      cases e : labB l with
      | false => rfl
      | true => have := ((labB_iff l).1 e).1; have := HNL.out; omega
    have hd : decide ((N : Int) < 1) = true := decide_eq_true (by omega)
    have hd' : decide (N < 1) = true := decide_eq_true (by omega)
    go_enter Tryz.func192, Tryz.ntmps192
    go_wp2_with fail
    go_ret2
    refine ⟨.slice none 0 0, ?_, Below.refl _ _, fun h => ?_⟩
    · rw [HR.out]; rfl
    · rw [HR.out] at h; cases h
  have hd : decide ((N : Int) < 1) = false := decide_eq_false (by omega)
  have hd' : decide (N < 1) = false := decide_eq_false (by omega)
  by_cases h63 : 63 < N
  · have HR : Hid (labB l = false) := by
      cases e : labB l with
      | false => rfl
      | true => have := ((labB_iff l).1 e).2.1; have := HNL.out; omega
    have hd2 : decide (63 < (N : Int)) = true := decide_eq_true (by omega)
    have hd2' : decide (63 < N) = true := decide_eq_true (by omega)
    go_enter Tryz.func192, Tryz.ntmps192
    go_wp2_with fail
    go_ret2
    refine ⟨.slice none 0 0, ?_, Below.refl _ _, fun h => ?_⟩
    · rw [HR.out]; rfl
    · rw [HR.out] at h; cases h
  have hd2 : decide (63 < (N : Int)) = false := decide_eq_false (by omega)
  have hd2' : decide (63 < N) = false := decide_eq_false (by omega)
  have hN1 : 1 ≤ N := by omega
  have hN63 : N ≤ 63 := by omega
  clear h1 h63
  have hmk := run_make_n N (by omega)
  go_enter Tryz.func192, Tryz.ntmps192
  go_wp2_with fail
  clear hmk
  go_loopw [21] (fun i wr => ∃ k : Nat, k ≤ N ∧ i = .int .i64 k ∧ Hid ((∀ j, j < k → lbAt (l.getD j 0) j N = true) ∧ Row wr w.heap.size 5 (nums .u8 (low (l.take k) ++ List.replicate (N - k) 0)) ∧ Below w.heap.size w wr)) (fun i _ => N - (intOf i).toNat)
  case atStart =>
    refine ⟨0, by omega, rfl, fun j hj => by omega, ?_, (Below.refl _ _).alloc (Nat.le_refl _) _⟩
    have := Row.new w (nums .u8 (List.replicate N 0)).toArray 5
    simpa [low] using this
  case round =>
    obtain ⟨k, hk, rfl, HI⟩ := hrel
    obtain ⟨i1, i2, i3⟩ := HI.out
    have I1 := hide i1
    have I2 := hide i2
    have I3 := hide i3
    clear i1 i2 i3
    by_cases hkN : k < N
    · have hdk : decide ((k : Int) < (N : Int)) = true := decide_eq_true (by omega)
      have hx := HIX.out k (by rw [← HN.out]; exact hkN)
      have hc := HLT.out k
      have hkl : Hid (k < l.length) := by show _ < _; rw [← HNL.out]; exact hkN
      obtain ⟨c, hcc⟩ : ∃ c, c = l.getD k 0 := ⟨_, rfl⟩
      rw [← hcc] at hx hc
      have HC := hide hcc
      clear hcc
      have hcl : wr.cell? ⟨w.heap.size, k, none⟩ = some (.int .u8 0) := by
        rw [I2.out.cell, nums_append, List.getElem?_append_right (by rw [nums_length, low_length, List.length_take]; omega), nums_length, low_length, List.length_take, Nat.min_eq_left (by have := hkl.out; omega), Nat.sub_self, nums_get .u8 _ 0 (by simp; omega)]
        simp [List.getD, show 0 < N - k by omega]
      have hfr := I2.out.frozen k
      have HB : Hid (∀ b, b = (decide (0 < k) && decide (k + 1 < N)) → lbOk c b = lbAt c k N) := fun b hb => by rw [hb]; rfl
      by_cases hk0 : k = 0
      · have g1 : decide (0 < (k : Int)) = false := decide_eq_false (by omega)
        have g2 : decide (0 < k) = false := decide_eq_false (by omega)
        have HW : Hid (lbOk c false = lbAt c k N) := HB.out false (by simp [hk0])
        clear HB hk0
        cases hok : lbOk c false with
        | false =>
          have HOK := hide hok
          have HR : Hid (labB l = false) := by
            refine lab_no hkl.out ?_
            rw [← HNL.out, ← HC.out, ← HW.out, hok]
          clear hok
          go_wp2_with fail
          refine (labelByte_at c false _ hc).mono ?_
          rintro e w2 ⟨rfl, rfl⟩
          rw [HOK.out]
          go_wp2_with fail
          go_ret2
          refine ⟨.slice none 0 0, ?_, I3.out, fun h => ?_⟩
          · rw [HR.out]; rfl
          · rw [HR.out] at h; cases h
        | true =>
          have HOK := hide hok
          have hv : (lbV c false : Nat) = lo c := by rw [lbV, if_pos hok]
          have HV := hide hv
          have hlo := lo_lt hc
          clear hok hv
          go_wp2_with fail
          refine (labelByte_at c false _ hc).mono ?_
          rintro e w2 ⟨rfl, rfl⟩
          rw [HOK.out, HV.out]
          obtain ⟨d, hdd⟩ : ∃ d, d = lo c := ⟨_, rfl⟩
          rw [← hdd] at hlo ⊢
          have HD := hide hdd
          clear hdd
          go_wp2_with fail
          go_roundw
          case rel =>
            refine ⟨k + 1, by omega, by go_num, fun j hj => ?_, ?_, I3.out.setCell (by simp) _⟩
            · rcases Nat.lt_or_ge j k with h | h
              · exact I1.out j h
              · obtain rfl : j = k := by omega
                rw [← HC.out, ← HW.out]; exact HOK.out
            · have h2 := I2.out.setNum0 k d
              have hkl' := hkl.out
              have e : (low (l.take k) ++ List.replicate (N - k) 0).set k d = low (l.take (k + 1)) ++ List.replicate (N - (k + 1)) 0 := by
                rw [List.set_append_right _ _ (by rw [low_length, List.length_take]; omega), low_length, List.length_take, Nat.min_eq_left (by omega), Nat.sub_self, show N - k = (N - (k + 1)) + 1 by omega, List.replicate_succ, List.set_cons_zero, low_snoc l k hkl', ← HC.out, ← HD.out, List.append_assoc]; rfl
              rw [e] at h2
              exact h2
          case measure => simp [intOf]; omega
      · have g1 : decide (0 < (k : Int)) = true := decide_eq_true (by omega)
        have g2 : decide (0 < k) = true := decide_eq_true (by omega)
        by_cases hkl2 : k + 1 < N
        · have g3 : decide ((k : Int) < (N : Int) - 1) = true := decide_eq_true (by omega)
          have HW : Hid (lbOk c true = lbAt c k N) := HB.out true (by simp [hkl2]; omega)
          clear HB
          cases hok : lbOk c true with
          | false =>
            have HOK := hide hok
            have HR : Hid (labB l = false) := by
              refine lab_no hkl.out ?_
              rw [← HNL.out, ← HC.out, ← HW.out, hok]
            clear hok
            go_wp2_with fail
            refine (labelByte_at c true _ hc).mono ?_
            rintro e w2 ⟨rfl, rfl⟩
            rw [HOK.out]
            go_wp2_with fail
            go_ret2
            refine ⟨.slice none 0 0, ?_, I3.out, fun h => ?_⟩
            · rw [HR.out]; rfl
            · rw [HR.out] at h; cases h
          | true =>
            have HOK := hide hok
            have hv : (lbV c true : Nat) = lo c := by rw [lbV, if_pos hok]
            have HV := hide hv
            have hlo := lo_lt hc
            clear hok hv
            go_wp2_with fail
            refine (labelByte_at c true _ hc).mono ?_
            rintro e w2 ⟨rfl, rfl⟩
            rw [HOK.out, HV.out]
            obtain ⟨d, hdd⟩ : ∃ d, d = lo c := ⟨_, rfl⟩
            rw [← hdd] at hlo ⊢
            have HD := hide hdd
            clear hdd
            go_wp2_with fail
            go_roundw
            case rel =>
              refine ⟨k + 1, by omega, by go_num, fun j hj => ?_, ?_, I3.out.setCell (by simp) _⟩
              · rcases Nat.lt_or_ge j k with h | h
                · exact I1.out j h
                · obtain rfl : j = k := by omega
                  rw [← HC.out, ← HW.out]; exact HOK.out
              · have h2 := I2.out.setNum0 k d
                have hkl' := hkl.out
                have e : (low (l.take k) ++ List.replicate (N - k) 0).set k d = low (l.take (k + 1)) ++ List.replicate (N - (k + 1)) 0 := by
                  rw [List.set_append_right _ _ (by rw [low_length, List.length_take]; omega), low_length, List.length_take, Nat.min_eq_left (by omega), Nat.sub_self, show N - k = (N - (k + 1)) + 1 by omega, List.replicate_succ, List.set_cons_zero, low_snoc l k hkl', ← HC.out, ← HD.out, List.append_assoc]; rfl
                rw [e] at h2
                exact h2
            case measure => simp [intOf]; omega
        · have g3 : decide ((k : Int) < (N : Int) - 1) = false := decide_eq_false (by omega)
          have HW : Hid (lbOk c false = lbAt c k N) := HB.out false (by simp [hkl2])
          clear HB
          cases hok : lbOk c false with
          | false =>
            have HOK := hide hok
            have HR : Hid (labB l = false) := by
              refine lab_no hkl.out ?_
              rw [← HNL.out, ← HC.out, ← HW.out, hok]
            clear hok
            go_wp2_with fail
            refine (labelByte_at c false _ hc).mono ?_
            rintro e w2 ⟨rfl, rfl⟩
            rw [HOK.out]
            go_wp2_with fail
            go_ret2
            refine ⟨.slice none 0 0, ?_, I3.out, fun h => ?_⟩
            · rw [HR.out]; rfl
            · rw [HR.out] at h; cases h
          | true =>
            have HOK := hide hok
            have hv : (lbV c false : Nat) = lo c := by rw [lbV, if_pos hok]
            have HV := hide hv
            have hlo := lo_lt hc
            clear hok hv
            go_wp2_with fail
            refine (labelByte_at c false _ hc).mono ?_
            rintro e w2 ⟨rfl, rfl⟩
            rw [HOK.out, HV.out]
            obtain ⟨d, hdd⟩ : ∃ d, d = lo c := ⟨_, rfl⟩
            rw [← hdd] at hlo ⊢
            have HD := hide hdd
            clear hdd
            go_wp2_with fail
            go_roundw
            case rel =>
              refine ⟨k + 1, by omega, by go_num, fun j hj => ?_, ?_, I3.out.setCell (by simp) _⟩
              · rcases Nat.lt_or_ge j k with h | h
                · exact I1.out j h
                · obtain rfl : j = k := by omega
                  rw [← HC.out, ← HW.out]; exact HOK.out
              · have h2 := I2.out.setNum0 k d
                have hkl' := hkl.out
                have e : (low (l.take k) ++ List.replicate (N - k) 0).set k d = low (l.take (k + 1)) ++ List.replicate (N - (k + 1)) 0 := by
                  rw [List.set_append_right _ _ (by rw [low_length, List.length_take]; omega), low_length, List.length_take, Nat.min_eq_left (by omega), Nat.sub_self, show N - k = (N - (k + 1)) + 1 by omega, List.replicate_succ, List.set_cons_zero, low_snoc l k hkl', ← HC.out, ← HD.out, List.append_assoc]; rfl
                rw [e] at h2
                exact h2
            case measure => simp [intOf]; omega
    · have hdk : decide ((k : Int) < (N : Int)) = false := decide_eq_false (by omega)
      have hkN2 : k = N := by omega
      have HR : Hid (labB l = true) := (labB_iff l).2 ⟨by rw [← HNL.out]; exact hN1, by rw [← HNL.out]; exact hN63, fun i hi => by rw [← HNL.out] at hi ⊢; exact I1.out i (by omega)⟩
      have HRow : Hid (Row wr w.heap.size 5 (nums .u8 (low l))) := by
        have := I2.out
        rw [List.take_of_length_le (by rw [← HNL.out]; omega), show N - k = 0 by omega] at this
        have h2 : Row wr w.heap.size 5 (nums .u8 (low l)) := by simpa using this
        exact h2
      go_wp2_with fail
      go_ret2
      refine ⟨.slice (some ⟨w.heap.size, 0, none⟩) N N, ?_, I3.out, fun _ => ⟨?_, HRow.out⟩⟩
      · rw [HR.out]; rfl
      · rw [← HNL.out]

/-- What the reference calls a label of small letters. -/
def okR (c : Nat) : Bool := decide (c = 45) || dig c || (decide (97 ≤ c) && decide (c ≤ 122))
def labR (l : List Nat) : Bool := decide (l ≠ []) && decide (l.length ≤ 63) && !decide (l.getD 0 0 = 45) && !decide (l.getD (l.length - 1) 0 = 45) && l.all okR
set_option maxRecDepth 100000 in
set_option maxHeartbeats 2000000 in
theorem rlabel_at (t : ByteArray) (w : World) (hm : t.size ≤ maxLen) : Calls Tryz.prog 174 #[.string t] w fun e w' => e = .returned (.bool (labR (byt t))) ∧ w = w' := by
  obtain ⟨l, hl⟩ : ∃ l, l = byt t := ⟨_, rfl⟩
  have hix : ∀ i, i < t.size → ∀ w, (Instr.index 9 (.string t) (.int .i64 (i : Nat))).run Tryz.prog w = .ok (.int .u8 (l.getD i 0 : Nat)) w := fun i hi w => by rw [hl]; exact run_ixstr t i hi w
  have hlt : ∀ k, l.getD k 0 < 256 := fun k => by rw [hl]; exact getD_lt (byt_lt t) k
  have hsz : t.size = l.length := by rw [hl, byt_length]
  rw [← hl]
  have HL : Hid (byt t = l) := hl.symm
  have HIX := hide hix
  have HLT := hide hlt
  have HSZ := hide hsz
  obtain ⟨N, hN⟩ : ∃ N, N = t.size := ⟨_, rfl⟩
  have HN := hide hN
  have HMX := hide hm
  rw [← hN] at hm
  unfold maxLen at hm
  have hNI : (t.size : Int) = (N : Int) := by rw [hN]
  have HNL : Hid (N = l.length) := by show _ = _; rw [hN, hsz]
  clear hix hlt hl hsz hN
  by_cases h0 : N = 0
  · have he : t.toList.isEmpty = true := by rw [isEmpty_byt, HL.out]; have := HNL.out; simp; exact List.eq_nil_of_length_eq_zero (by omega)
    have HR : Hid (labR l = false) := by have := HNL.out; have e : l = [] := List.eq_nil_of_length_eq_zero (by omega); simp [labR, e, Hid]
    go_enter Tryz.func174, Tryz.ntmps174
    go_wp2_with fail
    go_ret
    exact ⟨by rw [HR.out]; rfl, rfl⟩
  have hne : Hid (l ≠ []) := fun e => by have := HNL.out; rw [e] at this; simp at this; omega
  have he : t.toList.isEmpty = false := by rw [isEmpty_byt, HL.out]; simp; exact hne.out
  by_cases h63 : 63 < N
  · have hd2 : decide (63 < (N : Int)) = true := decide_eq_true (by omega)
    have hd2' : decide (63 < N) = true := decide_eq_true (by omega)
    have HR : Hid (labR l = false) := by have := HNL.out; have e : ¬ l.length ≤ 63 := by omega
                                         simp [labR, e, Hid]
    go_enter Tryz.func174, Tryz.ntmps174
    go_wp2_with fail
    go_ret
    exact ⟨by rw [HR.out]; rfl, rfl⟩
  have hd2 : decide (63 < (N : Int)) = false := decide_eq_false (by omega)
  have hd2' : decide (63 < N) = false := decide_eq_false (by omega)
  have hx0 := HIX.out 0 (by rw [← HN.out]; omega)
  have hc0 := HLT.out 0
  have hxl := HIX.out (N - 1) (by rw [← HN.out]; omega)
  have hcl := HLT.out (N - 1)
  obtain ⟨c0, e0⟩ : ∃ c, c = l.getD 0 0 := ⟨_, rfl⟩
  obtain ⟨cl, el⟩ : ∃ c, c = l.getD (N - 1) 0 := ⟨_, rfl⟩
  rw [← e0] at hx0 hc0
  rw [← el] at hxl hcl
  have hx0' : ∀ w, (Instr.index 9 (.string t) (.int .i64 0)).run Tryz.prog w = .ok (.int .u8 (c0 : Nat)) w := hx0
  have hxl' : ∀ w, (Instr.index 9 (.string t) (.int .i64 ((N : Int) - 1))).run Tryz.prog w = .ok (.int .u8 (cl : Nat)) w := fun w => by
    rw [show (N : Int) - 1 = ((N - 1 : Nat) : Int) by omega]; exact hxl w
  have HRL : Hid (labR l = (!decide (c0 = 45) && !decide (cl = 45) && l.all okR)) := by
    show _ = _
    have e1 : l.length ≤ 63 := by have := HNL.out; omega
    have e2 : l.length - 1 = N - 1 := by rw [HNL.out]
    unfold labR
    rw [e2, ← e0, ← el]
    simp [hne.out, e1]
  clear hx0 hxl e0 el
  by_cases g0 : c0 = 45
  · have hb : ((c0 : Int) == 45) = true := by simp; omega
    have HR : Hid (labR l = false) := by show _ = _; rw [HRL.out]; simp [g0]
    clear g0
    go_enter Tryz.func174, Tryz.ntmps174
    go_wp2_with fail
    go_ret
    exact ⟨by rw [HR.out]; rfl, rfl⟩
  have hb : ((c0 : Int) == 45) = false := by simp; omega
  by_cases gl : cl = 45
  · have hb2 : ((cl : Int) == 45) = true := by simp; omega
    have HR : Hid (labR l = false) := by show _ = _; rw [HRL.out]; simp [gl]
    clear g0 gl
    go_enter Tryz.func174, Tryz.ntmps174
    go_wp2_with fail
    go_ret
    exact ⟨by rw [HR.out]; rfl, rfl⟩
  have hb2 : ((cl : Int) == 45) = false := by simp; omega
  have HRA : Hid (labR l = l.all okR) := by show _ = _; rw [HRL.out]; simp [g0, gl]
  have hN1 : 1 ≤ N := by omega
  clear g0 gl h0 HRL
  go_enter Tryz.func174, Tryz.ntmps174
  go_wp2_with fail
  clear hb hb2 hx0' hxl' hc0 hcl
  go_loop [3] (fun i => ∃ k : Nat, k ≤ N ∧ i = .int .i64 k ∧ Hid ((l.take k).all okR = true)) (fun i => N - (intOf i).toNat)
  case atStart => exact ⟨0, by omega, rfl, rfl⟩
  case round =>
    obtain ⟨k, hk, rfl, HI⟩ := hrel
    by_cases hkN : k < N
    · have hdk : decide ((k : Int) < (N : Int)) = true := decide_eq_true (by omega)
      have hx := HIX.out k (by rw [← HN.out]; exact hkN)
      have hc := HLT.out k
      have hkl : Hid (k < l.length) := by show _ < _; rw [← HNL.out]; exact hkN
      obtain ⟨c, hcc⟩ : ∃ c, c = l.getD k 0 := ⟨_, rfl⟩
      rw [← hcc] at hx hc
      have HT : Hid (l.take (k + 1) = l.take k ++ [c]) := by show _ = _; rw [take_snoc l k hkl.out, ← hcc]
      have HM : Hid (c ∈ l) := by show _ ∈ _; rw [hcc]; exact getD_mem hkl.out
      clear hcc
      have HG : Hid (okR c = true → (l.take (k + 1)).all okR = true) := fun h => by rw [HT.out, List.all_append, HI.out]; simp [h]
      have HF : Hid (okR c = false → labR l = false) := fun h => by rw [HRA.out, List.all_eq_false]; exact ⟨c, HM.out, by simp [h]⟩
      by_cases h45 : c = 45
      · have q1 : ((c : Int) == 45) = true := by simp; omega
        have q2 : ((c : Int) != 45) = false := by simp; omega
        have HO := hide (HG.out (by simp [okR, h45]))
        clear h45
        go_wp2_with fail
        go_round
        case rel => exact ⟨k + 1, by omega, by go_num, HO.out⟩
        case measure => simp [intOf]; omega
      have q1 : ((c : Int) == 45) = false := by simp; omega
      have q2 : ((c : Int) != 45) = true := by simp; omega
      cases hdg : dig c with
      | true =>
        have HO := hide (HG.out (by simp [okR, hdg]))
        have HDG := hide hdg
        clear hdg h45
        go_wp2_with fail
        refine (digit_at c _ hc).mono ?_
        rintro e w' ⟨rfl, rfl⟩
        rw [HDG.out]
        go_wp2_with fail
        go_round
        case rel => exact ⟨k + 1, by omega, by go_num, HO.out⟩
        case measure => simp [intOf]; omega
      | false =>
        have HDG := hide hdg
        by_cases h97 : 97 ≤ c
        · have q3 : decide ((c : Int) < 97) = false := decide_eq_false (by omega)
          by_cases h122 : c ≤ 122
          · have q4 : decide (122 < (c : Int)) = false := decide_eq_false (by omega)
            have HO := hide (HG.out (by simp [okR, h97, h122]))
            clear hdg h45
            go_wp2_with fail
            refine (digit_at c _ hc).mono ?_
            rintro e w' ⟨rfl, rfl⟩
            rw [HDG.out]
            go_wp2_with fail
            go_round
            case rel => exact ⟨k + 1, by omega, by go_num, HO.out⟩
            case measure => simp [intOf]; omega
          · have q4 : decide (122 < (c : Int)) = true := decide_eq_true (by omega)
            have HO := hide (HF.out (by simp [okR, h45, hdg, h122]))
            clear hdg h45
            go_wp2_with fail
            refine (digit_at c _ hc).mono ?_
            rintro e w' ⟨rfl, rfl⟩
            rw [HDG.out]
            go_wp2_with fail
            go_ret
            exact ⟨by rw [HO.out]; rfl, rfl⟩
        · have q3 : decide ((c : Int) < 97) = true := decide_eq_true (by omega)
          have HO := hide (HF.out (by simp [okR, h45, hdg, h97]))
          clear hdg h45
          go_wp2_with fail
          refine (digit_at c _ hc).mono ?_
          rintro e w' ⟨rfl, rfl⟩
          rw [HDG.out]
          go_wp2_with fail
          go_ret
          exact ⟨by rw [HO.out]; rfl, rfl⟩
    · have hdk : decide ((k : Int) < (N : Int)) = false := decide_eq_false (by omega)
      have HR : Hid (labR l = true) := by
        have := HI.out
        rw [List.take_of_length_le (by rw [← HNL.out]; omega)] at this
        show _ = _
        rw [HRA.out]; exact this
      go_wp2_with fail
      go_ret
      exact ⟨by rw [HR.out]; rfl, rfl⟩
end Go.Proofs.YtccoddmdlbdfjaaGreatDoor
