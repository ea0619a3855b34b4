/-
  ParseDest of the reference; conditions as each theorem has them.
-/
import Derived.Test.YtccoddmdlbdfjaaGreatDoorJoinedD
import Derived.Test.YtccoddmdlbdfjaaGreatDoorJoinedC
set_option linter.unusedSimpArgs false
set_option linter.unusedVariables false
namespace Go.Proofs.YtccoddmdlbdfjaaGreatDoor
open Go.RowKit

theorem colon_snoc (c : Nat) : ∀ (l : List Nat) (i : Nat), colon i (l ++ [c]) = if c = 58 then some (i + l.length) else colon i l
  | [], i => by
    simp only [List.nil_append, colon, List.length_nil, Nat.add_zero]
  | b :: r, i => by
    have ih := colon_snoc c r (i + 1)
    simp only [List.cons_append, colon, ih, List.length_cons]
    by_cases h : c = 58
    · simp [h]; omega
    · simp [h]
theorem run_opst53 (ρ : Operand → Value) (dst : Option Tmp) (x y : Operand) (ty : TypeId) (pos : String) (after : Array Edge) (guard : Option (Nat × Bool)) (w : World) (h : canPut 6 31 w (ρ x) (ρ y) = true) :
    (execOp ρ { dst, op := .store 31 x y, type := ty, pos, after, guard }).run Tryz.prog w = .ok .skip (putAt w (ρ x) (ρ y)) := by
  unfold canPut at h
  split at h
  · rename_i g cs e1 e2
    simp only [Bool.and_eq_true, beq_iff_eq] at h
    obtain ⟨⟨h0, h1⟩, h3⟩ := h
    split at h0
    · rename_i old t' hg
      simp only [Bool.and_eq_true, beq_iff_eq] at h0
      have := run_storeVar_row (P := Tryz.prog) w g t' 31 old cs hg (by rw [h1]; exact info41) (by omega) h3
      unfold execOp
      simp only [e1, e2, Instr.storeAt, Instr.sureAddr, Sem.run_bind, Sem.run_pure, Result.andThen_ok, this, putAt]
    · cases h0
  · cases h
attribute [local go_sem ↓] run_op32 run_opst32 run_opst53 Go.wp_at_zero Go.wp_at_succ
attribute [local go_sem] rowOf_drew isRow_drew arrAt_ptr isAt_ptr putAt_ptr canPut_drew setRow_drew

def erN : Er → Nat
  | .ok => 0
  | .one _ _ => 1
  | .two _ _ _ => 2
theorem badC_N (e : Er) : (badC e)[0]? = some (.int .i64 (erN e : Nat)) := by cases e <;> rfl

set_option maxRecDepth 100000 in
set_option maxHeartbeats 8000000 in
theorem rparseDest_at (t : ByteArray) (w : World) (hm : t.size ≤ maxLen) : Calls Tryz.prog 106 #[.string t] w fun e w' => e = .returned (.tuple #[.agg (deC (dest (byt t)).1), badV (dest (byt t)).2]) ∧ Below w.heap.size w w' := by
  obtain ⟨l, hl⟩ : ∃ l, l = byt t := ⟨_, rfl⟩
  rw [← hl]
  have HL : Hid (byt t = l) := hl.symm
  obtain ⟨N, hN⟩ : ∃ N, N = t.size := ⟨_, rfl⟩
  have HNL : Hid (N = l.length) := by show _ = _; rw [hN, hl, byt_length]
  have HIX : Hid (∀ i, i < t.size → ∀ w, (Instr.index 9 (.string t) (.int .i64 (i : Nat))).run Tryz.prog w = .ok (.int .u8 (l.getD i 0 : Nat)) w) := fun i hi w => by rw [hl]; exact run_ixstr t i hi w
  have HLT : Hid (∀ k, l.getD k 0 < 256) := fun k => by rw [hl]; exact getD_lt (byt_lt t) k
  have hNI : (t.size : Int) = (N : Int) := by rw [hN]
  have HN := hide hN
  rw [← hN] at hm
  unfold maxLen at hm
  obtain ⟨W0, hW0⟩ : ∃ W0, W0 = (w.alloc (.cells z6 31)).alloc (.cells (badC .ok) 89) := ⟨_, rfl⟩
  have HR0 : Hid (W0.heap[w.heap.size]? = some (.cells z6 31)) := by rw [hW0]; exact alloc_old _ (alloc_new _ _)
  have HR1 : Hid (W0.heap[w.heap.size + 1]? = some (.cells (badC .ok) 89)) := by rw [hW0]; exact alloc_new2 _ _ _
  have B0 : Hid (Below w.heap.size w W0) := by rw [hW0]; exact ((Below.refl _ _).alloc (Nat.le_refl _) _).alloc (by simp) _
  have HW0 : Hid ((w.alloc (.cells #[.int .u8 0, .int .u8 0, .int .u8 0, .int .u8 0, .string ⟨#[]⟩, .int .i64 0] 31)).alloc (.cells #[.int .i64 0, .string ⟨#[]⟩, .string ⟨#[]⟩, .string ⟨#[]⟩, .string ⟨#[]⟩, .int .i64 0, .int .i64 0, .int .i64 0, .int .i64 0, .int .i64 0] 89) = W0) := hW0.symm
  clear hl hN hW0
  by_cases h259 : 259 < N
  · have HR : Hid (dest l = ((noH, 0), .one 259 3)) := by show _ = _; rw [dest, if_pos (by rw [← HNL.out]; exact h259)]
    have hd : decide (259 < (N : Int)) = true := decide_eq_true (by omega)
    have hd' : decide (259 < N) = true := decide_eq_true (by omega)
    go_enter Tryz.func106, Tryz.ntmps106
    go_wp2_with fail
    rw [HW0.out]
    refine (fault_at 259 3 _).mono ?_
    rintro e w4 ⟨rfl, hb4⟩
    have h04 : w4.heap[w.heap.size]? = some (.cells z6 31) := ((hb4.block _ (lt_of_some HR0.out)).trans HR0.out)
    have h14 : w4.heap[w.heap.size + 1]? = some (.cells (badC .ok) 89) := ((hb4.block _ (lt_of_some HR1.out)).trans HR1.out)
    obtain ⟨f1, f2, f3, f4⟩ := fin2 h04 h14 z6 (badC (.one 259 3))
    have f5 := f4 w (Nat.le_refl _) (B0.out.trans (hb4.mono B0.out.size))
    obtain ⟨W1, hW1⟩ : ∃ W1, W1 = w4.setRow w.heap.size z6 := ⟨_, rfl⟩
    rw [← hW1] at f1 f2 f3 f4 f5
    obtain ⟨W2, hW2⟩ : ∃ W2, W2 = W1.setRow (w.heap.size + 1) (badC (.one 259 3)) := ⟨_, rfl⟩
    rw [← hW2] at f2 f3 f5
    have F0 := hide h04
    have F1 := hide f1
    have F2 := hide f2
    have F3 := hide f3
    have F5 := hide f5
    have HW1 := hide hW1
    have HW2 := hide hW2
    clear f1 f2 f3 f4 f5 hW1 hW2 h04 h14 hb4
    try rw [badV_badC]
    go_wp2_with (first
      | (refine wpList_store_rowW rfl 31 _ _ rfl w.heap.size z6 rfl rfl 31 z6 F0.out info41 rfl z6_one W1 HW1.out ?_)
      | (refine wpList_store_rowW rfl 89 _ _ rfl (w.heap.size + 1) (badC (.one 259 3)) rfl rfl 89 (badC .ok) F1.out (badI (.one 259 3)) (by simp [badC_size]) (badC_one _) W2 HW2.out ?_))
    refine bodyPost_ret (res_cell_cell rfl _ _ w.heap.size 31 z6 (0, 0) _ rfl F2.out Tryz.underlying31 rfl info41 (w.heap.size + 1) 89 (badC (.one 259 3)) (0, 0) _ rfl F3.out Tryz.underlying89 rfl (badI (.one 259 3))) rfl ⟨?_, F5.out⟩
    rw [HR.out, badV_badC]; rfl
  have hd : decide (259 < (N : Int)) = false := decide_eq_false (by omega)
  have hd' : decide (259 < N) = false := decide_eq_false (by omega)
  have hN259 : N ≤ 259 := by omega
  have HDE : Hid (dest l = match colon 0 l with
      | none => ((noH, 0), .one l.length 62)
      | some c => match host (l.take c) with
        | (h, .ok) => match port (l.drop (c + 1)) with
          | (p, .ok) => ((h, p), .ok)
          | _ => ((noH, 0), .two (c + 1) 0 62)
        | (_, e) => ((noH, 0), e)) := by show _ = _; rw [dest, if_neg (by rw [← HNL.out]; exact h259)]; rfl
  clear h259
  go_enter Tryz.func106, Tryz.ntmps106
  go_wp2_with fail
  rw [HW0.out]
  go_loop [4, 5] (fun co i => ∃ k : Nat, k ≤ N ∧ i = .int .i64 k ∧ ∃ z : Int, co = .int .i64 z ∧ Hid (z = colI (colon 0 (l.take k)))) (fun _ i => N - (intOf i).toNat)
  case atStart => exact ⟨0, by omega, rfl, -1, rfl, rfl⟩
  case round =>
    obtain ⟨k, hk, rfl, z, rfl, HZ⟩ := hrel
    by_cases hkN : k < N
    · have hdk : decide ((k : Int) < (N : Int)) = true := decide_eq_true (by omega)
      have hkl : Hid (k < l.length) := by show _ < _; rw [← HNL.out]; exact hkN
      have HT : Hid (colon 0 (l.take (k + 1)) = if l.getD k 0 = 58 then some k else colon 0 (l.take k)) := by
        show _ = _
        rw [take_snoc l k hkl.out, colon_snoc, List.length_take, Nat.min_eq_left (by have := hkl.out; omega), Nat.zero_add]
      have hx := HIX.out k (by rw [← HN.out]; exact hkN)
      have hc := HLT.out k
      generalize l.getD k 0 = c at hx hc HT
      by_cases h58 : c = 58
      · have q1 : ((c : Int) == 58) = true := by simp; omega
        have HT2 : Hid (colon 0 (l.take (k + 1)) = some k) := by show _ = _; rw [HT.out, if_pos h58]
        clear h58
        go_wp2_with fail
        go_round
        case rel => exact ⟨k + 1, by omega, by go_num, (k : Int), rfl, by show _ = _; rw [HT2.out]; rfl⟩
        case measure => simp [intOf]; omega
      · have q1 : ((c : Int) == 58) = false := by simp; omega
        have HT2 : Hid (colon 0 (l.take (k + 1)) = colon 0 (l.take k)) := by show _ = _; rw [HT.out, if_neg h58]
        clear h58
        go_wp2_with fail
        go_round
        case rel => exact ⟨k + 1, by omega, by go_num, z, rfl, by show _ = _; rw [HT2.out]; exact HZ.out⟩
        case measure => simp [intOf]; omega
    · have hdk : decide ((k : Int) < (N : Int)) = false := decide_eq_false (by omega)
      have hz := HZ.out
      rw [List.take_of_length_le (by rw [← HNL.out]; omega)] at hz
      cases hcol : colon 0 l with
      | none =>
        rw [hcol] at hz
        obtain rfl : z = -1 := hz
        have HR : Hid (dest l = ((noH, 0), .one N 62)) := by show _ = _; rw [HDE.out, hcol, HNL.out]
        clear hcol
        go_wp2_with fail
        refine (fault_at N 62 _).mono ?_
        rintro e w4 ⟨rfl, hb4⟩
        have h04 : w4.heap[w.heap.size]? = some (.cells z6 31) := ((hb4.block _ (lt_of_some HR0.out)).trans HR0.out)
        have h14 : w4.heap[w.heap.size + 1]? = some (.cells (badC .ok) 89) := ((hb4.block _ (lt_of_some HR1.out)).trans HR1.out)
        obtain ⟨f1, f2, f3, f4⟩ := fin2 h04 h14 z6 (badC (.one N 62))
        have f5 := f4 w (Nat.le_refl _) (B0.out.trans (hb4.mono B0.out.size))
        obtain ⟨W1, hW1⟩ : ∃ W1, W1 = w4.setRow w.heap.size z6 := ⟨_, rfl⟩
        rw [← hW1] at f1 f2 f3 f4 f5
        obtain ⟨W2, hW2⟩ : ∃ W2, W2 = W1.setRow (w.heap.size + 1) (badC (.one N 62)) := ⟨_, rfl⟩
        rw [← hW2] at f2 f3 f5
        have F0 := hide h04
        have F1 := hide f1
        have F2 := hide f2
        have F3 := hide f3
        have F5 := hide f5
        have HW1 := hide hW1
        have HW2 := hide hW2
        clear f1 f2 f3 f4 f5 hW1 hW2 h04 h14 hb4
        try rw [badV_badC]
        go_wp2_with (first
          | (refine wpList_store_rowW rfl 31 _ _ rfl w.heap.size z6 rfl rfl 31 z6 F0.out info41 rfl z6_one W1 HW1.out ?_)
          | (refine wpList_store_rowW rfl 89 _ _ rfl (w.heap.size + 1) (badC (.one N 62)) rfl rfl 89 (badC .ok) F1.out (badI (.one N 62)) (by simp [badC_size]) (badC_one _) W2 HW2.out ?_))
        refine bodyPost_ret (res_cell_cell rfl _ _ w.heap.size 31 z6 (0, 0) _ rfl F2.out Tryz.underlying31 rfl info41 (w.heap.size + 1) 89 (badC (.one N 62)) (0, 0) _ rfl F3.out Tryz.underlying89 rfl (badI (.one N 62))) rfl ⟨?_, F5.out⟩
        rw [HR.out, badV_badC]; rfl
      | some c =>
        rw [hcol] at hz
        obtain rfl : z = (c : Int) := hz
        have hcN : c < N := by rw [HNL.out]; exact colon_lt hcol
        have HD2 : Hid (dest l = match host (l.take c) with
            | (h, .ok) => match port (l.drop (c + 1)) with
              | (p, .ok) => ((h, p), .ok)
              | _ => ((noH, 0), .two (c + 1) 0 62)
            | (_, e) => ((noH, 0), e)) := by show _ = _; rw [HDE.out, hcol]; try rfl
        obtain ⟨T0, hT0⟩ : ∃ T0, T0 = t.extract 0 c := ⟨_, rfl⟩
        obtain ⟨T1, hT1⟩ : ∃ T1, T1 = t.extract (c + 1) t.size := ⟨_, rfl⟩
        have HB0 : Hid (byt T0 = l.take c) := by show _ = _; rw [hT0, byt_take, HL.out]
        have HB1 : Hid (byt T1 = l.drop (c + 1)) := by show _ = _; rw [hT1, byt_drop, HL.out]
        have HS0 : Hid (T0.size ≤ maxLen) := by show _ ≤ _; rw [← byt_length, HB0.out, List.length_take]; have := HNL.out; unfold maxLen; omega
        have HS1 : Hid (T1.size ≤ maxLen) := by show _ ≤ _; rw [← byt_length, HB1.out, List.length_drop]; have := HNL.out; unfold maxLen; omega
        have HT0 : Hid (t.extract 0 c = T0) := hT0.symm
        have HT1 : Hid (t.extract (c + 1) t.size = T1) := hT1.symm
        clear hcol hT0 hT1 HDE HZ
        obtain ⟨H, er, hH⟩ : ∃ H er, host (l.take c) = (H, er) := ⟨_, _, rfl⟩
        have hHl : H.1.length = 4 := by have := host_len (l.take c); rw [hH] at this; exact this
        obtain ⟨hA, hS⟩ := H
        obtain ⟨x0, x1, x2, x3, rfl⟩ := four hHl
        have HH := hide hH
        rw [hH] at HD2
        clear hH hHl
        go_wp2_with fail
        rw [HT0.out]
        refine (rparse_at T0 _ HS0.out).mono ?_
        rintro e w3 ⟨rfl, hb3⟩
        rw [HB0.out, HH.out]
        simp only [hoC, nums, List.map_cons, List.map_nil, List.cons_append, List.nil_append]
        have H0 := keepB hb3 HR0.out
        have H1 := keepB hb3 HR1.out
        have B3 : Below w.heap.size w w3 := B0.out.trans (hb3.mono B0.out.size)
        have hlt0 := lt_of_some H0
        have hlt1 := lt_of_some H1
        obtain ⟨W4, hW4⟩ : ∃ W4, W4 = ((w3.alloc (.cells #[.int .u8 (x0 : Nat), .int .u8 (x1 : Nat), .int .u8 (x2 : Nat), .int .u8 (x3 : Nat), .string (strN hS)] 29)).alloc (.cells (badC .ok) 89)).setRow (w3.heap.size + 1) (badC er) := ⟨_, rfl⟩
        have z4' : ((w3.alloc (.cells #[.int .u8 (x0 : Nat), .int .u8 (x1 : Nat), .int .u8 (x2 : Nat), .int .u8 (x3 : Nat), .string (strN hS)] 29)).alloc (.cells (badC .ok) 89)).heap[w3.heap.size + 1]? = some (.cells (badC .ok) 89) := alloc_new2 _ _ _
        have k34 : Below w3.heap.size w3 W4 := by rw [hW4]; exact below_setRow (((Below.refl _ _).alloc (Nat.le_refl _) _).alloc (by simp) _) (by omega) _
        have q4 : W4.heap[w3.heap.size]? = some (.cells #[.int .u8 (x0 : Nat), .int .u8 (x1 : Nat), .int .u8 (x2 : Nat), .int .u8 (x3 : Nat), .string (strN hS)] 29) := by rw [hW4, setRow_ne _ _ _ _ (by omega)]; exact alloc_old _ (alloc_new _ _)
        have p4 : W4.heap[w3.heap.size + 1]? = some (.cells (badC er) 89) := by rw [hW4]; exact setRow_heap _ _ _ _ _ z4'
        have r0 := keepB k34 H0
        have r1 := keepB k34 H1
        have b4 : Below w.heap.size w W4 := B3.trans (k34.mono B3.size)
        have hN4 : W4.cell? ⟨w3.heap.size + 1, 0, none⟩ = some (.int .i64 (erN er : Nat)) := by simp only [World.cell?, p4]; exact badC_N er
        have Z4 := hide z4'
        have HW4 := hide hW4
        have P4 := hide p4
        have Q4 := hide q4
        have R0 := hide r0
        have R1 := hide r1
        have B4 := hide b4
        clear hb3 H0 H1 B3 hW4 z4' k34 q4 p4 r0 r1 b4
        rw [badV_badC]
        by_cases hok : er = .ok
        · subst hok
          simp only [erN] at hN4
          obtain ⟨pn, pe, hP⟩ : ∃ p e, port (l.drop (c + 1)) = (p, e) := ⟨_, _, rfl⟩
          have hpe : pe = .ok ∨ pe = .one 0 62 := by have := port_two (l.drop (c + 1)); rw [hP] at this; exact this
          have HP := hide hP
          simp only [hP] at HD2
          clear hP
          go_wp2_with (first | (refine wpList_store_rowW rfl 89 _ _ rfl (w3.heap.size + 1) (badC .ok) rfl rfl 89 (badC .ok) Z4.out info32 rfl (badC_one _) W4 HW4.out ?_))
          rw [HT1.out]
          refine (rparsePort_at T1 _ HS1.out).mono ?_
          rintro e w5 ⟨rfl, hb5⟩
          rw [HB1.out, HP.out]
          simp only []
          rw [badV_badC]
          have p5 := keepB hb5 P4.out
          obtain ⟨W6, hW6⟩ : ∃ W6, W6 = w5.setRow (w3.heap.size + 1) (badC pe) := ⟨_, rfl⟩
          have p6 : W6.heap[w3.heap.size + 1]? = some (.cells (badC pe) 89) := by rw [hW6]; exact setRow_heap _ _ _ _ _ p5
          have q6 : W6.heap[w3.heap.size]? = some (.cells #[.int .u8 (x0 : Nat), .int .u8 (x1 : Nat), .int .u8 (x2 : Nat), .int .u8 (x3 : Nat), .string (strN hS)] 29) := by rw [hW6, setRow_ne _ _ _ _ (by omega)]; exact keepB hb5 Q4.out
          have r06 : W6.heap[w.heap.size]? = some (.cells z6 31) := by rw [hW6, setRow_ne _ _ _ _ (by omega)]; exact keepB hb5 R0.out
          have r16 : W6.heap[w.heap.size + 1]? = some (.cells (badC .ok) 89) := by rw [hW6, setRow_ne _ _ _ _ (by omega)]; exact keepB hb5 R1.out
          have b6 : Below w.heap.size w W6 := by rw [hW6]; exact below_setRow (B4.out.trans (hb5.mono B4.out.size)) (by omega) _
          have hN6 : W6.cell? ⟨w3.heap.size + 1, 0, none⟩ = some (.int .i64 (erN pe : Nat)) := by simp only [World.cell?, p6]; exact badC_N pe
          have P5 := hide p5
          have HW6 := hide hW6
          have P6 := hide p6
          have R06 := hide r06
          have R16 := hide r16
          have B6 := hide b6
          have c0 : W6.cell? ⟨w3.heap.size, 0, none⟩ = some (.int .u8 (x0 : Nat)) := by simp [World.cell?, q6]
          have c1 : W6.cell? ⟨w3.heap.size, 1, none⟩ = some (.int .u8 (x1 : Nat)) := by simp [World.cell?, q6]
          have c2 : W6.cell? ⟨w3.heap.size, 2, none⟩ = some (.int .u8 (x2 : Nat)) := by simp [World.cell?, q6]
          have c3 : W6.cell? ⟨w3.heap.size, 3, none⟩ = some (.int .u8 (x3 : Nat)) := by simp [World.cell?, q6]
          have c4 : W6.cell? ⟨w3.heap.size, 4, none⟩ = some (.string (strN hS)) := by simp [World.cell?, q6]
          clear hb5 p5 hW6 p6 q6 r06 r16 b6 hN4 P4 Q4 R0 R1 B4
          rcases hpe with rfl | rfl
          · simp only [erN] at hN6
            have HR : Hid (dest l = ((([x0, x1, x2, x3], hS), pn), .ok)) := by show _ = _; rw [HD2.out]
            have h04 : W6.heap[w.heap.size]? = some (.cells z6 31) := R06.out
            have h14 : W6.heap[w.heap.size + 1]? = some (.cells (badC .ok) 89) := R16.out
            obtain ⟨f1, f2, f3, f4⟩ := fin2 h04 h14 #[.int .u8 (x0 : Nat), .int .u8 (x1 : Nat), .int .u8 (x2 : Nat), .int .u8 (x3 : Nat), .string (strN hS), .int .i64 (pn : Nat)] (badC .ok)
            have f5 := f4 w (Nat.le_refl _) B6.out
            obtain ⟨W1, hW1⟩ : ∃ W1, W1 = W6.setRow w.heap.size #[.int .u8 (x0 : Nat), .int .u8 (x1 : Nat), .int .u8 (x2 : Nat), .int .u8 (x3 : Nat), .string (strN hS), .int .i64 (pn : Nat)] := ⟨_, rfl⟩
            rw [← hW1] at f1 f2 f3 f4 f5
            obtain ⟨W2, hW2⟩ : ∃ W2, W2 = W1.setRow (w.heap.size + 1) (badC .ok) := ⟨_, rfl⟩
            rw [← hW2] at f2 f3 f5
            have F0 := hide h04
            have F1 := hide f1
            have F2 := hide f2
            have F3 := hide f3
            have F5 := hide f5
            have HW1 := hide hW1
            have HW2 := hide hW2
            clear f1 f2 f3 f4 f5 hW1 hW2 h04 h14 
            try rw [badV_badC]
            go_wp2_with (first
              | (refine wpList_store_rowW rfl 31 _ _ rfl w.heap.size #[.int .u8 (x0 : Nat), .int .u8 (x1 : Nat), .int .u8 (x2 : Nat), .int .u8 (x3 : Nat), .string (strN hS), .int .i64 (pn : Nat)] rfl rfl 31 z6 F0.out info41 rfl (by simp [Value.oneCell']) W1 HW1.out ?_)
              | (refine wpList_store_rowW rfl 89 _ _ rfl (w.heap.size + 1) (badC .ok) rfl rfl 89 (badC .ok) F1.out (badI .ok) (by simp [badC_size]) (badC_one _) W2 HW2.out ?_)
              | (refine wpList_store_rowW rfl 89 _ _ rfl (w3.heap.size + 1) (badC .ok) rfl rfl 89 (badC .ok) P5.out info32 rfl (badC_one _) W6 HW6.out ?_))
            refine bodyPost_ret (res_cell_cell rfl _ _ w.heap.size 31 #[.int .u8 (x0 : Nat), .int .u8 (x1 : Nat), .int .u8 (x2 : Nat), .int .u8 (x3 : Nat), .string (strN hS), .int .i64 (pn : Nat)] (0, 0) _ rfl F2.out Tryz.underlying31 rfl info41 (w.heap.size + 1) 89 (badC .ok) (0, 0) _ rfl F3.out Tryz.underlying89 rfl (badI .ok)) rfl ⟨?_, F5.out⟩
            rw [HR.out, badV_badC]; rfl
          · simp only [erN] at hN6
            have HR : Hid (dest l = ((noH, 0), .two (c + 1) 0 62)) := by show _ = _; rw [HD2.out]
            go_wp2_with (first
              | (refine wpList_store_rowW rfl 89 _ _ rfl (w3.heap.size + 1) (badC (.one 0 62)) rfl rfl 89 (badC .ok) P5.out info32 rfl (badC_one _) W6 HW6.out ?_)
              | (refine wpList_load_row rfl 89 _ rfl (w3.heap.size + 1) rfl 89 (badC (.one 0 62)) (0, 0) _ P6.out Tryz.underlying89 rfl info32 ?_))
            refine (wrapB_at (c + 1) 0 62 _).mono ?_
            rintro e w7 ⟨rfl, hb7⟩
            have h04 : w7.heap[w.heap.size]? = some (.cells z6 31) := keepB hb7 R06.out
            have h14 : w7.heap[w.heap.size + 1]? = some (.cells (badC .ok) 89) := keepB hb7 R16.out
            obtain ⟨f1, f2, f3, f4⟩ := fin2 h04 h14 z6 (badC (.two (c + 1) 0 62))
            have f5 := f4 w (Nat.le_refl _) (B6.out.trans (hb7.mono B6.out.size))
            obtain ⟨W1, hW1⟩ : ∃ W1, W1 = w7.setRow w.heap.size z6 := ⟨_, rfl⟩
            rw [← hW1] at f1 f2 f3 f4 f5
            obtain ⟨W2, hW2⟩ : ∃ W2, W2 = W1.setRow (w.heap.size + 1) (badC (.two (c + 1) 0 62)) := ⟨_, rfl⟩
            rw [← hW2] at f2 f3 f5
            have F0 := hide h04
            have F1 := hide f1
            have F2 := hide f2
            have F3 := hide f3
            have F5 := hide f5
            have HW1 := hide hW1
            have HW2 := hide hW2
            clear f1 f2 f3 f4 f5 hW1 hW2 h04 h14 hb7
            try rw [badV_badC]
            go_wp2_with (first
              | (refine wpList_store_rowW rfl 31 _ _ rfl w.heap.size z6 rfl rfl 31 z6 F0.out info41 rfl z6_one W1 HW1.out ?_)
              | (refine wpList_store_rowW rfl 89 _ _ rfl (w.heap.size + 1) (badC (.two (c + 1) 0 62)) rfl rfl 89 (badC .ok) F1.out (badI (.two (c + 1) 0 62)) (by simp [badC_size]) (badC_one _) W2 HW2.out ?_))
            refine bodyPost_ret (res_cell_cell rfl _ _ w.heap.size 31 z6 (0, 0) _ rfl F2.out Tryz.underlying31 rfl info41 (w.heap.size + 1) 89 (badC (.two (c + 1) 0 62)) (0, 0) _ rfl F3.out Tryz.underlying89 rfl (badI (.two (c + 1) 0 62))) rfl ⟨?_, F5.out⟩
            rw [HR.out, badV_badC]; rfl
        · have hpos : 0 < erN er := by
            cases er with
            | ok => exact absurd rfl hok
            | one a c => simp [erN]
            | two a b c => simp [erN]
          have HR : Hid (dest l = ((noH, 0), er)) := by
            show _ = _
            rw [HD2.out]
            cases er with
            | ok => exact absurd rfl hok
            | one a c => rfl
            | two a b c => rfl
          clear hok
          generalize erN er = en at hN4 hpos
          have k1 : isRow W4 (w3.heap.size + 1) 10 = true := isRow_of P4.out (badC_size _)
          have k2 : rowOf W4 (w3.heap.size + 1) = badC er := rowOf_of P4.out
          have k3 : canPut 6 31 W4 (.pointer (some ⟨w.heap.size, 0, none⟩)) (.agg #[.int .u8 0, .int .u8 0, .int .u8 0, .int .u8 0, .string ⟨#[]⟩, .int .i64 0]) = true := canPut_row R0.out rfl rfl (by simp [Value.oneCell'])
          obtain ⟨f1, f2, f3, f4⟩ := fin2 R0.out R1.out z6 (badC er)
          have f5 := f4 w (Nat.le_refl _) B4.out
          obtain ⟨W6, hW6⟩ : ∃ W6, W6 = W4.setRow w.heap.size z6 := ⟨_, rfl⟩
          rw [← hW6] at f1 f2 f3 f4 f5
          have p6 : W6.heap[w3.heap.size + 1]? = some (.cells (badC er) 89) := by rw [hW6, setRow_ne _ _ _ _ (by omega)]; exact P4.out
          have k5 : isRow W6 (w3.heap.size + 1) 10 = true := isRow_of p6 (badC_size _)
          have k6 : rowOf W6 (w3.heap.size + 1) = badC er := rowOf_of p6
          have k4 : canPut 10 89 W6 (.pointer (some ⟨w.heap.size + 1, 0, none⟩)) (.agg (badC er)) = true := canPut_row f1 rfl (badC_size _) (badC_one _)
          have hW6' : W4.setRow w.heap.size #[.int .u8 0, .int .u8 0, .int .u8 0, .int .u8 0, .string ⟨#[]⟩, .int .i64 0] = W6 := hW6.symm
          obtain ⟨W7, hW7⟩ : ∃ W7, W7 = W6.setRow (w.heap.size + 1) (badC er) := ⟨_, rfl⟩
          rw [← hW7] at f2 f3 f5
          have hW7' : W6.setRow (w.heap.size + 1) (badC er) = W7 := hW7.symm
          have F2 := hide f2
          have F3 := hide f3
          have F5 := hide f5
          clear f1 f2 f3 f4 f5 hW7 hW6 p6
          go_wp2_with (first | (refine wpList_store_rowW rfl 89 _ _ rfl (w3.heap.size + 1) (badC er) rfl rfl 89 (badC .ok) Z4.out (badI er) (by rw [badC_size, badC_size]) (badC_one _) W4 HW4.out ?_))
          go_region
          all_goals (try go_wp2_with fail)
          all_goals refine bodyPost_ret (res_cell_cell rfl _ _ w.heap.size 31 z6 (0, 0) _ rfl (by exact F2.out) Tryz.underlying31 rfl info41 (w.heap.size + 1) 89 (badC er) (0, 0) _ rfl (by exact F3.out) Tryz.underlying89 rfl (badI er)) rfl ⟨?_, F5.out.drew⟩
          all_goals (rw [HR.out, badV_badC]; rfl)
end Go.Proofs.YtccoddmdlbdfjaaGreatDoor
