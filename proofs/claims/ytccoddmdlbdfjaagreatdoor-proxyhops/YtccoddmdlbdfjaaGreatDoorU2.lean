/-
  Parse of the reference; conditions as each theorem has them.
-/
import Derived.Test.YtccoddmdlbdfjaaGreatDoorJoinedS
import Derived.Deep.DrawnRows
set_option linter.unusedSimpArgs false
set_option linter.unusedVariables false
namespace Go.Proofs.YtccoddmdlbdfjaaGreatDoor
open Go.RowKit

/-- The cells of a block. -/
def rowOf (w : World) (g : Nat) : Array Value := match w.heap[g]? with | some (.cells cs _ _) => cs | _ => #[]
def isRow (w : World) (g n : Nat) : Bool := match w.heap[g]? with | some (.cells cs _ _) => cs.size == n | _ => false
def arrAt (w : World) : Value → Array Value
  | .pointer (some ⟨g, 0, none⟩) => rowOf w g
  | _ => #[]
def isAt (n : Nat) (w : World) : Value → Bool
  | .pointer (some ⟨g, 0, none⟩) => isRow w g n
  | _ => false
theorem arrAt_ptr (w : World) (g : Nat) : arrAt w (.pointer (some ⟨g, 0, none⟩)) = rowOf w g := rfl
theorem isAt_ptr (n : Nat) (w : World) (g : Nat) : isAt n w (.pointer (some ⟨g, 0, none⟩)) = isRow w g n := rfl
theorem rowOf_drew (w : World) (g : Nat) : rowOf w.drew g = rowOf w g := rfl
theorem isRow_drew (w : World) (g n : Nat) : isRow w.drew g n = isRow w g n := rfl
theorem rowOf_of {w : World} {g : Nat} {cs : Array Value} {t : TypeId} (h : w.heap[g]? = some (.cells cs t)) : rowOf w g = cs := by simp [rowOf, h]
theorem isRow_of {w : World} {g n : Nat} {cs : Array Value} {t : TypeId} (h : w.heap[g]? = some (.cells cs t)) (hn : cs.size = n) : isRow w g n = true := by simp [isRow, h, hn]
theorem run_op32 (ρ : Operand → Value) (dst : Option Tmp) (x : Operand) (ty : TypeId) (pos : String) (after : Array Edge) (guard : Option (Nat × Bool)) (w : World) (h : isAt 10 w (ρ x) = true) :
    (execOp ρ { dst, op := .load 89 x, type := ty, pos, after, guard }).run Tryz.prog w = .ok (.value (.agg (arrAt w (ρ x)))) w := by
  unfold isAt at h
  split at h
  · rename_i g e
    unfold isRow at h
    split at h
    · rename_i cs t fr eq
      have hs : cs.size = 10 := by simpa using h
      have hr : rowOf w g = cs := by simp [rowOf, eq]
      unfold execOp
      simp only [e, Instr.loadAt, Instr.sureAddr, Sem.run_bind, Sem.run_pure, Result.andThen_ok, run_loadVar_row w g t 89 cs fr _ eq Tryz.underlying89 rfl (by rw [hs]; exact info32), arrAt, hr]
    · cases h
  · cases h
def canPut (n t : Nat) (w : World) : Value → Value → Bool
  | .pointer (some ⟨g, 0, none⟩), .agg cs => (match w.heap[g]? with | some (.cells old t' (0, 0)) => old.size == n && t' == t | _ => false) && cs.size == n && cs.all (·.oneCell')
  | _, _ => false
def putAt (w : World) : Value → Value → World
  | .pointer (some ⟨g, 0, none⟩), .agg cs => w.setRow g cs
  | _, _ => w
theorem putAt_ptr (w : World) (g : Nat) (cs : Array Value) : putAt w (.pointer (some ⟨g, 0, none⟩)) (.agg cs) = w.setRow g cs := rfl
theorem setRow_drew (w : World) (g : Nat) (cs : Array Value) : w.drew.setRow g cs = (w.setRow g cs).drew := rfl
theorem canPut_drew (n t : Nat) (w : World) (v u : Value) : canPut n t w.drew v u = canPut n t w v u := rfl
theorem canPut_row {w : World} {g n : Nat} {t : TypeId} {old cs : Array Value} (h : w.heap[g]? = some (.cells old t)) (ho : old.size = n) (hc : cs.size = n) (h1 : cs.all (·.oneCell') = true) : canPut n t w (.pointer (some ⟨g, 0, none⟩)) (.agg cs) = true := by
  simp only [canPut, h]
  rw [h1, Bool.and_true, Bool.and_eq_true, beq_iff_eq]
  exact ⟨by simp [ho], hc⟩
theorem run_opst32 (ρ : Operand → Value) (dst : Option Tmp) (x y : Operand) (ty : TypeId) (pos : String) (after : Array Edge) (guard : Option (Nat × Bool)) (w : World) (h : canPut 10 89 w (ρ x) (ρ y) = true) :
    (execOp ρ { dst, op := .store 89 x y, type := ty, pos, after, guard }).run Tryz.prog w = .ok .skip (putAt w (ρ x) (ρ y)) := by
  unfold canPut at h
  split at h
  · rename_i g cs e1 e2
    simp only [Bool.and_eq_true, beq_iff_eq] at h
    obtain ⟨⟨h0, h1⟩, h3⟩ := h
    split at h0
    · rename_i old t' hg
      simp only [Bool.and_eq_true, beq_iff_eq] at h0
      have := run_storeVar_row (P := Tryz.prog) w g t' 89 old cs hg (by rw [h1]; exact info32) (by omega) h3
      unfold execOp
      simp only [e1, e2, Instr.storeAt, Instr.sureAddr, Sem.run_bind, Sem.run_pure, Result.andThen_ok, this, putAt]
    · cases h0
  · cases h
theorem run_opst40 (ρ : Operand → Value) (dst : Option Tmp) (x y : Operand) (ty : TypeId) (pos : String) (after : Array Edge) (guard : Option (Nat × Bool)) (w : World) (h : canPut 5 29 w (ρ x) (ρ y) = true) :
    (execOp ρ { dst, op := .store 29 x y, type := ty, pos, after, guard }).run Tryz.prog w = .ok .skip (putAt w (ρ x) (ρ y)) := by
  unfold canPut at h
  split at h
  · rename_i g cs e1 e2
    simp only [Bool.and_eq_true, beq_iff_eq] at h
    obtain ⟨⟨h0, h1⟩, h3⟩ := h
    split at h0
    · rename_i old t' hg
      simp only [Bool.and_eq_true, beq_iff_eq] at h0
      have := run_storeVar_row (P := Tryz.prog) w g t' 29 old cs hg (by rw [h1]; exact info39) (by omega) h3
      unfold execOp
      simp only [e1, e2, Instr.storeAt, Instr.sureAddr, Sem.run_bind, Sem.run_pure, Result.andThen_ok, this, putAt]
    · cases h0
  · cases h
attribute [local go_sem ↓] run_op32 run_opst32 run_opst40 Go.wp_at_zero Go.wp_at_succ
attribute [local go_sem] rowOf_drew isRow_drew arrAt_ptr isAt_ptr putAt_ptr canPut_drew setRow_drew

set_option maxRecDepth 100000 in
set_option maxHeartbeats 8000000 in
theorem rparse_at (t : ByteArray) (w : World) (hm : t.size ≤ maxLen) : Calls Tryz.prog 109 #[.string t] w fun e w' => e = .returned (.tuple #[.agg (hoC (host (byt t)).1), badV (host (byt t)).2]) ∧ Below w.heap.size w w' := by
  obtain ⟨l, hl⟩ : ∃ l, l = byt t := ⟨_, rfl⟩
  rw [← hl]
  have HL : Hid (byt t = l) := hl.symm
  obtain ⟨N, hN⟩ : ∃ N, N = t.size := ⟨_, rfl⟩
  have HNL : Hid (N = l.length) := by show _ = _; rw [hN, hl, byt_length]
  have HIX : Hid (∀ i, i < t.size → ∀ w, (Instr.index 9 (.string t) (.int .i64 (i : Nat))).run Tryz.prog w = .ok (.int .u8 (l.getD i 0 : Nat)) w) := fun i hi w => by rw [hl]; exact run_ixstr t i hi w
  have HLT : Hid (∀ k, l.getD k 0 < 256) := fun k => by rw [hl]; exact getD_lt (byt_lt t) k
  have hNI : (t.size : Int) = (N : Int) := by rw [hN]
  have HN := hide hN
  have HMX := hide hm
  rw [← hN] at hm
  unfold maxLen at hm
  obtain ⟨W0, hW0⟩ : ∃ W0, W0 = (w.alloc (.cells z5 29)).alloc (.cells (badC .ok) 89) := ⟨_, rfl⟩
  have HR0 : Hid (W0.heap[w.heap.size]? = some (.cells z5 29)) := by rw [hW0]; exact alloc_old _ (alloc_new _ _)
  have HR1 : Hid (W0.heap[w.heap.size + 1]? = some (.cells (badC .ok) 89)) := by rw [hW0]; exact alloc_new2 _ _ _
  have B0 : Hid (Below w.heap.size w W0) := by rw [hW0]; exact ((Below.refl _ _).alloc (Nat.le_refl _) _).alloc (by simp) _
  have HW0 : Hid ((w.alloc (.cells #[.int .u8 0, .int .u8 0, .int .u8 0, .int .u8 0, .string ⟨#[]⟩] 29)).alloc (.cells #[.int .i64 0, .string ⟨#[]⟩, .string ⟨#[]⟩, .string ⟨#[]⟩, .string ⟨#[]⟩, .int .i64 0, .int .i64 0, .int .i64 0, .int .i64 0, .int .i64 0] 89) = W0) := hW0.symm
  clear hl hN hW0
  by_cases h253 : 253 < N
  · have HR : Hid (host l = (([0, 0, 0, 0], []), .one 253 3)) := host_long (by rw [← HNL.out]; exact h253)
    have hd : decide (253 < (N : Int)) = true := decide_eq_true (by omega)
    have hd' : decide (253 < N) = true := decide_eq_true (by omega)
    go_enter Tryz.func109, Tryz.ntmps109
    go_wp2_with fail
    rw [HW0.out]
    refine (fault_at 253 3 _).mono ?_
    rintro e w4 ⟨rfl, hb4⟩
    have h04 : w4.heap[w.heap.size]? = some (.cells z5 29) := (hb4.block _ (lt_of_some HR0.out)).trans HR0.out
    have h14 : w4.heap[w.heap.size + 1]? = some (.cells (badC .ok) 89) := (hb4.block _ (lt_of_some HR1.out)).trans HR1.out
    obtain ⟨f1, f2, f3, f4⟩ := fin2 h04 h14 z5 (badC (.one 253 3))
    have f5 := f4 w (Nat.le_refl _) (B0.out.trans (hb4.mono B0.out.size))
    obtain ⟨W1, hW1⟩ : ∃ W1, W1 = w4.setRow w.heap.size z5 := ⟨_, rfl⟩
    rw [← hW1] at f1 f2 f3 f4 f5
    obtain ⟨W2, hW2⟩ : ∃ W2, W2 = W1.setRow (w.heap.size + 1) (badC (.one 253 3)) := ⟨_, rfl⟩
    rw [← hW2] at f2 f3 f5
    have F0 := hide h04
    have F1 := hide f1
    have F2 := hide f2
    have F3 := hide f3
    have F5 := hide f5
    have HW1 := hide hW1
    have HW2 := hide hW2
    clear f1 f2 f3 f4 f5 hW1 hW2 h04 h14 hb4
    rw [badV_badC]
    go_wp2_with (first
      | (refine wpList_store_rowW rfl 29 _ _ rfl w.heap.size z5 rfl rfl 29 z5 F0.out info39 rfl z5_one W1 HW1.out ?_)
      | (refine wpList_store_rowW rfl 89 _ _ rfl (w.heap.size + 1) (badC (.one 253 3)) rfl rfl 89 (badC .ok) F1.out info32 rfl (badC_one _) W2 HW2.out ?_))
    refine bodyPost_ret (res_cell_cell rfl _ _ w.heap.size 29 z5 (0, 0) _ rfl F2.out Tryz.underlying29 rfl info39 (w.heap.size + 1) 89 (badC (.one 253 3)) (0, 0) _ rfl F3.out Tryz.underlying89 rfl info32) rfl ⟨?_, F5.out⟩
    rw [HR.out, badV_badC]; rfl
  have hd : decide (253 < (N : Int)) = false := decide_eq_false (by omega)
  have hd' : decide (253 < N) = false := decide_eq_false (by omega)
  by_cases h0 : l = []
  · have he : t.toList.isEmpty = true := by rw [isEmpty_byt, HL.out]; simp [h0]
    have he2 : (t.toList == []) = true := by simpa using he
    have HR : Hid (host l = (([0, 0, 0, 0], []), .one 0 63)) := by show _ = _; rw [host, if_pos h0]
    clear h0
    go_enter Tryz.func109, Tryz.ntmps109
    go_wp2_with fail
    rw [HW0.out]
    refine (fault_at 0 63 _).mono ?_
    rintro e w4 ⟨rfl, hb4⟩
    have h04 : w4.heap[w.heap.size]? = some (.cells z5 29) := (hb4.block _ (lt_of_some HR0.out)).trans HR0.out
    have h14 : w4.heap[w.heap.size + 1]? = some (.cells (badC .ok) 89) := (hb4.block _ (lt_of_some HR1.out)).trans HR1.out
    obtain ⟨f1, f2, f3, f4⟩ := fin2 h04 h14 z5 (badC (.one 0 63))
    have f5 := f4 w (Nat.le_refl _) (B0.out.trans (hb4.mono B0.out.size))
    obtain ⟨W1, hW1⟩ : ∃ W1, W1 = w4.setRow w.heap.size z5 := ⟨_, rfl⟩
    rw [← hW1] at f1 f2 f3 f4 f5
    obtain ⟨W2, hW2⟩ : ∃ W2, W2 = W1.setRow (w.heap.size + 1) (badC (.one 0 63)) := ⟨_, rfl⟩
    rw [← hW2] at f2 f3 f5
    have F0 := hide h04
    have F1 := hide f1
    have F2 := hide f2
    have F3 := hide f3
    have F5 := hide f5
    have HW1 := hide hW1
    have HW2 := hide hW2
    clear f1 f2 f3 f4 f5 hW1 hW2 h04 h14 hb4
    rw [badV_badC]
    go_wp2_with (first
      | (refine wpList_store_rowW rfl 29 _ _ rfl w.heap.size z5 rfl rfl 29 z5 F0.out info39 rfl z5_one W1 HW1.out ?_)
      | (refine wpList_store_rowW rfl 89 _ _ rfl (w.heap.size + 1) (badC (.one 0 63)) rfl rfl 89 (badC .ok) F1.out info32 rfl (badC_one _) W2 HW2.out ?_))
    refine bodyPost_ret (res_cell_cell rfl _ _ w.heap.size 29 z5 (0, 0) _ rfl F2.out Tryz.underlying29 rfl info39 (w.heap.size + 1) 89 (badC (.one 0 63)) (0, 0) _ rfl F3.out Tryz.underlying89 rfl info32) rfl ⟨?_, F5.out⟩
    rw [HR.out, badV_badC]; rfl
  have he : t.toList.isEmpty = false := by rw [isEmpty_byt, HL.out]; simp [h0]
  have he2 : (t.toList == []) = false := by
    cases hh : t.toList with
    | nil => rw [hh] at he; cases he
    | cons a b => rfl
  have HHO : Hid (host l = if looks l = true then (((addr l).1, []), (addr l).2) else (([0, 0, 0, 0], (name l).1), (name l).2)) := by show _ = _; rw [host, if_neg h0]
  clear h0
  go_enter Tryz.func109, Tryz.ntmps109
  go_wp2_with fail
  rw [HW0.out]
  go_loop [4, 5] (fun al i => ∃ k : Nat, k ≤ N ∧ i = .int .i64 k ∧ ∃ b : Bool, al = .bool b ∧ Hid (b = looks (l.take k))) (fun _ i => N - (intOf i).toNat)
  case atStart => exact ⟨0, by omega, rfl, true, rfl, rfl⟩
  case round =>
    obtain ⟨k, hk, rfl, b, rfl, HB⟩ := hrel
    by_cases hkN : k < N
    · have hdk : decide ((k : Int) < (N : Int)) = true := decide_eq_true (by omega)
      have hkl : Hid (k < l.length) := by show _ < _; rw [← HNL.out]; exact hkN
      have HT : Hid (looks (l.take (k + 1)) = (b && (decide (l.getD k 0 = 46) || dig (l.getD k 0)))) := by
        show _ = _
        have e := HB.out
        unfold looks at e ⊢
        rw [take_snoc l k hkl.out, List.all_append, ← e]
        simp
      have hx := HIX.out k (by rw [← HN.out]; exact hkN)
      have hc := HLT.out k
      generalize l.getD k 0 = c at hx hc HT
      cases b with
      | false =>
        go_wp2_with fail
        go_round
        case rel => exact ⟨k + 1, by omega, by go_num, false, rfl, by show _ = _; rw [HT.out]; rfl⟩
        case measure => simp [intOf]; omega
      | true =>
        by_cases h46 : c = 46
        · have q1 : ((c : Int) == 46) = true := by simp; omega
          have HT2 : Hid (looks (l.take (k + 1)) = true) := by show _ = _; rw [HT.out]; simp [h46]
          clear h46
          go_wp2_with fail
          go_round
          case rel => exact ⟨k + 1, by omega, by go_num, true, rfl, HT2.out.symm⟩
          case measure => simp [intOf]; omega
        · have q1 : ((c : Int) == 46) = false := by simp; omega
          obtain ⟨d, hdd⟩ : ∃ d, d = dig c := ⟨_, rfl⟩
          have HT2 : Hid (looks (l.take (k + 1)) = d) := by show _ = _; rw [HT.out, ← hdd]; simp [h46]
          have HD := hide hdd
          clear hdd h46
          go_wp2_with fail
          refine (digit_at c _ hc).mono ?_
          rintro e w3 ⟨rfl, rfl⟩
          rw [← HD.out]
          go_wp2_with fail
          go_round
          case rel => exact ⟨k + 1, by omega, by go_num, d, by first | rfl | simp, HT2.out.symm⟩
          case measure => simp [intOf]; omega
    · have hdk : decide ((k : Int) < (N : Int)) = false := decide_eq_false (by omega)
      have HBA : Hid (b = looks l) := by
        have := HB.out
        rw [List.take_of_length_le (by rw [← HNL.out]; omega)] at this
        exact this
      cases b with
      | true =>
        have HR : Hid (host l = (((addr l).1, []), (addr l).2)) := by show _ = _; rw [HHO.out, if_pos HBA.out.symm]
        obtain ⟨x0, x1, x2, x3, hA⟩ := four (addr_len l)
        have HA := hide hA
        clear hA
        go_wp2_with fail
        refine (rparseAddr_at t _ HMX.out).mono ?_
        rintro e w3 ⟨rfl, hb3⟩
        rw [HL.out, HA.out]
        simp only [nums, List.map_cons, List.map_nil]
        have H0 : Hid (w3.heap[w.heap.size]? = some (.cells z5 29)) := (hb3.block _ (lt_of_some HR0.out)).trans HR0.out
        have H1 : Hid (w3.heap[w.heap.size + 1]? = some (.cells (badC .ok) 89)) := (hb3.block _ (lt_of_some HR1.out)).trans HR1.out
        have B3 : Hid (Below w.heap.size w w3) := B0.out.trans (hb3.mono B0.out.size)
        clear hb3
        obtain ⟨er, hEr⟩ : ∃ er, er = (addr l).2 := ⟨_, rfl⟩
        rw [← hEr] at HR ⊢
        clear hEr
        obtain ⟨W5, hW5⟩ : ∃ W5, W5 = ((w3.alloc (.cells #[.int .u8 (x0 : Nat), .int .u8 (x1 : Nat), .int .u8 (x2 : Nat), .int .u8 (x3 : Nat)] 27)).alloc (.cells (badC .ok) 89)).setRow (w3.heap.size + 1) (badC er) := ⟨_, rfl⟩
        have hlt0 := lt_of_some H0.out
        have hlt1 := lt_of_some H1.out
        have z5' : ((w3.alloc (.cells #[.int .u8 (x0 : Nat), .int .u8 (x1 : Nat), .int .u8 (x2 : Nat), .int .u8 (x3 : Nat)] 27)).alloc (.cells (badC .ok) 89)).heap[w3.heap.size + 1]? = some (.cells (badC .ok) 89) := alloc_new2 _ _ _
        have p5 : W5.heap[w3.heap.size + 1]? = some (.cells (badC er) 89) := by rw [hW5]; exact setRow_heap _ _ _ _ _ z5'
        have q5 : W5.heap[w3.heap.size]? = some (.cells #[.int .u8 (x0 : Nat), .int .u8 (x1 : Nat), .int .u8 (x2 : Nat), .int .u8 (x3 : Nat)] 27) := by rw [hW5, setRow_ne _ _ _ _ (by omega)]; exact alloc_old _ (alloc_new _ _)
        have r0 : W5.heap[w.heap.size]? = some (.cells z5 29) := by rw [hW5, setRow_ne _ _ _ _ (by omega)]; exact alloc_old _ (alloc_old _ H0.out)
        have r1 : W5.heap[w.heap.size + 1]? = some (.cells (badC .ok) 89) := by rw [hW5, setRow_ne _ _ _ _ (by omega)]; exact alloc_old _ (alloc_old _ H1.out)
        have b5 : Below w.heap.size w W5 := by rw [hW5]; exact below_setRow (((B3.out.alloc B3.out.size _).alloc (by simp; have := B3.out.size; omega) _)) (by omega) _
        have c0 : W5.cell? ⟨w3.heap.size, 0, none⟩ = some (.int .u8 (x0 : Nat)) := by simp [World.cell?, q5]
        have c1 : W5.cell? ⟨w3.heap.size, 1, none⟩ = some (.int .u8 (x1 : Nat)) := by simp [World.cell?, q5]
        have c2 : W5.cell? ⟨w3.heap.size, 2, none⟩ = some (.int .u8 (x2 : Nat)) := by simp [World.cell?, q5]
        have c3 : W5.cell? ⟨w3.heap.size, 3, none⟩ = some (.int .u8 (x3 : Nat)) := by simp [World.cell?, q5]
        have k1 : isRow W5 (w3.heap.size + 1) 10 = true := isRow_of p5 (badC_size _)
        have k2 : rowOf W5 (w3.heap.size + 1) = badC er := rowOf_of p5
        have k3 : canPut 5 29 W5 (.pointer (some ⟨w.heap.size, 0, none⟩)) (.agg #[.int .u8 (x0 : Nat), .int .u8 (x1 : Nat), .int .u8 (x2 : Nat), .int .u8 (x3 : Nat), .string ⟨#[]⟩]) = true := canPut_row r0 rfl rfl (by simp [Value.oneCell'])
        obtain ⟨W6, hW6⟩ : ∃ W6, W6 = W5.setRow w.heap.size #[.int .u8 (x0 : Nat), .int .u8 (x1 : Nat), .int .u8 (x2 : Nat), .int .u8 (x3 : Nat), .string ⟨#[]⟩] := ⟨_, rfl⟩
        have p6 : W6.heap[w3.heap.size + 1]? = some (.cells (badC er) 89) := by rw [hW6, setRow_ne _ _ _ _ (by omega)]; exact p5
        have k5 : isRow W6 (w3.heap.size + 1) 10 = true := isRow_of p6 (badC_size _)
        have k6 : rowOf W6 (w3.heap.size + 1) = badC er := rowOf_of p6
        obtain ⟨f1, f2, f3, f4⟩ := fin2 r0 r1 #[.int .u8 (x0 : Nat), .int .u8 (x1 : Nat), .int .u8 (x2 : Nat), .int .u8 (x3 : Nat), .string ⟨#[]⟩] (badC er)
        have f5 := f4 w (Nat.le_refl _) b5
        rw [← hW6] at f1 f2 f3 f4 f5
        have k4 : canPut 10 89 W6 (.pointer (some ⟨w.heap.size + 1, 0, none⟩)) (.agg (badC er)) = true := canPut_row f1 rfl (badC_size _) (badC_one _)
        have hW6' : W5.setRow w.heap.size #[.int .u8 (x0 : Nat), .int .u8 (x1 : Nat), .int .u8 (x2 : Nat), .int .u8 (x3 : Nat), .string ⟨#[]⟩] = W6 := hW6.symm
        obtain ⟨W7, hW7⟩ : ∃ W7, W7 = W6.setRow (w.heap.size + 1) (badC er) := ⟨_, rfl⟩
        rw [← hW7] at f2 f3 f5
        have hW7' : W6.setRow (w.heap.size + 1) (badC er) = W7 := hW7.symm
        have F2 := hide f2
        have F3 := hide f3
        have F5 := hide f5
        have HZ := hide z5'
        have HW5 := hide hW5
        clear f1 f2 f3 f4 f5 hW7 hW6 z5' hW5 p5 p6 q5 r0 r1 b5
        rw [badV_badC]
        go_wp2_with (first | (refine wpList_store_rowW rfl 89 _ _ rfl (w3.heap.size + 1) (badC er) rfl rfl 89 (badC .ok) HZ.out (by rw [badC_size]; exact info32) (by rw [badC_size, badC_size]) (badC_one _) W5 HW5.out ?_))
        go_region
        all_goals (try go_wp2_with fail)
        all_goals refine bodyPost_ret (res_cell_cell rfl _ _ w.heap.size 29 #[.int .u8 (x0 : Nat), .int .u8 (x1 : Nat), .int .u8 (x2 : Nat), .int .u8 (x3 : Nat), .string ⟨#[]⟩] (0, 0) _ rfl (by exact F2.out) Tryz.underlying29 rfl info39 (w.heap.size + 1) 89 (badC er) (0, 0) _ rfl (by exact F3.out) Tryz.underlying89 rfl (by rw [badC_size]; exact info32)) rfl ⟨?_, F5.out.drew⟩
        all_goals (rw [HR.out, HA.out, badV_badC]; rfl)

      | false =>
        have HR : Hid (host l = (([0, 0, 0, 0], (name l).1), (name l).2)) := by show _ = _; rw [HHO.out, if_neg (by rw [← HBA.out]; simp)]
        go_wp2_with fail
        refine (rparseName_at t _ HMX.out).mono ?_
        rintro e w3 ⟨rfl, hb3⟩
        rw [HL.out]
        have H0 : Hid (w3.heap[w.heap.size]? = some (.cells z5 29)) := (hb3.block _ (lt_of_some HR0.out)).trans HR0.out
        have H1 : Hid (w3.heap[w.heap.size + 1]? = some (.cells (badC .ok) 89)) := (hb3.block _ (lt_of_some HR1.out)).trans HR1.out
        have B3 : Hid (Below w.heap.size w w3) := B0.out.trans (hb3.mono B0.out.size)
        clear hb3
        obtain ⟨er, hEr⟩ : ∃ er, er = (name l).2 := ⟨_, rfl⟩
        rw [← hEr] at HR ⊢
        clear hEr
        obtain ⟨S, hS⟩ : ∃ S, S = strN (name l).1 := ⟨_, rfl⟩
        rw [← hS]
        have HSS := hide hS
        clear hS
        obtain ⟨W5, hW5⟩ : ∃ W5, W5 = (w3.alloc (.cells (badC .ok) 89)).setRow (w3.heap.size) (badC er) := ⟨_, rfl⟩
        have hlt0 := lt_of_some H0.out
        have hlt1 := lt_of_some H1.out
        have z5' : (w3.alloc (.cells (badC .ok) 89)).heap[w3.heap.size]? = some (.cells (badC .ok) 89) := alloc_new _ _
        have p5 : W5.heap[w3.heap.size]? = some (.cells (badC er) 89) := by rw [hW5]; exact setRow_heap _ _ _ _ _ z5'
        have r0 : W5.heap[w.heap.size]? = some (.cells z5 29) := by rw [hW5, setRow_ne _ _ _ _ (by omega)]; exact alloc_old _ H0.out
        have r1 : W5.heap[w.heap.size + 1]? = some (.cells (badC .ok) 89) := by rw [hW5, setRow_ne _ _ _ _ (by omega)]; exact alloc_old _ H1.out
        have b5 : Below w.heap.size w W5 := by rw [hW5]; exact below_setRow (B3.out.alloc B3.out.size _) (by omega) _
        have k1 : isRow W5 (w3.heap.size) 10 = true := isRow_of p5 (badC_size _)
        have k2 : rowOf W5 (w3.heap.size) = badC er := rowOf_of p5
        have k3 : canPut 5 29 W5 (.pointer (some ⟨w.heap.size, 0, none⟩)) (.agg #[.int .u8 0, .int .u8 0, .int .u8 0, .int .u8 0, .string S]) = true := canPut_row r0 rfl rfl (by simp [Value.oneCell'])
        obtain ⟨W6, hW6⟩ : ∃ W6, W6 = W5.setRow w.heap.size #[.int .u8 0, .int .u8 0, .int .u8 0, .int .u8 0, .string S] := ⟨_, rfl⟩
        have p6 : W6.heap[w3.heap.size]? = some (.cells (badC er) 89) := by rw [hW6, setRow_ne _ _ _ _ (by omega)]; exact p5
        have k5 : isRow W6 (w3.heap.size) 10 = true := isRow_of p6 (badC_size _)
        have k6 : rowOf W6 (w3.heap.size) = badC er := rowOf_of p6
        obtain ⟨f1, f2, f3, f4⟩ := fin2 r0 r1 #[.int .u8 0, .int .u8 0, .int .u8 0, .int .u8 0, .string S] (badC er)
        have f5 := f4 w (Nat.le_refl _) b5
        rw [← hW6] at f1 f2 f3 f4 f5
        have k4 : canPut 10 89 W6 (.pointer (some ⟨w.heap.size + 1, 0, none⟩)) (.agg (badC er)) = true := canPut_row f1 rfl (badC_size _) (badC_one _)
        have hW6' : W5.setRow w.heap.size #[.int .u8 0, .int .u8 0, .int .u8 0, .int .u8 0, .string S] = W6 := hW6.symm
        obtain ⟨W7, hW7⟩ : ∃ W7, W7 = W6.setRow (w.heap.size + 1) (badC er) := ⟨_, rfl⟩
        rw [← hW7] at f2 f3 f5
        have hW7' : W6.setRow (w.heap.size + 1) (badC er) = W7 := hW7.symm
        have F2 := hide f2
        have F3 := hide f3
        have F5 := hide f5
        have HZ := hide z5'
        have HW5 := hide hW5
        clear f1 f2 f3 f4 f5 hW7 hW6 z5' hW5 p5 p6 r0 r1 b5
        rw [badV_badC]
        go_wp2_with (first | (refine wpList_store_rowW rfl 89 _ _ rfl (w3.heap.size) (badC er) rfl rfl 89 (badC .ok) HZ.out (by rw [badC_size]; exact info32) (by rw [badC_size, badC_size]) (badC_one _) W5 HW5.out ?_))
        go_region
        all_goals (try go_wp2_with fail)
        all_goals refine bodyPost_ret (res_cell_cell rfl _ _ w.heap.size 29 #[.int .u8 0, .int .u8 0, .int .u8 0, .int .u8 0, .string S] (0, 0) _ rfl (by exact F2.out) Tryz.underlying29 rfl info39 (w.heap.size + 1) 89 (badC er) (0, 0) _ rfl (by exact F3.out) Tryz.underlying89 rfl (by rw [badC_size]; exact info32)) rfl ⟨?_, F5.out.drew⟩
        all_goals (rw [HR.out, HSS.out, badV_badC]; rfl)

end Go.Proofs.YtccoddmdlbdfjaaGreatDoor
