/-
  HostReads' walk; conditions as each theorem has them.
-/
import Derived.Test.YtfjglcihlkmpnaaDoorU2
import Derived.Test.YtfjglcihlkmpnaaDoorV
set_option linter.unusedSimpArgs false
set_option linter.unusedVariables false
namespace Go.Proofs.YtfjglcihlkmpnaaDoor
open Go.RowKit

theorem wpList_load_rowG {P : Program} {ops : Array Oper} {rest : List Oper} {o : Oper} {a : Act} {w : World} {Q : Exit → Act → World → Prop} (hgd : Region.wanted o (yielded ops a.tmps) = true) (ty : TypeId) (x : Operand) (ho : o.op = .load ty x)
    (g : Nat) (hx : a.eval x = .pointer (some ⟨g, 0, none⟩)) (t : TypeId) (cs : Array Value) (fr : Nat × Nat) (d : TypeDesc) (hg : w.heap[g]? = some (.cells cs t fr))
    (hu : P.underlying ty = some d) (hd : (match d with | .struct _ | .array _ _ => true | _ => false) = true) (hi : (P.info? ty).map (·.size) = some cs.size)
    (h : wpList P ops Q rest (a.put o.dst (.agg cs)) w) : wpList P ops Q (o :: rest) a w :=
  BigFrame.wpList_want hgd fun _ hK => wp_load_row ty x ho g hx t cs fr d hg hu hd hi (hK _ _ h)
theorem keepB {w w' : World} {b : Nat} {o : Obj} (k : Below w.heap.size w w') (h : w.heap[b]? = some o) : w'.heap[b]? = some o := (k.block b (lt_of_some h)).trans h
theorem badI (e : Er) : (Tryd.prog.info? 32).map (·.size) = some (badC e).size := by rw [badC_size]; exact info32

set_option maxRecDepth 100000 in
set_option maxHeartbeats 8000000 in
theorem reads_walk (t : ByteArray) (w : World) (hT : Tabs w) (hm : t.size ≤ maxLen) (_ : t.size ≤ 140737488355328) : Calls Tryd.prog 3 #[.string t] w fun e w' => e = .returned (.bool true) ∧ Below w.heap.size w w' := by
  obtain ⟨x0, x1, x2, x3, hA⟩ := four (addr_len (byt t))
  obtain ⟨y0, y1, y2, y3, hH⟩ := four (host_len (byt t))
  obtain ⟨e1, he1⟩ : ∃ e, e = (addr (byt t)).2 := ⟨_, rfl⟩
  obtain ⟨e2, he2⟩ : ∃ e, e = (name (byt t)).2 := ⟨_, rfl⟩
  obtain ⟨e3, he3⟩ : ∃ e, e = (host (byt t)).2 := ⟨_, rfl⟩
  obtain ⟨S, hS⟩ : ∃ S, S = strN (name (byt t)).1 := ⟨_, rfl⟩
  obtain ⟨S2, hS2⟩ : ∃ S, S = strN (host (byt t)).1.2 := ⟨_, rfl⟩
  have hho : hoC (host (byt t)).1 = #[.int .u8 (y0 : Nat), .int .u8 (y1 : Nat), .int .u8 (y2 : Nat), .int .u8 (y3 : Nat), .string S2] := by
    unfold hoC; rw [hH, hS2]; rfl
  have hna : (nums .u8 (addr (byt t)).1).toArray = #[.int .u8 (x0 : Nat), .int .u8 (x1 : Nat), .int .u8 (x2 : Nat), .int .u8 (x3 : Nat)] := by rw [hA]; rfl
  have H9 : Hid (∀ W, Tabs W → Calls Tryd.prog 9 #[.string t] W fun e w' => ∃ v, e = .returned (.tuple #[.agg #[.int .u8 (x0 : Nat), .int .u8 (x1 : Nat), .int .u8 (x2 : Nat), .int .u8 (x3 : Nat)], v]) ∧ IsEr w' e1 v ∧ Below W.heap.size W w') := fun W hW => by rw [he1, ← hna]; exact parseAddr_at t W hm hW.v
  have H10 : Hid (∀ W, Calls Tryd.prog 10 #[.string t] W fun e w' => e = .returned (.tuple #[.agg #[.int .u8 (x0 : Nat), .int .u8 (x1 : Nat), .int .u8 (x2 : Nat), .int .u8 (x3 : Nat)], .agg (badC e1)]) ∧ Below W.heap.size W w') := fun W => by rw [he1, ← hna, ← badV_badC]; exact rparseAddr_at t W hm
  have H11 : Hid (∀ W, Tabs W → Calls Tryd.prog 11 #[.string t] W fun e w' => ∃ v, e = .returned (.tuple #[.string S, v]) ∧ IsEr w' e2 v ∧ Below W.heap.size W w') := fun W hW => by rw [he2, hS]; exact parseName_at t W hm hW.v
  have H12 : Hid (∀ W, Calls Tryd.prog 12 #[.string t] W fun e w' => e = .returned (.tuple #[.string S, .agg (badC e2)]) ∧ Below W.heap.size W w') := fun W => by rw [he2, hS, ← badV_badC]; exact rparseName_at t W hm
  have H13 : Hid (∀ W, Tabs W → Calls Tryd.prog 13 #[.string t] W fun e w' => ∃ v, e = .returned (.tuple #[.agg #[.int .u8 (y0 : Nat), .int .u8 (y1 : Nat), .int .u8 (y2 : Nat), .int .u8 (y3 : Nat), .string S2], v]) ∧ IsEr w' e3 v ∧ Below W.heap.size W w') := fun W hW => by rw [he3, ← hho]; exact parse_at t W hm hW.v
  have H14 : Hid (∀ W, Calls Tryd.prog 14 #[.string t] W fun e w' => e = .returned (.tuple #[.agg #[.int .u8 (y0 : Nat), .int .u8 (y1 : Nat), .int .u8 (y2 : Nat), .int .u8 (y3 : Nat), .string S2], .agg (badC e3)]) ∧ Below W.heap.size W w') := fun W => by rw [he3, ← hho, ← badV_badC]; exact rparse_at t W hm
  have HT := hide hT
  clear hA hH he1 he2 he3 hS hS2 hho hna hT hm
  go_enter Tryd.func3, Tryd.ntmps3
  go_wp2_with fail
  refine (H9.out _ HT.out).mono ?_
  rintro e w1 ⟨v1, rfl, er1, k1⟩
  have T1 := HT.out.below k1
  have B1 := k1
  obtain ⟨W1, hW1⟩ : ∃ W1, W1 = w1.alloc (.cells #[.int .u8 (x0 : Nat), .int .u8 (x1 : Nat), .int .u8 (x2 : Nat), .int .u8 (x3 : Nat)] 23) := ⟨_, rfl⟩
  have k1' : Below w1.heap.size w1 W1 := by rw [hW1]; exact (Below.refl _ _).alloc (Nat.le_refl _) _
  have r3 : W1.heap[w1.heap.size]? = some (.cells #[.int .u8 (x0 : Nat), .int .u8 (x1 : Nat), .int .u8 (x2 : Nat), .int .u8 (x3 : Nat)] 23) := by rw [hW1]; exact alloc_new _ _
  have HW1 : Hid (w1.alloc (.cells #[.int .u8 (x0 : Nat), .int .u8 (x1 : Nat), .int .u8 (x2 : Nat), .int .u8 (x3 : Nat)] 23) = W1) := hW1.symm
  have TW1 := hide (T1.below k1')
  have ER1 := hide (er1.below k1')
  have BW1 := hide (B1.trans (k1'.mono B1.size))
  have R3 := hide r3
  clear k1 er1 T1 B1 hW1 k1' r3
  go_wp2_with fail
  rw [HW1.out]
  refine (H10.out _).mono ?_
  rintro e w2 ⟨rfl, k2⟩
  obtain ⟨W2, hW2⟩ : ∃ W2, W2 = ((w2.alloc (.cells #[.int .u8 (x0 : Nat), .int .u8 (x1 : Nat), .int .u8 (x2 : Nat), .int .u8 (x3 : Nat)] 23)).alloc (.cells (badC .ok) 32)).setRow (w2.heap.size + 1) (badC e1) := ⟨_, rfl⟩
  have z2 : ((w2.alloc (.cells #[.int .u8 (x0 : Nat), .int .u8 (x1 : Nat), .int .u8 (x2 : Nat), .int .u8 (x3 : Nat)] 23)).alloc (.cells (badC .ok) 32)).heap[w2.heap.size + 1]? = some (.cells (badC .ok) 32) := alloc_new2 _ _ _
  have k2' : Below w2.heap.size w2 W2 := by rw [hW2]; exact below_setRow (((Below.refl _ _).alloc (Nat.le_refl _) _).alloc (by simp) _) (by omega) _
  have r5 : W2.heap[w2.heap.size]? = some (.cells #[.int .u8 (x0 : Nat), .int .u8 (x1 : Nat), .int .u8 (x2 : Nat), .int .u8 (x3 : Nat)] 23) := by rw [hW2, setRow_ne _ _ _ _ (by omega)]; exact alloc_old _ (alloc_new _ _)
  have r6 : W2.heap[w2.heap.size + 1]? = some (.cells (badC e1) 32) := by rw [hW2]; exact setRow_heap _ _ _ _ _ z2
  have Z2 := hide z2
  have HW2 := hide hW2
  have TW2 := hide ((TW1.out.below k2).below k2')
  have ER2 := hide ((ER1.out.below k2).below k2')
  have BW2 := hide ((BW1.out.trans (k2.mono BW1.out.size)).trans (k2'.mono (BW1.out.trans (k2.mono BW1.out.size)).size))
  have R3b := hide (keepB k2' (keepB k2 R3.out))
  have R5 := hide r5
  have R6 := hide r6
  clear k2 k2' z2 hW2 r5 r6 TW1 ER1 BW1 R3
  go_wp2_with (first | (refine wpList_store_rowW rfl 32 _ _ rfl (w2.heap.size + 1) (badC e1) rfl rfl 32 (badC .ok) Z2.out (badI e1) (by rw [badC_size, badC_size]) (badC_one _) W2 HW2.out ?_))
  refine (H11.out _ TW2.out).mono ?_
  rintro e w3 ⟨v2, rfl, er2, k3⟩
  have TW3 := hide (TW2.out.below k3)
  have ER3 := hide (ER2.out.below k3)
  have BW3 := hide (BW2.out.trans (k3.mono BW2.out.size))
  have R3c := hide (keepB k3 R3b.out)
  have R5c := hide (keepB k3 R5.out)
  have R6c := hide (keepB k3 R6.out)
  have FR3 := hide er2
  clear k3 er2 TW2 ER2 BW2 R3b R5 R6
  go_wp2_with fail
  refine (H12.out _).mono ?_
  rintro e w4 ⟨rfl, k4⟩
  obtain ⟨W4, hW4⟩ : ∃ W4, W4 = (w4.alloc (.cells (badC .ok) 32)).setRow w4.heap.size (badC e2) := ⟨_, rfl⟩
  have z4' : (w4.alloc (.cells (badC .ok) 32)).heap[w4.heap.size]? = some (.cells (badC .ok) 32) := alloc_new _ _
  have k4' : Below w4.heap.size w4 W4 := by rw [hW4]; exact below_setRow ((Below.refl _ _).alloc (Nat.le_refl _) _) (by omega) _
  have r10 : W4.heap[w4.heap.size]? = some (.cells (badC e2) 32) := by rw [hW4]; exact setRow_heap _ _ _ _ _ z4'
  have Z4 := hide z4'
  have HW4 := hide hW4
  have TW4 := hide ((TW3.out.below k4).below k4')
  have ER4 := hide ((ER3.out.below k4).below k4')
  have FR4 := hide ((FR3.out.below k4).below k4')
  have BW4 := hide ((BW3.out.trans (k4.mono BW3.out.size)).trans (k4'.mono (BW3.out.trans (k4.mono BW3.out.size)).size))
  have R3d := hide (keepB k4' (keepB k4 R3c.out))
  have R5d := hide (keepB k4' (keepB k4 R5c.out))
  have R6d := hide (keepB k4' (keepB k4 R6c.out))
  have R10 := hide r10
  clear k4 k4' z4' hW4 r10 TW3 ER3 FR3 BW3 R3c R5c R6c
  go_wp2_with (first | (refine wpList_store_rowW rfl 32 _ _ rfl w4.heap.size (badC e2) rfl rfl 32 (badC .ok) Z4.out (badI e2) (by rw [badC_size, badC_size]) (badC_one _) W4 HW4.out ?_))
  refine (H13.out _ TW4.out).mono ?_
  rintro e w5 ⟨v3, rfl, er3, k5⟩
  obtain ⟨W5, hW5⟩ : ∃ W5, W5 = w5.alloc (.cells #[.int .u8 (y0 : Nat), .int .u8 (y1 : Nat), .int .u8 (y2 : Nat), .int .u8 (y3 : Nat), .string S2] 40) := ⟨_, rfl⟩
  have k5' : Below w5.heap.size w5 W5 := by rw [hW5]; exact (Below.refl _ _).alloc (Nat.le_refl _) _
  have r11 : W5.heap[w5.heap.size]? = some (.cells #[.int .u8 (y0 : Nat), .int .u8 (y1 : Nat), .int .u8 (y2 : Nat), .int .u8 (y3 : Nat), .string S2] 40) := by rw [hW5]; exact alloc_new _ _
  have HW5 : Hid (w5.alloc (.cells #[.int .u8 (y0 : Nat), .int .u8 (y1 : Nat), .int .u8 (y2 : Nat), .int .u8 (y3 : Nat), .string S2] 40) = W5) := hW5.symm
  have TW5 := hide ((TW4.out.below k5).below k5')
  have ER5 := hide ((ER4.out.below k5).below k5')
  have FR5 := hide ((FR4.out.below k5).below k5')
  have GR5 := hide (er3.below k5')
  have BW5 := hide ((BW4.out.trans (k5.mono BW4.out.size)).trans (k5'.mono (BW4.out.trans (k5.mono BW4.out.size)).size))
  have R3e := hide (keepB k5' (keepB k5 R3d.out))
  have R5e := hide (keepB k5' (keepB k5 R5d.out))
  have R6e := hide (keepB k5' (keepB k5 R6d.out))
  have R10e := hide (keepB k5' (keepB k5 R10.out))
  have R11 := hide r11
  clear k5 k5' hW5 r11 er3 TW4 ER4 FR4 BW4 R3d R5d R6d R10
  go_wp2_with fail
  rw [HW5.out]
  refine (H14.out _).mono ?_
  rintro e w6 ⟨rfl, k6⟩
  obtain ⟨W6, hW6⟩ : ∃ W6, W6 = ((w6.alloc (.cells #[.int .u8 (y0 : Nat), .int .u8 (y1 : Nat), .int .u8 (y2 : Nat), .int .u8 (y3 : Nat), .string S2] 40)).alloc (.cells (badC .ok) 32)).setRow (w6.heap.size + 1) (badC e3) := ⟨_, rfl⟩
  have z6' : ((w6.alloc (.cells #[.int .u8 (y0 : Nat), .int .u8 (y1 : Nat), .int .u8 (y2 : Nat), .int .u8 (y3 : Nat), .string S2] 40)).alloc (.cells (badC .ok) 32)).heap[w6.heap.size + 1]? = some (.cells (badC .ok) 32) := alloc_new2 _ _ _
  have k6' : Below w6.heap.size w6 W6 := by rw [hW6]; exact below_setRow (((Below.refl _ _).alloc (Nat.le_refl _) _).alloc (by simp) _) (by omega) _
  have r13 : W6.heap[w6.heap.size]? = some (.cells #[.int .u8 (y0 : Nat), .int .u8 (y1 : Nat), .int .u8 (y2 : Nat), .int .u8 (y3 : Nat), .string S2] 40) := by rw [hW6, setRow_ne _ _ _ _ (by omega)]; exact alloc_old _ (alloc_new _ _)
  have r14 : W6.heap[w6.heap.size + 1]? = some (.cells (badC e3) 32) := by rw [hW6]; exact setRow_heap _ _ _ _ _ z6'
  have Z6 := hide z6'
  have HW6 := hide hW6
  have TW6 := hide ((TW5.out.below k6).below k6')
  have ER6 := hide ((ER5.out.below k6).below k6')
  have FR6 := hide ((FR5.out.below k6).below k6')
  have GR6 := hide ((GR5.out.below k6).below k6')
  have BW6 := hide ((BW5.out.trans (k6.mono BW5.out.size)).trans (k6'.mono (BW5.out.trans (k6.mono BW5.out.size)).size))
  have s3 := keepB k6' (keepB k6 R3e.out)
  have s5 := keepB k6' (keepB k6 R5e.out)
  have S6 := hide (keepB k6' (keepB k6 R6e.out))
  have S10 := hide (keepB k6' (keepB k6 R10e.out))
  have S11 := hide (keepB k6' (keepB k6 R11.out))
  have S13 := hide r13
  have S14 := hide r14
  have c0 : W6.cell? ⟨w1.heap.size, 0, none⟩ = some (.int .u8 (x0 : Nat)) := by simp [World.cell?, s3]
  have d0 : W6.cell? ⟨w2.heap.size, 0, none⟩ = some (.int .u8 (x0 : Nat)) := by simp [World.cell?, s5]
  have c1 : W6.cell? ⟨w1.heap.size, 1, none⟩ = some (.int .u8 (x1 : Nat)) := by simp [World.cell?, s3]
  have d1 : W6.cell? ⟨w2.heap.size, 1, none⟩ = some (.int .u8 (x1 : Nat)) := by simp [World.cell?, s5]
  have c2 : W6.cell? ⟨w1.heap.size, 2, none⟩ = some (.int .u8 (x2 : Nat)) := by simp [World.cell?, s3]
  have d2 : W6.cell? ⟨w2.heap.size, 2, none⟩ = some (.int .u8 (x2 : Nat)) := by simp [World.cell?, s5]
  have c3 : W6.cell? ⟨w1.heap.size, 3, none⟩ = some (.int .u8 (x3 : Nat)) := by simp [World.cell?, s3]
  have d3 : W6.cell? ⟨w2.heap.size, 3, none⟩ = some (.int .u8 (x3 : Nat)) := by simp [World.cell?, s5]
  clear k6 k6' z6' hW6 r13 r14 s3 s5 TW5 ER5 FR5 GR5 BW5 R3e R5e R6e R10e R11
  go_wp2_with (first
    | (refine wpList_store_rowW rfl 32 _ _ rfl (w6.heap.size + 1) (badC e3) rfl rfl 32 (badC .ok) Z6.out (badI e3) (by rw [badC_size, badC_size]) (badC_one _) W6 HW6.out ?_)
    | (refine wpList_load_rowG rfl 32 _ rfl (w2.heap.size + 1) rfl 32 (badC e1) (0, 0) _ S6.out Tryd.underlying32 rfl (badI e1) ?_))
  rw [← badV_badC]
  refine (is_at e1 v1 _ ER6.out).mono ?_
  rintro e w7 ⟨rfl, k7⟩
  have TW7 := hide (TW6.out.below k7)
  have FR7 := hide (FR6.out.below k7)
  have GR7 := hide (GR6.out.below k7)
  have BW7 := hide (BW6.out.trans (k7.mono BW6.out.size))
  have S10b := hide (keepB k7 S10.out)
  have S11b := hide (keepB k7 S11.out)
  have S13b := hide (keepB k7 S13.out)
  have S14b := hide (keepB k7 S14.out)
  clear k7 c0 c1 c2 c3 d0 d1 d2 d3
  go_wp2_with (first | (refine wpList_load_rowG rfl 32 _ rfl w4.heap.size rfl 32 (badC e2) (0, 0) _ S10b.out Tryd.underlying32 rfl (badI e2) ?_))
  rw [← badV_badC]
  refine (is_at e2 v2 _ FR7.out).mono ?_
  rintro e w8 ⟨rfl, k8⟩
  have TW8 := hide (TW7.out.below k8)
  have GR8 := hide (GR7.out.below k8)
  have BW8 := hide (BW7.out.trans (k8.mono BW7.out.size))
  have s11 := keepB k8 S11b.out
  have s13 := keepB k8 S13b.out
  have S14c := hide (keepB k8 S14b.out)
  have c0 : w8.cell? ⟨w5.heap.size, 0, none⟩ = some (.int .u8 (y0 : Nat)) := by simp [World.cell?, s11]
  have d0 : w8.cell? ⟨w6.heap.size, 0, none⟩ = some (.int .u8 (y0 : Nat)) := by simp [World.cell?, s13]
  have c1 : w8.cell? ⟨w5.heap.size, 1, none⟩ = some (.int .u8 (y1 : Nat)) := by simp [World.cell?, s11]
  have d1 : w8.cell? ⟨w6.heap.size, 1, none⟩ = some (.int .u8 (y1 : Nat)) := by simp [World.cell?, s13]
  have c2 : w8.cell? ⟨w5.heap.size, 2, none⟩ = some (.int .u8 (y2 : Nat)) := by simp [World.cell?, s11]
  have d2 : w8.cell? ⟨w6.heap.size, 2, none⟩ = some (.int .u8 (y2 : Nat)) := by simp [World.cell?, s13]
  have c3 : w8.cell? ⟨w5.heap.size, 3, none⟩ = some (.int .u8 (y3 : Nat)) := by simp [World.cell?, s11]
  have d3 : w8.cell? ⟨w6.heap.size, 3, none⟩ = some (.int .u8 (y3 : Nat)) := by simp [World.cell?, s13]
  have c4 : w8.cell? ⟨w5.heap.size, 4, none⟩ = some (.string S2) := by simp [World.cell?, s11]
  have d4 : w8.cell? ⟨w6.heap.size, 4, none⟩ = some (.string S2) := by simp [World.cell?, s13]
  clear k8 s11 s13
  go_wp2_with (first | (refine wpList_load_rowG rfl 32 _ rfl (w6.heap.size + 1) rfl 32 (badC e3) (0, 0) _ S14c.out Tryd.underlying32 rfl (badI e3) ?_))
  rw [← badV_badC]
  refine (is_at e3 v3 _ GR8.out).mono ?_
  rintro e w9 ⟨rfl, k9⟩
  have TW9 := hide (TW8.out.below k9)
  have BW9 := hide (BW8.out.trans (k9.mono BW8.out.size))
  clear k9 c0 c1 c2 c3 c4 d0 d1 d2 d3 d4
  go_wp2_with fail
  refine (works_at _ TW9.out).mono ?_
  rintro e wA ⟨rfl, kA⟩
  have BWA := hide (BW9.out.trans (kA.mono BW9.out.size))
  clear kA
  go_wp2_with fail
  go_ret
  exact ⟨rfl, BWA.out⟩
end Go.Proofs.YtfjglcihlkmpnaaDoor
