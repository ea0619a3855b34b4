/-
  HostDests' walk; conditions as each theorem has them.
-/
import Derived.Test.YtfjglcihlkmpnaaDoorY
set_option linter.unusedSimpArgs false
set_option linter.unusedVariables false
namespace Go.Proofs.YtfjglcihlkmpnaaDoor
open Go.RowKit

theorem dest_len (l : List Nat) : (dest l).1.1.1.length = 4 := by
  unfold dest
  split
  · rfl
  · split
    · rfl
    · rename_i c _
      have h := host_len (l.take c)
      split
      · rename_i H heq
        rw [heq] at h
        split
        · exact h
        · rfl
      · rfl

set_option maxRecDepth 100000 in
set_option maxHeartbeats 8000000 in
theorem dests_walk (t : ByteArray) (w : World) (hT : Tabs w) (hm : t.size ≤ maxLen) (_ : t.size ≤ 140737488355328) : Calls Tryd.prog 4 #[.string t] w fun e w' => e = .returned (.bool true) ∧ Below w.heap.size w w' := by
  obtain ⟨x0, x1, x2, x3, hA⟩ := four (dest_len (byt t))
  obtain ⟨q, hq⟩ : ∃ q, q = (port (byt t)).1 := ⟨_, rfl⟩
  obtain ⟨e1, he1⟩ : ∃ e, e = (port (byt t)).2 := ⟨_, rfl⟩
  obtain ⟨e2, he2⟩ : ∃ e, e = (dest (byt t)).2 := ⟨_, rfl⟩
  obtain ⟨S, hS⟩ : ∃ S, S = strN (dest (byt t)).1.1.2 := ⟨_, rfl⟩
  obtain ⟨p, hp⟩ : ∃ p, p = (dest (byt t)).1.2 := ⟨_, rfl⟩
  have hde : deC (dest (byt t)).1 = #[.int .u8 (x0 : Nat), .int .u8 (x1 : Nat), .int .u8 (x2 : Nat), .int .u8 (x3 : Nat), .string S, .int .i64 (p : Nat)] := by
    unfold deC; rw [hA, hS, hp]; rfl
  have H17 : Hid (∀ W, Calls Tryd.prog 17 #[.string t] W fun e w' => ∃ v, e = .returned (.tuple #[.int .i64 (q : Nat), v]) ∧ IsEr w' e1 v ∧ Below W.heap.size W w') := fun W => by rw [he1, hq]; exact parsePort_at t W hm
  have H18 : Hid (∀ W, Calls Tryd.prog 18 #[.string t] W fun e w' => e = .returned (.tuple #[.int .i64 (q : Nat), .agg (badC e1)]) ∧ Below W.heap.size W w') := fun W => by rw [he1, hq, ← badV_badC]; exact rparsePort_at t W hm
  have H19 : Hid (∀ W, Tabs W → Calls Tryd.prog 19 #[.string t] W fun e w' => ∃ v, e = .returned (.tuple #[.agg #[.int .u8 (x0 : Nat), .int .u8 (x1 : Nat), .int .u8 (x2 : Nat), .int .u8 (x3 : Nat), .string S, .int .i64 (p : Nat)], v]) ∧ IsEr w' e2 v ∧ Below W.heap.size W w') := fun W hW => by rw [he2, ← hde]; exact parseDest_at t W hm hW.v hW.e
  have H20 : Hid (∀ W, Calls Tryd.prog 20 #[.string t] W fun e w' => e = .returned (.tuple #[.agg #[.int .u8 (x0 : Nat), .int .u8 (x1 : Nat), .int .u8 (x2 : Nat), .int .u8 (x3 : Nat), .string S, .int .i64 (p : Nat)], .agg (badC e2)]) ∧ Below W.heap.size W w') := fun W => by rw [he2, ← hde, ← badV_badC]; exact rparseDest_at t W hm
  have HT := hide hT
  clear hA hq he1 he2 hS hp hde hT hm
  go_enter Tryd.func4, Tryd.ntmps4
  go_wp2_with fail
  refine (H17.out _).mono ?_
  rintro e w1 ⟨v1, rfl, er1, k1⟩
  have T1 := hide (HT.out.below k1)
  have ER1 := hide er1
  have B1 := hide k1
  clear k1 er1
  go_wp2_with fail
  refine (H18.out _).mono ?_
  rintro e w2 ⟨rfl, k2⟩
  obtain ⟨W2, hW2⟩ : ∃ W2, W2 = (w2.alloc (.cells (badC .ok) 32)).setRow w2.heap.size (badC e1) := ⟨_, rfl⟩
  have z2 : (w2.alloc (.cells (badC .ok) 32)).heap[w2.heap.size]? = some (.cells (badC .ok) 32) := alloc_new _ _
  have k2' : Below w2.heap.size w2 W2 := by rw [hW2]; exact below_setRow ((Below.refl _ _).alloc (Nat.le_refl _) _) (by omega) _
  have r6 : W2.heap[w2.heap.size]? = some (.cells (badC e1) 32) := by rw [hW2]; exact setRow_heap _ _ _ _ _ z2
  have Z2 := hide z2
  have HW2 := hide hW2
  have T2 := hide ((T1.out.below k2).below k2')
  have ER2 := hide ((ER1.out.below k2).below k2')
  have B2 := hide ((B1.out.trans (k2.mono B1.out.size)).trans (k2'.mono (B1.out.trans (k2.mono B1.out.size)).size))
  have R6 := hide r6
  clear k2 k2' z2 hW2 r6 T1 ER1 B1
  go_wp2_with (first | (refine wpList_store_rowW rfl 32 _ _ rfl w2.heap.size (badC e1) rfl rfl 32 (badC .ok) Z2.out (badI e1) (by simp [badC_size]) (badC_one _) W2 HW2.out ?_))
  refine (H19.out _ T2.out).mono ?_
  rintro e w3 ⟨v2, rfl, er2, k3⟩
  obtain ⟨W3, hW3⟩ : ∃ W3, W3 = w3.alloc (.cells #[.int .u8 (x0 : Nat), .int .u8 (x1 : Nat), .int .u8 (x2 : Nat), .int .u8 (x3 : Nat), .string S, .int .i64 (p : Nat)] 53) := ⟨_, rfl⟩
  have k3' : Below w3.heap.size w3 W3 := by rw [hW3]; exact (Below.refl _ _).alloc (Nat.le_refl _) _
  have r7 : W3.heap[w3.heap.size]? = some (.cells #[.int .u8 (x0 : Nat), .int .u8 (x1 : Nat), .int .u8 (x2 : Nat), .int .u8 (x3 : Nat), .string S, .int .i64 (p : Nat)] 53) := by rw [hW3]; exact alloc_new _ _
  have HW3 : Hid (w3.alloc (.cells #[.int .u8 (x0 : Nat), .int .u8 (x1 : Nat), .int .u8 (x2 : Nat), .int .u8 (x3 : Nat), .string S, .int .i64 (p : Nat)] 53) = W3) := hW3.symm
  have T3 := hide ((T2.out.below k3).below k3')
  have ER3 := hide ((ER2.out.below k3).below k3')
  have FR3 := hide (er2.below k3')
  have B3 := hide ((B2.out.trans (k3.mono B2.out.size)).trans (k3'.mono (B2.out.trans (k3.mono B2.out.size)).size))
  have R6b := hide (keepB k3' (keepB k3 R6.out))
  have R7 := hide r7
  clear k3 k3' hW3 r7 er2 T2 ER2 B2 R6
  go_wp2_with fail
  rw [HW3.out]
  refine (H20.out _).mono ?_
  rintro e w4 ⟨rfl, k4⟩
  obtain ⟨W4, hW4⟩ : ∃ W4, W4 = ((w4.alloc (.cells #[.int .u8 (x0 : Nat), .int .u8 (x1 : Nat), .int .u8 (x2 : Nat), .int .u8 (x3 : Nat), .string S, .int .i64 (p : Nat)] 53)).alloc (.cells (badC .ok) 32)).setRow (w4.heap.size + 1) (badC e2) := ⟨_, rfl⟩
  have z4' : ((w4.alloc (.cells #[.int .u8 (x0 : Nat), .int .u8 (x1 : Nat), .int .u8 (x2 : Nat), .int .u8 (x3 : Nat), .string S, .int .i64 (p : Nat)] 53)).alloc (.cells (badC .ok) 32)).heap[w4.heap.size + 1]? = some (.cells (badC .ok) 32) := alloc_new2 _ _ _
  have k4' : Below w4.heap.size w4 W4 := by rw [hW4]; exact below_setRow (((Below.refl _ _).alloc (Nat.le_refl _) _).alloc (by simp) _) (by omega) _
  have r9 : W4.heap[w4.heap.size]? = some (.cells #[.int .u8 (x0 : Nat), .int .u8 (x1 : Nat), .int .u8 (x2 : Nat), .int .u8 (x3 : Nat), .string S, .int .i64 (p : Nat)] 53) := by rw [hW4, setRow_ne _ _ _ _ (by omega)]; exact alloc_old _ (alloc_new _ _)
  have r10 : W4.heap[w4.heap.size + 1]? = some (.cells (badC e2) 32) := by rw [hW4]; exact setRow_heap _ _ _ _ _ z4'
  have Z4 := hide z4'
  have HW4 := hide hW4
  have T4 := hide ((T3.out.below k4).below k4')
  have ER4 := hide ((ER3.out.below k4).below k4')
  have FR4 := hide ((FR3.out.below k4).below k4')
  have B4 := hide ((B3.out.trans (k4.mono B3.out.size)).trans (k4'.mono (B3.out.trans (k4.mono B3.out.size)).size))
  have S6 := hide (keepB k4' (keepB k4 R6b.out))
  have S7 := hide (keepB k4' (keepB k4 R7.out))
  have S9 := hide r9
  have S10 := hide r10
  clear k4 k4' z4' hW4 r9 r10 T3 ER3 FR3 B3 R6b R7
  have hqq : ((q : Int) == (q : Int)) = true := by simp
  go_wp2_with (first
    | (refine wpList_store_rowW rfl 32 _ _ rfl (w4.heap.size + 1) (badC e2) rfl rfl 32 (badC .ok) Z4.out (badI e2) (by simp [badC_size]) (badC_one _) W4 HW4.out ?_)
    | (refine wpList_load_rowG rfl 32 _ rfl w2.heap.size rfl 32 (badC e1) (0, 0) _ S6.out Tryd.underlying32 rfl (badI e1) ?_))
  rw [← badV_badC]
  refine (is_at e1 v1 _ ER4.out).mono ?_
  rintro e w7 ⟨rfl, k7⟩
  have T7 := hide (T4.out.below k7)
  have FR7 := hide (FR4.out.below k7)
  have B7 := hide (B4.out.trans (k7.mono B4.out.size))
  have s7 := keepB k7 S7.out
  have s9 := keepB k7 S9.out
  have S10b := hide (keepB k7 S10.out)
  have c0 : w7.cell? ⟨w3.heap.size, 0, none⟩ = some (.int .u8 (x0 : Nat)) := by simp [World.cell?, s7]
  have d0 : w7.cell? ⟨w4.heap.size, 0, none⟩ = some (.int .u8 (x0 : Nat)) := by simp [World.cell?, s9]
  have c1 : w7.cell? ⟨w3.heap.size, 1, none⟩ = some (.int .u8 (x1 : Nat)) := by simp [World.cell?, s7]
  have d1 : w7.cell? ⟨w4.heap.size, 1, none⟩ = some (.int .u8 (x1 : Nat)) := by simp [World.cell?, s9]
  have c2 : w7.cell? ⟨w3.heap.size, 2, none⟩ = some (.int .u8 (x2 : Nat)) := by simp [World.cell?, s7]
  have d2 : w7.cell? ⟨w4.heap.size, 2, none⟩ = some (.int .u8 (x2 : Nat)) := by simp [World.cell?, s9]
  have c3 : w7.cell? ⟨w3.heap.size, 3, none⟩ = some (.int .u8 (x3 : Nat)) := by simp [World.cell?, s7]
  have d3 : w7.cell? ⟨w4.heap.size, 3, none⟩ = some (.int .u8 (x3 : Nat)) := by simp [World.cell?, s9]
  have c4 : w7.cell? ⟨w3.heap.size, 4, none⟩ = some (.string S) := by simp [World.cell?, s7]
  have d4 : w7.cell? ⟨w4.heap.size, 4, none⟩ = some (.string S) := by simp [World.cell?, s9]
  have c5 : w7.cell? ⟨w3.heap.size, 5, none⟩ = some (.int .i64 (p : Nat)) := by simp [World.cell?, s7]
  have d5 : w7.cell? ⟨w4.heap.size, 5, none⟩ = some (.int .i64 (p : Nat)) := by simp [World.cell?, s9]
  clear k7 s7 s9
  go_wp2_with (first | (refine wpList_load_rowG rfl 32 _ rfl (w4.heap.size + 1) rfl 32 (badC e2) (0, 0) _ S10b.out Tryd.underlying32 rfl (badI e2) ?_))
  rw [← badV_badC]
  refine (is_at e2 v2 _ FR7.out).mono ?_
  rintro e w9 ⟨rfl, k9⟩
  have T9 := hide (T7.out.below k9)
  have B9 := hide (B7.out.trans (k9.mono B7.out.size))
  clear k9
  go_wp2_with fail
  refine (works_at _ T9.out).mono ?_
  rintro e wA ⟨rfl, kA⟩
  have BA := hide (B9.out.trans (kA.mono B9.out.size))
  clear kA
  go_wp2_with fail
  go_ret
  exact ⟨rfl, BA.out⟩
end Go.Proofs.YtfjglcihlkmpnaaDoor
