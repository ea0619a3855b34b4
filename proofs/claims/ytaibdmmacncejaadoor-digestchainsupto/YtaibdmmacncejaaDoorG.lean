/-
  A Digest in memory, and what follows its message ('ending' of package digest); conditions as each theorem has them.
-/
import Derived.Test.YtaibdmmacncejaaDoorF
set_option linter.unusedSimpArgs false
set_option linter.unusedVariables false
namespace Go.Proofs.YtaibdmmacncejaaDoor
open Go.RowKit

theorem info5p : ∃ i, Tryd.prog.info? 5 = some i ∧ i.zero = some (.int .u8 0) ∧ i.size = 1 ∧ i.bytes = 1 := info_parts info5'
/-- The operation 'append' for the walk, where its run is known by an equation. -/
theorem wpList_app_run {P : Program} (w : World) {ops : Array Oper} {rest : List Oper} {o : Oper} {a : Act} {Q : Exit → Act → World → Prop} (hgd : o.guard = none) (d s : Operand) (t t' : TypeId)
    (ho : o.op = .call { callee := .builtin .append, args := #[d, s], argTypes := #[t, t'] }) (v u : Value) (hd : a.eval d = v) (hs : a.eval s = u) {v' : Value} {w' : World}
    (hr : (Builtin.append_ #[t, t'] o.type #[v, u]).run P w = .ok v' w') (h : wpList P ops Q rest (a.put o.dst v') w') : wpList P ops Q (o :: rest) a w := by
  refine wpList_plain hgd fun K hK => ?_
  unfold Oper.wp execOp
  simp only [ho, resolve, invoke, builtin, Sem.run_bind, Sem.run_pure, Result.andThen_ok, List.map_toArray, List.map_cons, List.map_nil, hd, hs, hr]
  exact hK _ _ h

/-- The cells of a Digest. -/
def dcells (s : St) (p : List Nat) (c : Nat) : List Value := [.bool true] ++ nums .u32 s.list ++ (nums .u8 p ++ [.int .u64 (c : Nat)])
theorem dcells_part (s : St) (p : List Nat) (c : Nat) : dcells s p c = ([.bool true] ++ nums .u32 s.list) ++ nums .u8 p ++ [.int .u64 (c : Nat)] := by simp [dcells]
theorem dcells_length (s : St) (p : List Nat) (c : Nat) (h : p.length = 64) : (dcells s p c).length = 74 := by simp [dcells, nums_length, h, St.list]
theorem dcells_made {w : World} {r : Nat} {s : St} {p : List Nat} {c : Nat} (h : Row w r 43 (dcells s p c)) : w.cell? ⟨r, 0, none⟩ = some (.bool true) := by rw [h.cell]; rfl
theorem dcells_count {w : World} {r : Nat} {s : St} {p : List Nat} {c : Nat} (h : Row w r 43 (dcells s p c)) (hp : p.length = 64) : w.cell? ⟨r, 73, none⟩ = some (.int .u64 c) := by
  rw [h.cell, dcells_part, List.getElem?_append_right (by simp [nums_length, hp, St.list])]
  simp [nums_length, hp, St.list]
theorem dcells_setCount {w : World} {r : Nat} {s : St} {p : List Nat} {c : Nat} (h : Row w r 43 (dcells s p c)) (hp : p.length = 64) (x : Nat) : Row (w.setCell ⟨r, 73, none⟩ (.int .u64 x)) r 43 (dcells s p x) := by
  have := h.set 73 (.int .u64 x)
  rw [dcells_part, List.set_append_right _ _ (by simp [nums_length, hp, St.list])] at this
  simpa [nums_length, hp, St.list, dcells_part] using this
theorem dcells_one (s : St) (p : List Nat) (c : Nat) : (dcells s p c).toArray.all (·.oneCell') = true := by
  rw [Array.all_eq_true_iff_forall_mem]
  intro v hv
  simp only [dcells, List.mem_toArray, List.mem_append, List.mem_singleton] at hv
  rcases hv with (rfl | hv) | hv | rfl
  · rfl
  · exact nums_one _ _ v hv
  · exact nums_one _ _ v hv
  · rfl

/-- A Digest that New made, to which the bytes m were added. -/
structure IsDig (w : World) (r : Nat) (m : List Nat) : Prop where
  mem : ∃ p, p.length = 64 ∧ Row w r 43 (dcells (eat m (m.length / 64)) p m.length) ∧ p.take (m.length % 64) = m.drop (64 * (m.length / 64)) ∧ ∀ i, p.getD i 0 < 256
  byte : ∀ x ∈ m, x < 256
  two : 2 ≤ r
theorem IsDig.keep {w w' : World} {r : Nat} {m : List Nat} (h : IsDig w r m) (e : w'.heap[r]? = w.heap[r]?) : IsDig w' r m := by
  obtain ⟨p, h1, h2, h3, h4⟩ := h.mem
  exact ⟨⟨p, h1, h2.keep e, h3, h4⟩, h.byte, h.two⟩
theorem IsDig.lt {w : World} {r : Nat} {m : List Nat} (h : IsDig w r m) : r < w.heap.size := by obtain ⟨p, h1, h2, h3, h4⟩ := h.mem; exact h2.lt

theorem run_make_cap (l c : Nat) (hlc : l ≤ c) (hc : c ≤ 140737488355328) (w : World) : (Instr.makeSlice 28 (.int .i64 l) (.int .i64 c)).run Tryd.prog w = .ok (.slice (some ⟨w.heap.size, 0, none⟩) l c) (w.alloc (.cells (nums .u8 (List.replicate c 0)).toArray 5)) := by
  obtain ⟨i, hi, hz, hs, hb⟩ := info5p
  have hr := run_make (P := Tryd.prog) w 28 5 i (.int .u8 0) Tryd.underlying28 hi hz .i64 .i64 l c (by omega) (by omega) (by rw [hb]; omega) (by omega)
  simp only [Int.toNat_natCast, hs, Nat.mul_one] at hr
  rw [hr]
  have e : madeCells (Value.int .u8 0).cells c = (nums .u8 (List.replicate c 0)).toArray := by
    show madeCells #[Value.int .u8 0] c = _
    rw [← Array.toList_inj, toList_madeCells_one]
    simp [nums]
  rw [e]

/-- 'append' of bytes where there is just as much room as they want. -/
theorem run_app_room (w : World) (g n m : Nat) (a b : List Nat) (ha : a.length = n) (hb : b.length = m) (z : List Nat) (hz : z.length = m) (hg : Row w g 5 (nums .u8 (a ++ z))) (h : Nat) (hh : Row w h 5 (nums .u8 b)) :
    (Builtin.append_ #[28, 28] 28 #[.slice (some ⟨g, 0, none⟩) n (n + m), .slice (some ⟨h, 0, none⟩) m m]).run Tryd.prog w = .ok (.slice (some ⟨g, 0, none⟩) (n + m) (n + m)) (w.setRow g (nums .u8 (a ++ b)).toArray) := by
  obtain ⟨i, hi, hz0, hs, hby⟩ := info5p
  have := run_append_room (P := Tryd.prog) w 28 28 5 i Tryd.underlying28 hi g n (n + m) (nums .u8 (a ++ z)).toArray hg ⟨h, 0, none⟩ m m (nums .u8 b) (by rw [nums_length, hs, hb]; omega)
    (fun j u hu => by
      obtain ⟨hj, rfl⟩ := nums_at _ _ _ _ hu
      rw [add_none, Nat.zero_add]
      exact hh.num0 hj) (nums_one _ _) (Nat.le_refl _) (by rw [hs, nums_length]; simp [nums_length, ha, hb, hz])
  rw [this]
  congr 3
  rw [hs, Nat.mul_one, nums_append, nums_append]
  have l1 : (nums .u8 a).length = n := by rw [nums_length, ha]
  have l2 : (nums .u8 z).length = m := by rw [nums_length, hz]
  have l3 : (nums .u8 b).length = m := by rw [nums_length, hb]
  simp [← l1, l3, ← l2]

set_option maxHeartbeats 1000000 in
theorem ending_at (r : Nat) (m : List Nat) (w : World) (h : IsDig w r m) (hl : m.length < 1152921504606846976) :
    Calls Tryd.prog 27 #[.pointer (some ⟨r, 0, none⟩)] w fun e w' => e = .returned (.slice (some ⟨w.heap.size, 0, none⟩) (pad m.length).length (pad m.length).length) ∧ Row w' w.heap.size 5 (nums .u8 (pad m.length)) ∧ Below w.heap.size w w' := by
  obtain ⟨p, h1, h2, h3, h4⟩ := h.mem
  have c73 := dcells_count h2 h1
  have hr := h2.lt
  obtain ⟨z, hz⟩ : ∃ z, z = zerosN m.length := ⟨_, rfl⟩
  obtain ⟨c, hc⟩ : ∃ c, c = m.length := ⟨_, rfl⟩
  rw [← hc] at c73 hl hz ⊢
  have hzz : z ≤ 63 := by rw [hz, zerosN]; omega
  obtain ⟨f, hf⟩ : ∃ f, f = c % 64 := ⟨_, rfl⟩
  have hf64 : f < 64 := by omega
  have e63 : (63 : Int) - ((f : Int) + 8) % 64 = z := by rw [hz, zerosN]; omega
  have hfl := fun w h => filled_at r c w h (by omega)
  rw [← hf] at hfl
  obtain ⟨z1, hz1⟩ : ∃ z1, z1 = 1 + z := ⟨_, rfl⟩
  obtain ⟨z9, hz9⟩ : ∃ z9, z9 = 1 + z + 8 := ⟨_, rfl⟩
  have q1 : (1 : Int) + z = z1 := by omega
  have q9 : (z1 : Int) + 8 = z9 := by omega
  have hmk := run_make_cap z1 z9 (by omega) (by omega)
  obtain ⟨Z, hZ⟩ : ∃ Z, Z = (nums .u8 (List.replicate z9 0)).toArray := ⟨_, rfl⟩
  rw [← hZ] at hmk
  obtain ⟨W1, hW1⟩ : ∃ W1, W1 = w.alloc (.cells Z 5) := ⟨_, rfl⟩
  have hr1 : Row W1 w.heap.size 5 (nums .u8 (List.replicate z9 0)) := by
    rw [hW1]
    have := Row.new w Z 5
    rw [hZ] at this ⊢
    exact this
  have ea : W1.cell? ⟨w.heap.size, 0, none⟩ = some (.int .u8 0) := by
    have := hr1.num0 (j := 0) (by rw [List.length_replicate]; omega)
    rw [this]
    obtain ⟨q, rfl⟩ : ∃ q, z9 = q + 1 := ⟨z9 - 1, by omega⟩
    rfl
  have ef : W1.frozen? ⟨w.heap.size, 0, none⟩ = false := hr1.frozen 0
  have hsz1 : W1.heap.size = w.heap.size + 1 := by rw [hW1]; simp
  obtain ⟨W2, hW2⟩ : ∃ W2, W2 = W1.setCell ⟨w.heap.size, 0, none⟩ (.int .u8 128) := ⟨_, rfl⟩
  have hr2 : Row W2 w.heap.size 5 (nums .u8 ((128 :: List.replicate z 0) ++ List.replicate 8 0)) := by
    rw [hW2]
    have := hr1.setNum0 0 128
    have e : (List.replicate z9 0).set 0 128 = (128 :: List.replicate z 0) ++ List.replicate 8 0 := by
      rw [show z9 = (z + 8) + 1 by omega, List.replicate_succ, List.set_cons_zero, List.cons_append, List.replicate_append_replicate]
    rwa [e] at this
  have hb2 : Below w.heap.size w W2 := by rw [hW2, hW1]; exact (((Kept.refl w.heap.size w.heap.size w).alloc _).set _ _).below (Nat.le_refl _) (Nat.le_refl _) (Nat.le_refl _)
  have hsz2 : W2.heap.size = w.heap.size + 1 := by rw [hW2]; simp [World.setCell, hsz1]
  have c73' : W2.cell? ⟨r, 73, none⟩ = some (.int .u64 c) := (hb2.cell (p := ⟨r, 73, none⟩) hr).trans c73
  have hmk' : (Instr.makeSlice 28 (.int .i64 z1) (.int .i64 z9)).run Tryd.prog w = .ok (.slice (some ⟨w.heap.size, 0, none⟩) z1 z9) W1 := by rw [hmk, hW1]
  have hst : W1.setCell ⟨w.heap.size, 0, none⟩ (.int .u8 128) = W2 := hW2.symm
  have hl1 : (1 : Int) ≤ z1 := by omega
  obtain ⟨c8, hc8⟩ : ∃ c8, c8 = c * 8 := ⟨_, rfl⟩
  have q8 : (c : Int) * 8 = c8 := by omega
  have HC8 := hide hc8
  have hc8l : c8 < 18446744073709551616 := by omega
  have HB2 := hide hb2
  have HR2 := hide hr2
  have HZ := hide hz
  have HZ1 := hide hz1
  have HZ9 := hide hz9
  have H2 := hide h2
  clear hz h hf hc hz1 hz9 h2 h3 h4 h1 hmk hW1 hW2 hr1 hr2 hb2 hZ hc8
  go_enter Tryd.func27, Tryd.ntmps27
  go_wp2_with fail
  refine (hfl _ c73).mono ?_
  rintro e w1 ⟨rfl, rfl⟩
  go_wp2_with fail
  refine (hf_at c8 8 _ hc8l (by omega)).mono ?_
  rintro e w3 ⟨rfl, r3, b3⟩
  rw [hsz2] at r3 b3
  have r2 : Row w3 w.heap.size 5 (nums .u8 ((128 :: List.replicate z 0) ++ List.replicate 8 0)) := HR2.out.below b3 (by omega)
  have hap := run_app_room w3 w.heap.size z1 8 (128 :: List.replicate z 0) (hf c8 8) (by rw [List.length_cons, List.length_replicate, HZ1.out]; omega) (hf_length _ _) (List.replicate 8 0) (by simp) r2 (w.heap.size + 1) r3
  rw [show z1 + 8 = z9 by rw [HZ1.out, HZ9.out]] at hap
  obtain ⟨W4, hW4⟩ : ∃ W4, W4 = w3.setRow w.heap.size (nums .u8 (128 :: List.replicate z 0 ++ hf c8 8)).toArray := ⟨_, rfl⟩
  rw [← hW4] at hap
  have HW4 := hide hW4
  have HAP := hide hap
  have B3 := hide b3
  have R2 := hide r2
  clear hW4 hap b3 r2 r3
  go_wp2_with (refine wpList_app_run _ rfl _ _ 28 28 rfl _ _ rfl rfl HAP.out ?_)
  go_ret
  have ep : pad c = 128 :: List.replicate z 0 ++ hf c8 8 := by rw [pad, HZ.out, HC8.out]; rfl
  have el : (pad c).length = z9 := by rw [pad_length, HZ9.out, HZ.out]; omega
  rw [el]
  refine ⟨rfl, ?_, ?_⟩
  · rw [HW4.out, ep]
    exact setRow_heap _ _ _ _ _ _ R2.out
  · rw [HW4.out]
    exact (HB2.out.trans (B3.out.mono (by omega))).trans (((Kept.refl w.heap.size w.heap.size w3).setRow (Or.inl rfl) _).below (Nat.le_refl _) (Nat.le_refl _) (by have := B3.out.size; omega))
end Go.Proofs.YtaibdmmacncejaaDoor
