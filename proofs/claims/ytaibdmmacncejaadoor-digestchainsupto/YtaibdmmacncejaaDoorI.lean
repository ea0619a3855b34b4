/-
  A new Digest, and its digest ('New' and 'Sum' of package digest); conditions as each theorem has them.
-/
import Derived.Test.YtaibdmmacncejaaDoorH
set_option linter.unusedSimpArgs false
set_option linter.unusedVariables false
namespace Go.Proofs.YtaibdmmacncejaaDoor
open Go.RowKit

theorem built43 : Tryd.prog.built 43 [(0, .bool true), (1, .agg #[.int .u32 1779033703, .int .u32 3144134277, .int .u32 1013904242, .int .u32 2773480762, .int .u32 1359893119, .int .u32 2600822924, .int .u32 528734635, .int .u32 1541459225])] = some (dcells h0 (List.replicate 64 0) 0).toArray := by kernel_rfl
theorem info38 : (Tryd.prog.info? 38).map (·.size) = some 8 := by kernel_rfl
theorem info43 : (Tryd.prog.info? 43).map (·.size) = some 74 := by kernel_rfl
def zd : Array Value := ([Value.bool false] ++ nums .u32 (List.replicate 8 0) ++ (nums .u8 (List.replicate 64 0) ++ [Value.int .u64 0])).toArray
theorem zero43 (w : World) : (zeroValue 43).run Tryd.prog w = .ok (.agg zd) w := by kernel_rfl

theorem wpList_built {P : Program} {ops : Array Oper} {rest : List Oper} {o : Oper} {a : Act} {w : World} {Q : Exit → Act → World → Prop} (hg : o.guard = none) (t : TypeId) (parts : Array (Nat × Operand)) (ho : o.op = .build t parts) (cells : Array Value)
    (hb : P.built t (parts.map fun (i, x) => (i, a.eval x)).toList = some cells) (h : wpList P ops Q rest (a.put o.dst (.agg cells)) w) : wpList P ops Q (o :: rest) a w :=
  wpList_build hg t parts ho (by rw [hb]; rfl) (by rw [hb]; exact h)

set_option maxRecDepth 100000 in
set_option maxHeartbeats 1000000 in
theorem new_at (w : World) (hT : Tabs w) : Calls Tryd.prog 13 #[] w fun e w' => e = .returned (.pointer (some ⟨w.heap.size, 0, none⟩)) ∧ IsDig w' w.heap.size [] ∧ Below w.heap.size w w' := by
  have h2 := hT.size
  have HT := hide hT
  clear hT
  obtain ⟨D, hD⟩ : ∃ D, D = (dcells h0 (List.replicate 64 0) 0).toArray := ⟨_, rfl⟩
  have f0 : w.cell? ⟨0, 0, none⟩ = some (.int .u32 1779033703) := HT.out.first 0 (by omega)
  have f1 : w.cell? ⟨0, 1, none⟩ = some (.int .u32 3144134277) := HT.out.first 1 (by omega)
  have f2 : w.cell? ⟨0, 2, none⟩ = some (.int .u32 1013904242) := HT.out.first 2 (by omega)
  have f3 : w.cell? ⟨0, 3, none⟩ = some (.int .u32 2773480762) := HT.out.first 3 (by omega)
  have f4 : w.cell? ⟨0, 4, none⟩ = some (.int .u32 1359893119) := HT.out.first 4 (by omega)
  have f5 : w.cell? ⟨0, 5, none⟩ = some (.int .u32 2600822924) := HT.out.first 5 (by omega)
  have f6 : w.cell? ⟨0, 6, none⟩ = some (.int .u32 528734635) := HT.out.first 6 (by omega)
  have f7 : w.cell? ⟨0, 7, none⟩ = some (.int .u32 1541459225) := HT.out.first 7 (by omega)
  have hbu : Tryd.prog.built 43 [(0, .bool true), (1, .agg #[.int .u32 1779033703, .int .u32 3144134277, .int .u32 1013904242, .int .u32 2773480762, .int .u32 1359893119, .int .u32 2600822924, .int .u32 528734635, .int .u32 1541459225])] = some D := by rw [hD]; exact built43
  have HD := hide hD
  have HBU := hide hbu
  clear hD hbu
  go_enter Tryd.func13, Tryd.ntmps13
  go_wp2_with (refine wpList_built rfl 43 _ rfl D ?_ ?_; (simp [Act.eval]; exact HBU.out))
  go_ret
  refine ⟨rfl, ?_, (Below.refl _ _).alloc (Nat.le_refl _) _⟩
  refine ⟨⟨List.replicate 64 0, by simp, ?_, rfl, fun i => ?_⟩, fun x hx => (by cases hx), h2⟩
  · have := Row.new w D 43
    rw [HD.out] at this ⊢
    exact this
  · apply getD_lt
    intro x hx
    rw [List.eq_of_mem_replicate hx]; omega

theorem pad_byte (l : Nat) : ∀ x ∈ pad l, x < 256 := by
  intro x hx
  simp only [pad, List.mem_cons, List.mem_append] at hx
  rcases hx with rfl | hx | hx
  · omega
  · rw [List.eq_of_mem_replicate hx]; omega
  · simp only [hf, List.mem_map] at hx
    obtain ⟨i, _, rfl⟩ := hx
    omega
theorem Row.src {w : World} {g n : Nat} {l : List Nat} (h : Row w g 5 (nums .u8 l)) (hb : ∀ x ∈ l, x < 256) (hn : l.length = n) (hm : n ≤ maxLen) : Src w (some ⟨g, 0, none⟩) n n l :=
  ⟨hn, Nat.le_refl _, hm, fun e => (by cases e), fun h0 => ⟨g, 0, rfl, h.lt, fun i hi => by rw [Nat.zero_add]; exact h.num0 (by omega)⟩, hb⟩

theorem IsDig.words {w : World} {r : Nat} {m : List Nat} (h : IsDig w r m) : ∀ j, j < 8 → w.cell? ⟨r, 1 + j, none⟩ = some (.int .u32 ((eat m (m.length / 64)).list.getD j 0 : Nat)) := by
  obtain ⟨p, p1, p2, p3, p4⟩ := h.mem
  intro j hj
  exact p2.num (by simp) (by rw [St.list_length]; exact hj)

set_option maxRecDepth 100000 in
set_option maxHeartbeats 1000000 in
theorem dsum_at (r : Nat) (m : List Nat) (w : World) (hT : Tabs w) (h : IsDig w r m) (hl : m.length < 576460752303423488) :
    Calls Tryd.prog 16 #[.pointer (some ⟨r, 0, none⟩)] w fun e w' => e = .returned (.agg (nums .u8 (dig m)).toArray) ∧ Below w.heap.size w w' := by
  obtain ⟨p, p1, p2, p3, p4⟩ := h.mem
  have hr := p2.lt
  have hbyte := h.byte
  obtain ⟨D, hD⟩ : ∃ D, D = (dcells (eat m (m.length / 64)) p m.length).toArray := ⟨_, rfl⟩
  have hsz : D.size = 74 := by rw [hD]; simpa using dcells_length _ _ _ p1
  have hone : D.all (·.oneCell') = true := by rw [hD]; exact dcells_one _ _ _
  have hg : w.heap[r]? = some (.cells D 43) := by rw [hD]; exact p2
  have c0 := dcells_made p2
  obtain ⟨W1, hW1⟩ : ∃ W1, W1 = w.alloc (.cells z32 24) := ⟨_, rfl⟩
  have hs1 : W1.heap.size = w.heap.size + 1 := by rw [hW1]; simp
  have hg1 : W1.heap[r]? = some (.cells D 43) := by rw [hW1]; exact alloc_old _ hg
  have c1 : W1.cell? ⟨r, 0, none⟩ = some (.bool true) := by rw [hW1]; exact (Below.cell ((Below.refl w.heap.size w).alloc (Nat.le_refl _) _) (p := ⟨r, 0, none⟩) hr).trans c0
  obtain ⟨W2, hW2⟩ : ∃ W2, W2 = (W1.alloc (.cells zd 43)).setRow (w.heap.size + 1) D := ⟨_, rfl⟩
  have hb2 : Below w.heap.size w W2 := by
    rw [hW2, hW1]
    exact ((((Kept.refl w.heap.size (w.heap.size + 1) w).alloc _).alloc _).setRow (Or.inr rfl) _).below (Nat.le_refl _) (by omega) (Nat.le_refl _)
  have hn1 : (W1.alloc (.cells zd 43)).heap[w.heap.size + 1]? = some (.cells zd 43) := by rw [← hs1]; exact alloc_new _ _
  have hr2 : Row W2 (w.heap.size + 1) 43 (dcells (eat m (m.length / 64)) p m.length) := by
    rw [hW2]
    have := setRow_heap _ (w.heap.size + 1) zd D 43 (0, 0) hn1
    rw [hD] at this ⊢
    exact this
  have hz2 : Row W2 w.heap.size 24 z32.toList := by
    rw [hW2]
    show (World.setRow _ _ _).heap[w.heap.size]? = _
    rw [setRow_other _ _ _ _ (by omega)]
    refine alloc_old _ ?_
    rw [hW1]
    exact alloc_new _ _
  have hT2 := hT.below hb2 hT.size
  have h2 := hT.size
  have hd2 : IsDig W2 (w.heap.size + 1) m := ⟨⟨p, p1, hr2, p3, p4⟩, hbyte, by omega⟩
  have hs2 : W2.heap.size = w.heap.size + 2 := by rw [hW2]; simp [hs1]
  have hz24 := zero24
  have hz43 := zero43
  have hAl : w.alloc (.cells z32 24) = W1 := hW1.symm
  have HT2 := hide hT2
  have HD2 := hide hd2
  have HZ2 := hide hz2
  have HB2 := hide hb2
  have HG1 := hide hg1
  have HN1 := hide hn1
  have HSZ := hide hsz
  have HONE := hide hone
  have HW2 := hide hW2
  have HBy := hide hbyte
  clear hT h hbyte p2 p3 p4 p1 hD hsz hone hg c0 hW1 hg1 hW2 hb2 hn1 hr2 hz2 hT2 hd2
  go_enter Tryd.func16, Tryd.ntmps16
  go_wp2_with fail
  refine (isMade_at r true _ c1).mono ?_
  rintro e w1 ⟨rfl, rfl⟩
  go_wp2_with (first
    | (refine wpList_load_row rfl 43 _ rfl r rfl 43 D _ _ HG1.out Tryd.underlying43 rfl ?_ ?_; (rw [HSZ.out]; exact info43))
    | (refine wpList_store_rowW rfl 43 _ _ rfl (w.heap.size + 1) D rfl rfl 43 zd HN1.out ?_ ?_ HONE.out W2 HW2.out ?_; (rw [HSZ.out]; exact info43); (rw [HSZ.out]; rfl)))
  refine (ending_at (w.heap.size + 1) m _ HD2.out (by omega)).mono ?_
  rintro e w3 ⟨rfl, r3, b3⟩
  obtain ⟨L, hL⟩ : ∃ L, L = (pad m.length).length := ⟨_, rfl⟩
  have hL2 : L ≤ 72 := by rw [hL, pad_length, zerosN]; omega
  have hsrc := r3.src (pad_byte _) hL.symm (by unfold maxLen; omega)
  have hoff : Off (some ⟨W2.heap.size, 0, none⟩) L (w.heap.size + 1) := fun _ b o e => by simp at e; omega
  rw [← hL]
  have hd3 : IsDig w3 (w.heap.size + 1) m := HD2.out.keep (b3.block _ (by omega))
  have hT3 := HT2.out.below b3 (by omega)
  have hz3 : Row w3 w.heap.size 24 z32.toList := HZ2.out.below b3 (by omega)
  rw [hs2] at hsrc hoff
  have HSRC := hide hsrc
  have HOFF := hide hoff
  have HD3 := hide hd3
  have HT3 := hide hT3
  have HZ3 := hide hz3
  have HB3 : Hid (Below w.heap.size w w3) := HB2.out.trans (b3.mono (by omega))
  have hs3 : w.heap.size + 2 ≤ w3.heap.size := by have := b3.size; omega
  clear r3 b3 hL hsrc hoff hd3 hT3 hz3 HD2 HT2 HZ2 HB2
  go_wp2_with fail
  refine (add_at (w.heap.size + 1) m _ L L (pad m.length) w3 HT3.out HD3.out HSRC.out HOFF.out (by omega)).mono ?_
  rintro e w4 ⟨rfl, d4, k4⟩
  have hb4 : Below w.heap.size w w4 := HB3.out.trans (k4.below (by omega) (by omega) (by omega))
  have hz4 : Row w4 w.heap.size 24 z32.toList := HZ3.out.kept k4 (by omega) (by omega)
  have hs4 := k4.size
  have hw4 := d4.words
  have hlt4 := d4.lt
  have HW4 := hide hw4
  have HB4 := hide hb4
  have HZ4 := hide hz4
  clear d4 k4 hb4 hz4 hw4
  go_wp2_with fail
  refine (bytes_at (w.heap.size + 1) _ w4 (eat_ok _ _) HW4.out hlt4).mono ?_
  rintro e w5 ⟨rfl, b5⟩
  have hz5 : Row w5 w.heap.size 24 z32.toList := HZ4.out.below b5 (by omega)
  have hb5 : Below w.heap.size w w5 := HB4.out.trans (b5.mono (by omega))
  have ed : bytesOf (eat (m ++ pad m.length) ((m ++ pad m.length).length / 64)) = dig m := rfl
  rw [ed]
  obtain ⟨V, hV⟩ : ∃ V, V = (nums .u8 (dig m)).toArray := ⟨_, rfl⟩
  have hsV : V.size = 32 := by rw [hV]; simp [nums, dig_length]
  have hall : V.all (·.oneCell') = true := by rw [hV]; exact nums_all _ _
  obtain ⟨W6, hW6⟩ : ∃ W6, W6 = w5.setRow w.heap.size V := ⟨_, rfl⟩
  have hrow : W6.heap[w.heap.size]? = some (.cells V 24) := by rw [hW6]; exact setRow_heap _ _ _ _ _ _ hz5
  rw [← hV]
  have HV := hide hV
  have HSV := hide hsV
  have HALL := hide hall
  have HW6 := hide hW6
  have HROW := hide hrow
  have HZ5 := hide hz5
  have HB5 := hide hb5
  clear hV hsV hall hW6 hrow hz5 hb5 b5 ed
  go_wp2_with (refine wpList_store_rowW rfl 24 _ _ rfl w.heap.size V rfl rfl 24 z32 HZ5.out (by rw [HSV.out]; exact info24) (by rw [HSV.out]; rfl) HALL.out W6 HW6.out ?_)
  refine bodyPost_ret (results_cell_row rfl _ _ w.heap.size 24 V _ _ rfl HROW.out Tryd.underlying24 rfl (by rw [HSV.out]; exact info24)) rfl ⟨by rw [HV.out], ?_⟩
  rw [HW6.out]
  exact HB5.out.trans (((Kept.refl w.heap.size w.heap.size w5).setRow (Or.inl rfl) _).below (Nat.le_refl _) (Nat.le_refl _) HB5.out.size)
end Go.Proofs.YtaibdmmacncejaaDoor
