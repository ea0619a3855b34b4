/-
  What may be kept, what a slot tells and is filled with; conditions as each theorem has them.
-/
import Derived.Test.YtabkelhipmijfaaGreatDoorJoinedVC
set_option linter.unusedSimpArgs false
set_option linter.unusedVariables false
namespace Go.Proofs.YtabkelhipmijfaaGreatDoor.Nm
open Go.RowKit
theorem adCs_pad {l : List Ad} {j : Nat} {u : Value} (h : (adCs l)[j]? = some u) : (adCs (pad l))[j]? = some u := by
  have hj := (List.getElem?_eq_some_iff.1 h).1
  unfold pad
  rw [adCs_append, List.getElem?_append_left hj]
  exact h
theorem mayBeKept_at (name : ByteArray) (a : Option Addr) (n c : Nat) (ttl : Int) (w : World) : Calls Tryz.prog 91 #[.string name, .slice a n c, .int .i64 ttl] w fun e w' => e = .returned (.bool (decide (¬ badPut name n ttl))) ∧ w = w' := by
  have e0 : (name.toList == []) = decide (name.size = 0) := ba_nil name
  have e0' : name.toList.isEmpty = decide (name.size = 0) := ba_emp name
  by_cases h1 : name.size = 0
  · have e : decide (¬ badPut name n ttl) = false := decide_eq_false (by unfold badPut; omega)
    rw [e]
    have d1 : decide (name.size = 0) = true := by simp [h1]
    go_enter Tryz.func91, Tryz.ntmps91
    go_wp2
    go_ret
    exact ⟨rfl, rfl⟩
  have d1 : decide (name.size = 0) = false := by simp [h1]
  by_cases h2 : 253 < name.size
  · have e : decide (¬ badPut name n ttl) = false := decide_eq_false (by unfold badPut; omega)
    rw [e]
    have d2 : decide ((name.size : Int) ≤ 253) = false := by simp; omega
    go_enter Tryz.func91, Tryz.ntmps91
    go_wp2
    go_ret
    exact ⟨rfl, rfl⟩
  have d2 : decide ((name.size : Int) ≤ 253) = true := by simp; omega
  by_cases h3 : 16 < n
  · have e : decide (¬ badPut name n ttl) = false := decide_eq_false (by unfold badPut; omega)
    rw [e]
    have d3 : decide ((n : Int) ≤ 16) = false := by simp; omega
    go_enter Tryz.func91, Tryz.ntmps91
    go_wp2
    go_ret
    exact ⟨rfl, rfl⟩
  have d3 : decide ((n : Int) ≤ 16) = true := by simp; omega
  by_cases h4 : ttl < 0
  · have e : decide (¬ badPut name n ttl) = false := decide_eq_false (by unfold badPut; omega)
    rw [e]
    have d4 : decide (ttl ≥ 0) = false := by simp; omega
    have d4' : decide (0 ≤ ttl) = false := by simp; omega
    go_enter Tryz.func91, Tryz.ntmps91
    go_wp2
    go_ret
    exact ⟨rfl, rfl⟩
  have d4 : decide (ttl ≥ 0) = true := by simp; omega
  have d4' : decide (0 ≤ ttl) = true := by simp; omega
  by_cases h5 : 1048576 < ttl
  · have e : decide (¬ badPut name n ttl) = false := decide_eq_false (by unfold badPut; omega)
    rw [e]
    have d5 : decide (ttl ≤ 1048576) = false := by simp; omega
    go_enter Tryz.func91, Tryz.ntmps91
    go_wp2
    go_ret
    exact ⟨rfl, rfl⟩
  have d5 : decide (ttl ≤ 1048576) = true := by simp; omega
  have e : decide (¬ badPut name n ttl) = true := decide_eq_true (by unfold badPut; omega)
  rw [e]
  go_enter Tryz.func91, Tryz.ntmps91
  go_wp2
  go_ret
  exact ⟨rfl, rfl⟩
theorem und62 : Tryz.prog.underlying 123 = some (.array (Tryz.prog.arrayLen 123) (Tryz.prog.elem 123)) := by kernel_rfl
theorem len62 : Tryz.prog.arrayLen 123 = 16 := by kernel_rfl
theorem size62 (w : World) : (sizeOf (Tryz.prog.elem 123)).run Tryz.prog w = .ok 4 w := by kernel_rfl
theorem run_cut62 (g o n : Nat) (h : n ≤ 16) (w : World) : (Instr.sliceAt 123 (.pointer (some ⟨g, o, none⟩)) none (some (.int .i64 n)) none).run Tryz.prog w = .ok (.slice (some ⟨g, o, none⟩) n 16) w := by
  rw [run_sliceAt_array_h w 123 ⟨g, o, none⟩ und62 .i64 n (by omega) (by rw [len62]; omega), size62, len62]
  simp only [Result.andThen_ok, slicedAt, Int.toNat_natCast, Nat.zero_mul]
  rw [if_neg (by omega), add_none, Nat.add_zero, Nat.sub_zero, Nat.sub_zero]
theorem run_all62 (g o : Nat) (w : World) : (Instr.sliceAt 123 (.pointer (some ⟨g, o, none⟩)) none none none).run Tryz.prog w = .ok (.slice (some ⟨g, o, none⟩) 16 16) w := by
  rw [run_sliceAt_array_all w 123 ⟨g, o, none⟩ und62, size62, len62]
  simp only [Result.andThen_ok, slicedAt, Nat.zero_mul]
  rw [if_neg (by omega), add_none, Nat.add_zero, Nat.sub_zero]
attribute [local go_sem ↓] run_opap
set_option maxRecDepth 100000 in
set_option maxHeartbeats 2000000 in
theorem list_at (g o : Nat) (l : List Ad) (w : World) (hl : l.length ≤ 16) (hb : okA l) (hk : w.cell? ⟨g, o + 2, none⟩ = some (.int .i64 (l.length : Nat))) (hr : ∀ j u, (adCs (pad l))[j]? = some u → w.cell? ⟨g, o + 3 + j, none⟩ = some u) :
    Calls Tryz.prog 63 #[.pointer (some ⟨g, o, none⟩)] w fun e w' => ∃ v, e = .returned v ∧ OwnA w' w.heap.size v l ∧ Below w.heap.size w w' := by
  have hg := lt_of_cell hk
  have hs : SrcA w.drew (some ⟨g, o + 3, none⟩) l.length 16 l := ⟨rfl, hl, by decide, (fun e => by cases e), fun _ => ⟨g, o + 3, rfl, hg, fun j u hu => hr j u (adCs_pad hu)⟩, hb⟩
  obtain ⟨v', w', ap, ow, bl⟩ := run_appS (OwnA.nil w.drew w.heap.size) hs (by simp; omega) (Nat.le_refl _)
  rw [List.nil_append] at ow
  have OW := hide ow
  have BL : Hid (Below w.heap.size w w') := (Below.refl _ w).drew.trans bl
  obtain ⟨n, hn⟩ : ∃ n, n = l.length := ⟨_, rfl⟩
  rw [← hn] at hk ap hl
  obtain ⟨q1, q2, q3⟩ := ap_of ap
  have hcut := run_cut62 g (o + 3) n hl
  clear hr hs ow bl hn ap
  go_enter Tryz.func63, Tryz.ntmps63
  go_wp2_with fail
  go_region
  all_goals
    go_wp2_with fail
    go_ret
    exact ⟨_, rfl, OW.out, BL.out⟩
theorem clone_at (s : ByteArray) (w : World) (h : s.size ≤ 253) : Calls Tryz.prog 36 #[.string s] w fun e w' => e = .returned (.string s) ∧ Below w.heap.size w w' := by
  have HC := hide (Tryz.stringslite_Clone s w (by omega))
  go_enter Tryz.func36, Tryz.ntmps36
  go_wp2_with fail
  refine HC.out.mono ?_
  rintro e w1 ⟨rfl, k1⟩
  have K1 := hide k1
  clear k1
  go_wp2_with fail
  go_ret
  exact ⟨rfl, K1.out⟩

theorem zero64 (w : World) : (zeroValue 125).run Tryz.prog w = .ok (.agg (slC zeroS).toArray) w := by kernel_rfl
theorem info64 : (Tryz.prog.info? 125).map (·.size) = some 67 := by kernel_rfl
def headC (name : ByteArray) (till : Int) (n : Nat) : List Value := .string name :: .int .i64 till :: .int .i64 (n : Nat) :: adCs (pad [])
theorem headC_length (name : ByteArray) (till : Int) (n : Nat) : (headC name till n).length = 67 := rfl
theorem built64 (name : ByteArray) (till : Int) (n : Nat) : Tryz.prog.built 125 [(0, .string name), (1, .int .i64 till), (2, .int .i64 (n : Nat))] = some (headC name till n).toArray := by kernel_rfl
theorem wpList_build64 {ops : Array Oper} {rest : List Oper} {o : Oper} {a : Act} {w : World} {Q : Exit → Act → World → Prop} (hg : o.guard = none) (x y z : Operand) (ho : o.op = .build 125 #[(0, x), (1, y), (2, z)]) {name : ByteArray} {till : Int} {n : Nat} {Y : Array Value}
    (hx : a.eval x = .string name) (hy : a.eval y = .int .i64 till) (hz : a.eval z = .int .i64 (n : Nat)) (hb : Tryz.prog.built 125 [(0, .string name), (1, .int .i64 till), (2, .int .i64 (n : Nat))] = some Y)
    (h : wpList Tryz.prog ops Q rest (a.put o.dst (.agg Y)) w) : wpList Tryz.prog ops Q (o :: rest) a w := by
  have e : Tryz.prog.built 125 ((#[(0, x), (1, y), (2, z)] : Array (Nat × Operand)).map fun (i, x) => (i, a.eval x)).toList = some Y := by
    rw [← hb]; simp [hx, hy, hz]
  refine wpList_build hg 125 _ ho (by rw [e]; rfl) ?_
  rw [e]
  exact h
theorem info37s : (Tryz.prog.info? 39).map (·.size) = some 4 := by kernel_rfl
/-- 'copy' of addresses into a block's middle. -/
theorem run_copyA (w : World) (ty : TypeId) (g o : Nat) (cur : Array Value) (t : TypeId) (hg : w.heap[g]? = some (.cells cur t (0, 0))) (a : Option Addr) (n c : Nat) (l : List Ad) (hs : SrcA w a n c l) (hn : n ≤ 16) (hf : o + 64 ≤ cur.size) :
    (Builtin.copy_ #[31, 31] ty #[.slice (some ⟨g, o, none⟩) 16 16, .slice a n c]).run Tryz.prog w = .ok (goInt n) (w.setRow g (cur.toList.take o ++ adCs l ++ cur.toList.drop (o + (adCs l).length)).toArray) := by
  obtain ⟨i, hi, hz⟩ := Option.map_eq_some_iff.1 info37s
  have hlen : (adCs l).length = n * 4 := by rw [adCs_len, hs.hlen]
  have hst := run_storeCells_at Tryz.prog g o t (adCs l) 0 cur w hg (by rw [hlen]; omega) (adCs_one l)
  simp only [Nat.add_zero] at hst
  have hmin : Nat.min n 16 = n := by show min n 16 = n; omega
  cases a with
  | none =>
    have h1 := hs.nil rfl
    have h2 := hs.hcap
    obtain rfl : n = 0 := by omega
    obtain rfl := List.length_eq_zero_iff.1 hs.hlen
    simp [Builtin.copy_, run_underlying und30, Builtin.lenOf, Builtin.firstCells, sizeOf, typeInfo, hi, hz, storeCells, adCs]
    rw [setRow_self w g cur t (0, 0) hg]
  | some x =>
    have hload := run_loadCells_list (P := Tryz.prog) w x (adCs l) (fun j v hv => by
      have hj := (List.getElem?_eq_some_iff.1 hv).1
      obtain ⟨b, o', e, _, hc⟩ := hs.lies (by omega)
      simp at e
      subst e
      rw [add_none]
      exact hc j v hv)
    simp [Builtin.copy_, run_underlying und30, Builtin.lenOf, Builtin.firstCells, sizeOf, typeInfo, hi, hz, hmin, ← hlen, hload, hst]
theorem slC_filled {name : ByteArray} {till : Int} {l : List Ad} (h : l.length ≤ 16) : (headC name till l.length).take 3 ++ adCs l ++ (headC name till l.length).drop (3 + (adCs l).length) = slC ⟨name, till, l⟩ := by
  have e : headC name till l.length = [.string name, .int .i64 till, .int .i64 (l.length : Nat)] ++ adCs (List.replicate 16 (0, 0, 0, 0)) := rfl
  have e2 : adCs (List.replicate 16 (0, 0, 0, 0)) = adCs (List.replicate l.length (0, 0, 0, 0)) ++ adCs (List.replicate (16 - l.length) (0, 0, 0, 0)) := by
    rw [← adCs_append, List.replicate_append_replicate, show l.length + (16 - l.length) = 16 by omega]
  have e3 : (adCs (List.replicate l.length ((0, 0, 0, 0) : Ad))).length = (adCs l).length := by rw [adCs_len, adCs_len, List.length_replicate]
  rw [e, e2, List.take_append_of_le_length (by simp), List.take_of_length_le (by simp), List.drop_append, List.drop_of_length_le (by simp), List.nil_append]
  simp only [List.length_cons, List.length_nil]
  rw [show 3 + (adCs l).length - (0 + 1 + 1 + 1) = (adCs l).length by omega, List.drop_append, List.drop_of_length_le (by omega), e3, Nat.sub_self, List.drop_zero, List.nil_append]
  unfold slC pad
  rw [adCs_append]
  simp
set_option maxRecDepth 100000 in
set_option maxHeartbeats 4000000 in
theorem filled_at (name : ByteArray) (a : Option Addr) (n c : Nat) (l : List Ad) (till : Int) (w : World) (hs : SrcA w a n c l) (hn : n ≤ 16) (hnm : name.size ≤ 253) :
    Calls Tryz.prog 93 #[.string name, .slice a n c, .int .i64 till] w fun e w' => e = .returned (.agg (slC ⟨name, till, l⟩).toArray) ∧ Below w.heap.size w w' := by
  have HC := fun w1 => hide (clone_at name w1 hnm)
  have hcut := run_all62
  have HS := hide hs
  obtain rfl := hs.hlen
  clear hs
  have hbd := built64 name till l.length
  obtain ⟨n, hnn⟩ : ∃ n, n = l.length := ⟨_, rfl⟩
  obtain ⟨Y, hY⟩ : ∃ Y, Y = (headC name till l.length).toArray := ⟨_, rfl⟩
  rw [← hY] at hbd
  rw [← hnn] at hbd hn ⊢ HS
  have HBD := hide hbd
  clear hbd
  have HN := hide hnn
  have HY := hide hY
  clear hnn hY
  obtain ⟨Z, hZ⟩ : ∃ Z, Z = (slC zeroS).toArray := ⟨_, rfl⟩
  have hz := zero64
  rw [← hZ] at hz
  have HZ := hide hZ
  clear hZ
  go_enter Tryz.func93, Tryz.ntmps93
  go_wp2_with fail
  refine (HC _).out.mono ?_
  rintro e w1 ⟨rfl, k1⟩
  have hb1 : w1.heap[w.heap.size]? = some (.cells Z 125) := (k1.block _ (by simp)).trans (alloc_new _ _)
  have K1 : Hid (Below w.heap.size w w1) := ((Below.refl w.heap.size w).alloc (Nat.le_refl _) _).trans (k1.mono (by simp))
  have HB1 := hide hb1
  have hs1 : SrcA w1 a n c l := HS.out.keep (fun h0 b o e => K1.out.block b (HS.out.lt h0 e)) K1.out.size
  have HY2 : Hid (Y.size = 67) := by show _ = _; rw [HY.out]; simp [headC_length]
  have HZ2 : Hid (Z.size = 67) := by show _ = _; rw [HZ.out]; simp [slC_length zeroS_ok]
  have HY1 : Hid (Y.all (·.oneCell') = true) := by show _ = _; rw [HY.out]; exact all_oneCell_toArray (fun v hv => by
    simp only [headC, List.mem_cons] at hv
    rcases hv with rfl | rfl | rfl | hv
    · rfl
    · rfl
    · rfl
    · exact adCs_one _ v hv)
  obtain ⟨W2, hW2⟩ : ∃ W2, W2 = (w1.alloc (.cells Z 125)).setRow w1.heap.size Y := ⟨_, rfl⟩
  have hb2 : W2.heap[w1.heap.size]? = some (.cells Y 125) := by rw [hW2]; exact Go.setRow_heap _ _ Z _ 125 (0, 0) (alloc_new _ _)
  have k2 : Below w1.heap.size w1 W2 := by rw [hW2]; exact Go.below_setRow ((Below.refl _ _).alloc (Nat.le_refl _) _) (Nat.le_refl _) _
  have hcp := run_copyA W2 3 w1.heap.size 3 Y 125 hb2 a n c l (hs1.below k2) hn (by have := HY2.out; omega)
  obtain ⟨X, hX⟩ : ∃ X, X = (Y.toList.take 3 ++ adCs l ++ Y.toList.drop (3 + (adCs l).length)).toArray := ⟨_, rfl⟩
  rw [← hX] at hcp
  have HX : Hid (X = (slC ⟨name, till, l⟩).toArray) := by
    show _ = _
    rw [hX, HY.out, List.toList_toArray, slC_filled (by have := HN.out; omega)]
  have HXs : Hid (X.size = 67) := by show _ = _; rw [HX.out]; simp [slC, adCs_len, pad_length (by have := HN.out; omega : l.length ≤ 16)]
  have HX1 : Hid (X.all (·.oneCell') = true) := by show _ = _; rw [HX.out]; exact all_oneCell_toArray (slC_one _)
  have HI : Hid ((Tryz.prog.info? 125).map (·.size) = some X.size) := by show _ = _; rw [HXs.out]; exact info64
  have HIY : Hid ((Tryz.prog.info? 125).map (·.size) = some Y.size) := by show _ = _; rw [HY2.out]; exact info64
  have HZY : Hid (Z.size = Y.size) := HZ2.out.trans HY2.out.symm
  have HZX : Hid (Z.size = X.size) := HZ2.out.trans HXs.out.symm
  have HA : Hid ((w1.alloc (.cells Z 125)).heap[w1.heap.size]? = some (.cells Z 125)) := alloc_new _ _
  have HL : Hid ((W2.setRow w1.heap.size X).heap[w1.heap.size]? = some (.cells X 125)) := Go.setRow_heap _ _ Y _ 125 (0, 0) hb2
  have hlt : w.heap.size < w1.heap.size := lt_of_some hb1
  have HR : Hid ((W2.setRow w1.heap.size X).heap[w.heap.size]? = some (.cells Z 125)) := by
    show _ = _
    rw [setRow_other _ _ _ _ (by omega)]
    exact (k2.block _ hlt).trans hb1
  have KK : Hid (Below w.heap.size w ((W2.setRow w1.heap.size X).setRow w.heap.size X)) := Go.below_setRow (Go.below_setRow (K1.out.trans (k2.mono (by omega))) (by omega) _) (Nat.le_refl _) _
  have HF : Hid (((W2.setRow w1.heap.size X).setRow w.heap.size X).heap[w.heap.size]? = some (.cells X 125)) := Go.setRow_heap _ _ Z _ 125 (0, 0) HR.out
  have HW2 := hide hW2
  clear k1 hb1 hb2 k2 hX hs1 hlt hW2
  go_wp2_with (first
    | (refine wpList_build64 rfl _ _ _ rfl rfl rfl rfl HBD.out ?_)
    | (refine wpList_store_row rfl 125 _ _ rfl w1.heap.size Y rfl rfl 125 Z HA.out HIY.out HZY.out HY1.out ?_; rw [← HW2.out])
    | (refine wpList_load_row rfl 125 _ rfl w1.heap.size rfl 125 X (0, 0) _ HL.out Tryz.underlying125 rfl HI.out ?_)
    | (refine wpList_store_row rfl 125 _ _ rfl w.heap.size X rfl rfl 125 Z HR.out HI.out HZX.out HX1.out ?_))
  refine bodyPost_ret (results_cell_row rfl _ _ w.heap.size 125 X (0, 0) _ rfl HF.out Tryz.underlying125 rfl HI.out) rfl ?_
  exact ⟨by rw [HX.out], KK.out⟩
end Go.Proofs.YtabkelhipmijfaaGreatDoor.Nm
