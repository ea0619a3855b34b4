/-
  FieldsOthers' walk: a field of another name, put in anywhere, changes no age; conditions as each theorem has them.
-/
import Derived.Test.YtffjhhacegnhmaaDoorWK
import Derived.Test.YtffjhhacegnhmaaDoorV
set_option linter.unusedSimpArgs false
set_option linter.unusedVariables false
namespace Go.Proofs.YtffjhhacegnhmaaDoor
open Go.RowKit

theorem undFs : Tryd.prog.underlying 22 = some (.slice (Tryd.prog.elem 22)) := by kernel_rfl
theorem sizeFs (w : World) : (sizeOf (Tryd.prog.elem 22)).run Tryd.prog w = .ok 2 w := by kernel_rfl
theorem fcs_take (fs : List Fd) (k : Nat) : fcs (fs.take k) = (fcs fs).take (2 * k) := by
  induction fs generalizing k with
  | nil => simp [fcs]
  | cons f r ih =>
    cases k with
    | zero => simp [fcs]
    | succ k => simp only [List.take_succ_cons, fcs, ih, show 2 * (k + 1) = 2 * k + 1 + 1 by omega]
theorem fcs_drop (fs : List Fd) (k : Nat) : fcs (fs.drop k) = (fcs fs).drop (2 * k) := by
  induction fs generalizing k with
  | nil => simp [fcs]
  | cons f r ih =>
    cases k with
    | zero => simp [fcs]
    | succ k => simp only [List.drop_succ_cons, fcs, ih, show 2 * (k + 1) = 2 * k + 1 + 1 by omega]
theorem cutFto (w : World) (a : Option Addr) (n c : Nat) (fs : List Fd) (h : SrcF w a n c fs) (k : Nat) (hk : k ≤ n) : ∃ x : Option Addr,
    (∀ w, (Instr.sliceAt 22 (.slice a n c) none (some (.int .i64 k)) none).run Tryd.prog w = .ok (.slice x k c) w) ∧
    (∀ w, (Instr.slice 22 (.slice a n c) none (some (.int .i64 k)) none).run Tryd.prog w = .ok (.slice x k c) w) ∧ SrcF w x k c (fs.take k) := by
  have hc := h.hcap
  have hl := h.hlen
  have key : ∀ w, (Instr.slice 22 (.slice a n c) none (some (.int .i64 k)) none).run Tryd.prog w = .ok (sliced a 0 k c 2) w := fun w => by
    rw [run_slice_h w 22 _ n c undFs .i64 k (by omega) (by omega), sizeFs]
    simp [Result.andThen]
  refine ⟨if c = 0 then a else a.map (·.add (0 * 2)), fun w => ?_, fun w => ?_, ⟨by rw [List.length_take]; omega, by omega, h.hmax, fun e => ?_, fun h0 => ?_, fun x hx => h.byte x (List.mem_of_mem_take hx)⟩⟩
  · rw [run_sliceAt_slice w 22 _ _ _ _ undFs, key]; rfl
  · rw [key]; rfl
  · cases a with
    | none => exact h.nil rfl
    | some x => split at e <;> simp at e
  · obtain ⟨x, o, rfl, hx, hcell⟩ := h.lies (by omega)
    rw [if_neg (by omega)]
    refine ⟨x, o, by rw [Option.map_some, add_none, Nat.zero_mul, Nat.add_zero], hx, fun j u hu => ?_⟩
    rw [fcs_take] at hu
    have hj := (List.getElem?_eq_some_iff.1 hu).1
    rw [List.length_take] at hj
    rw [List.getElem?_take, if_pos (by omega)] at hu
    exact hcell j u hu
theorem cutFfrom (w : World) (a : Option Addr) (n c : Nat) (fs : List Fd) (h : SrcF w a n c fs) (k : Nat) (hk : k ≤ n) : ∃ x : Option Addr,
    (∀ w, (Instr.sliceAt 22 (.slice a n c) (some (.int .i64 k)) none none).run Tryd.prog w = .ok (.slice x (n - k) (c - k)) w) ∧
    (∀ w, (Instr.slice 22 (.slice a n c) (some (.int .i64 k)) none none).run Tryd.prog w = .ok (.slice x (n - k) (c - k)) w) ∧ SrcF w x (n - k) (c - k) (fs.drop k) := by
  have hc := h.hcap
  have hl := h.hlen
  have hmx := h.hmax
  have key : ∀ w, (Instr.slice 22 (.slice a n c) (some (.int .i64 k)) none none).run Tryd.prog w = .ok (sliced a k n c 2) w := fun w => by
    rw [run_slice_l w 22 _ n c undFs .i64 k (by omega) (by omega), sizeFs]
    simp [Result.andThen]
  refine ⟨if c = k then a else a.map (·.add (k * 2)), fun w => ?_, fun w => ?_, ⟨by rw [List.length_drop]; omega, by omega, by omega, fun e => ?_, fun h0 => ?_, fun x hx => h.byte x (List.mem_of_mem_drop hx)⟩⟩
  · rw [run_sliceAt_slice w 22 _ _ _ _ undFs, key]; rfl
  · rw [key]; rfl
  · cases a with
    | none => have := h.nil rfl; omega
    | some x => split at e <;> simp at e
  · obtain ⟨x, o, rfl, hx, hcell⟩ := h.lies (by omega)
    rw [if_neg (by omega)]
    refine ⟨x, o + k * 2, by rw [Option.map_some, add_none], hx, fun j u hu => ?_⟩
    rw [fcs_drop, List.getElem?_drop] at hu
    have := hcell _ u hu
    rw [show o + k * 2 + j = o + (2 * k + j) by omega]
    exact this
/-- The operation 'append' at a step of a drawn region, where its run is known by an equation. -/
theorem step_app_run {P : Program} (w : World) {ops : Array Oper} {o : Oper} {a : Act} {K : Act → World → Prop} {Q : Exit → Act → World → Prop} {E : Prop} (hgd : o.guard = none) (d s : Operand) (t t' : TypeId)
    (ho : o.op = .call { callee := .builtin .append, args := #[d, s], argTypes := #[t, t'] }) (v u : Value) (hd : a.eval d = v) (hs : a.eval s = u) {v' : Value} {w' : World}
    (hr : (Builtin.append_ #[t, t'] o.type #[v, u]).run P w = .ok v' w') (h : K (a.put o.dst v') w') : if Region.wanted o (yielded ops a.tmps) = true then Oper.wp P o a w K Q else E := by
  have hw : Region.wanted o (yielded ops a.tmps) = true := by simp [Region.wanted, hgd]
  rw [if_pos hw]
  unfold Oper.wp execOp
  simp only [ho, resolve, invoke, builtin, Sem.run_bind, Sem.run_pure, Result.andThen_ok, List.map_toArray, List.map_cons, List.map_nil, hd, hs, hr]
  exact h
theorem sum_insert (a b : List Fd) (x : Fd) : ((a ++ [x] ++ b).map fun f => f.1.length + f.2.length + 3).sum = ((a ++ b).map fun f => f.1.length + f.2.length + 3).sum + (x.1.length + x.2.length + 3) := by
  simp only [List.map_append, List.sum_append, List.map_cons, List.map_nil, List.sum_cons, List.sum_nil]
  omega
theorem few_sum {fs : List Fd} (h : (fs.map fun f => f.1.length + f.2.length + 3).sum ≤ 1048576) : Few fs ∧ fs.length ≤ 1048576 := by
  have each : ∀ (l : List Fd), (l.map fun f => f.2.length + 1).sum ≤ (l.map fun f => f.1.length + f.2.length + 3).sum ∧ l.length ≤ (l.map fun f => f.1.length + f.2.length + 3).sum ∧ ∀ f ∈ l, f.1.length + f.2.length ≤ (l.map fun f => f.1.length + f.2.length + 3).sum := by
    intro l
    induction l with
    | nil => simp
    | cons f r ih =>
      obtain ⟨h1, h2, h3⟩ := ih
      simp only [List.map_cons, List.sum_cons, List.length_cons]
      refine ⟨by omega, by omega, fun g hg => ?_⟩
      rcases List.mem_cons.1 hg with rfl | hg
      · omega
      · have := h3 g hg; omega
  obtain ⟨h1, h2, h3⟩ := each fs
  refine ⟨⟨fun f hf => ?_, by omega⟩, by omega⟩
  have := h3 f hf
  omega
theorem OwnF.mono {w : World} {B B' : Nat} {v : Value} {fs : List Fd} (h : OwnF w B' v fs) (hB : B ≤ B') : OwnF w B v fs := by
  refine ⟨h.1, ?_⟩
  rcases h.2 with h0 | ⟨x, cap, cur, hv, hx, hrest⟩
  · exact Or.inl h0
  · exact Or.inr ⟨x, cap, cur, hv, by omega, hrest⟩
set_option maxRecDepth 100000 in
set_option maxHeartbeats 8000000 in
theorem others_walk (a : Option Addr) (n c : Nat) (fs : List Fd) (at_ : Int) (s t : ByteArray) (w : World) (hV : Vars w) (h : SrcF w a n c fs) (hsum : (fs.map fun f => f.1.length + f.2.length + 3).sum + (s.size + t.size + 3) ≤ 1048576) :
    Calls Tryd.prog 6 #[.slice a n c, .int .i64 at_, .agg #[.string s, .string t]] w fun e w' => e = .returned (.bool true) ∧ Below w.heap.size w w' := by
  obtain ⟨hfew, hfl⟩ := few_sum (fs := fs) (by omega)
  have hl := h.hlen
  have hcl := h.hcap
  have hmx := h.hmax
  unfold maxLen at hmx
  rw [hl] at hfl
  obtain ⟨G0, hG0⟩ : ∃ G, G = w.heap.size := ⟨_, rfl⟩
  obtain ⟨W0, hW0⟩ : ∃ W, W = w.alloc (.cells #[.string s, .string t] 30) := ⟨_, rfl⟩
  have b0 : Below w.heap.size w W0 := by rw [hW0]; exact (Below.refl _ _).alloc (Nat.le_refl _) _
  have g0 : W0.heap[G0]? = some (.cells #[.string s, .string t] 30) := by rw [hW0, hG0]; exact alloc_new _ _
  have HW0 : Hid (w.alloc (.cells #[.string s, .string t] 30) = W0) := hW0.symm
  have HG0 := hide hG0.symm
  have R0 := hide g0
  have HWK := hide (works_at W0 (hV.below b0))
  have B0 := hide b0
  have H := hide h
  have HV := hide hV
  have HFEW := hide hfew
  have HSUM := hide hsum
  have HLS := hide (fun W => lower_at s W (by omega))
  have hcc := toList_byt (strN (low (byt s))) [99, 97, 99, 104, 101, 45, 99, 111, 110, 116, 114, 111, 108]
  rw [byt_strN _ (low_lt (byt_lt s)), show ([99, 97, 99, 104, 101, 45, 99, 111, 110, 116, 114, 111, 108] : List UInt8).map UInt8.toNat = ccS from rfl] at hcc
  have HOT : Hid (∀ k, k ≤ n → low (byt s) ≠ ccS → agev (fs.take k ++ [(byt s, byt t)] ++ fs.drop k) = agev fs) := fun k _ hne => by
    rw [agev_other _ _ _ hne, List.take_append_drop]
  have HFW : Hid (∀ k, Few (fs.take k ++ [(byt s, byt t)] ++ fs.drop k) ∧ (fs.take k ++ [(byt s, byt t)] ++ fs.drop k).length ≤ 1048576) := fun k => few_sum (by
    rw [sum_insert, List.take_append_drop]
    simp only [byt_length]
    exact hsum)
  have HOK : Hid (∀ k, okB (fs.take k ++ [(byt s, byt t)] ++ fs.drop k)) := fun k f hf => by
    rcases List.mem_append.1 hf with hf | hf
    · rcases List.mem_append.1 hf with hf | hf
      · exact h.byte f (List.mem_of_mem_take hf)
      · rw [List.mem_singleton.1 hf]; exact ⟨byt_lt s, byt_lt t⟩
    · exact h.byte f (List.mem_of_mem_drop hf)
  have HNO := hide (fun h => agev_no (fs := fs) h)
  have HLE := hide (agev_le fs)
  have HAG := hide (fun W hv hs => age_at a n c fs W hv hs hfew)
  have HAM : Hid (∀ W, Calls Tryd.prog 22 #[.int .i64 at_, .int .i64 ((n : Int) + 1)] W fun e w' => ∃ k : Nat, k < n + 1 ∧ e = .returned (.int .i64 k) ∧ W = w') := fun W => Among_at at_ (n + 1) (by omega) (by omega) W
  obtain ⟨LS, hLS⟩ : ∃ x, x = strN (low (byt s)) := ⟨_, rfl⟩
  rw [← hLS] at HLS hcc
  clear hW0 hG0 g0 b0 hV h hfew hsum hl hLS
  go_enter Tryd.func6, Tryd.ntmps6
  go_wp2_with (first | (rw [HW0.out, HG0.out]))
  try (rw [HW0.out, HG0.out]; go_wp2_with fail)
  refine HWK.out.mono ?_
  rintro e w1 ⟨rfl, k1⟩
  have B1 := hide (B0.out.trans (k1.mono B0.out.size))
  have R1 := hide (keepB k1 R0.out)
  have r1 := R1.out
  have e0 : w1.cell? ⟨G0, 0, none⟩ = some (.string s) := by simp [World.cell?, r1]
  clear k1 r1 HWK B0 R0
  go_wp2_with fail
  refine (HLS.out _).mono ?_
  rintro e w2 ⟨rfl, k2⟩
  have B2 := hide (B1.out.trans (k2.mono B1.out.size))
  have R2 := hide (keepB k2 R1.out)
  clear k2 e0 B1 R1 HLS
  by_cases hs : low (byt s) = ccS
  · rw [decide_eq_true hs] at hcc
    clear hs
    go_wp2_with fail
    go_ret
    exact ⟨rfl, B2.out⟩
  rw [decide_eq_false hs] at hcc
  have HNE := hide hs
  clear hs
  go_wp2_with fail
  refine (HAM.out _).mono ?_
  rintro e w3 ⟨k, hk, rfl, rfl⟩
  have hkn : k ≤ n := by omega
  obtain ⟨x1, q1, q1', s1⟩ := cutFto w2 a n c fs (H.out.below B2.out) k hkn
  obtain ⟨x2, q2, q2', s2⟩ := cutFfrom w2 a n c fs (H.out.below B2.out) k hkn
  have hnk : n - k ≤ 1048576 := by omega
  have htl : (fs.take k).length ≤ 1048576 := by rw [List.length_take]; have := H.out.hlen; omega
  have S2 := hide s2
  have HCP : Hid (∀ W, Below w2.heap.size w2 W → Calls Tryd.prog 8 #[.slice x1 k c] W fun e w' => ∃ v, e = .returned v ∧ OwnF w' W.heap.size v (fs.take k) ∧ Below W.heap.size W w') := fun W hW => copyF_at x1 k c (fs.take k) W (s1.below hW) (by omega)
  have r2 := R2.out
  have c0 : w2.cell? ⟨G0, 0, none⟩ = some (.string s) := by simp [World.cell?, r2]
  have c1 : w2.cell? ⟨G0, 1, none⟩ = some (.string t) := by simp [World.cell?, r2]
  have hGl : G0 < w2.heap.size := lt_of_some r2
  -- the two orders' appends
  have HA1 : Hid (∀ w6 v6, OwnF w6 w2.heap.size v6 (fs.take k) → Below w2.heap.size w2 w6 → ∃ v7 w7 v8 w8, (Builtin.append_ #[22, 22] 22 #[v6, .slice (some ⟨w6.heap.size, 0, none⟩) 1 1]).run Tryd.prog (w6.alloc (.cells #[.string s, .string t] 30)) = .ok v7 w7 ∧ (Builtin.append_ #[22, 22] 22 #[v7, .slice x2 (n - k) (c - k)]).run Tryd.prog w7 = .ok v8 w8 ∧ OwnF w8 w2.heap.size v8 (fs.take k ++ [(byt s, byt t)] ++ fs.drop k) ∧ Below w2.heap.size w2 w8 ∧ w6.cell? ⟨G0, 0, none⟩ = some (.string s) ∧ w6.cell? ⟨G0, 1, none⟩ = some (.string t) ∧ w7.cell? ⟨G0, 0, none⟩ = some (.string s) ∧ w7.cell? ⟨G0, 1, none⟩ = some (.string t) ∧ w8.cell? ⟨G0, 0, none⟩ = some (.string s) ∧ w8.cell? ⟨G0, 1, none⟩ = some (.string t) ∧ G0 < w6.heap.size) := fun w6 v6 o6 k6 => by
    obtain ⟨v7, w7, a7, o7, b7, _⟩ := push_fld (byt s, byt t) o6 (by omega) k6.size
    rw [strN_byt, strN_byt] at a7
    have k7 := k6.trans b7
    obtain ⟨v8, w8, a8, o8, b8⟩ := run_appF o7 (S2.out.below k7) (by rw [List.length_append]; simp only [List.length_cons, List.length_nil]; omega) k7.size
    have k8 := k7.trans b8
    exact ⟨v7, w7, v8, w8, a7, a8, o8, k8, (k6.cell hGl).trans c0, (k6.cell hGl).trans c1, (k7.cell hGl).trans c0, (k7.cell hGl).trans c1, (k8.cell hGl).trans c0, (k8.cell hGl).trans c1, Nat.lt_of_lt_of_le hGl k6.size⟩
  have HA2 : Hid (∀ w6 v6, OwnF w6 (w2.heap.size + 1) v6 (fs.take k) → Below (w2.heap.size + 1) (w2.alloc (.cells #[.string s, .string t] 30)) w6 → ∃ v7 w7 v8 w8, (Builtin.append_ #[22, 22] 22 #[v6, .slice (some ⟨w2.heap.size, 0, none⟩) 1 1]).run Tryd.prog w6 = .ok v7 w7 ∧ (Builtin.append_ #[22, 22] 22 #[v7, .slice x2 (n - k) (c - k)]).run Tryd.prog w7 = .ok v8 w8 ∧ OwnF w8 w2.heap.size v8 (fs.take k ++ [(byt s, byt t)] ++ fs.drop k) ∧ Below w2.heap.size w2 w8 ∧ w6.cell? ⟨G0, 0, none⟩ = some (.string s) ∧ w6.cell? ⟨G0, 1, none⟩ = some (.string t) ∧ w7.cell? ⟨G0, 0, none⟩ = some (.string s) ∧ w7.cell? ⟨G0, 1, none⟩ = some (.string t) ∧ w8.cell? ⟨G0, 0, none⟩ = some (.string s) ∧ w8.cell? ⟨G0, 1, none⟩ = some (.string t) ∧ G0 < w6.heap.size) := fun w6 v6 o6 k6b => by
    have ba : Below w2.heap.size w2 (w2.alloc (.cells #[.string s, .string t] 30)) := (Below.refl _ _).alloc (Nat.le_refl _) _
    have k6 : Below w2.heap.size w2 w6 := ba.trans (k6b.mono (by omega))
    have hrow : w6.heap[w2.heap.size]? = some (.cells #[.string s, .string t] 30) := (k6b.block w2.heap.size (by omega)).trans (alloc_new _ _)
    obtain ⟨v7, w7, a7, o7, b7, _⟩ := own_appF (o6.mono (Nat.le_succ _)) ⟨w2.heap.size, 0, none⟩ 1 1 [(byt s, byt t)] rfl (fun j u hu => by
      have hj := (List.getElem?_eq_some_iff.1 hu).1
      have hj2 : j < 2 := by simpa [fcs] using hj
      rw [add_none]
      have : j = 0 ∨ j = 1 := by omega
      rcases this with rfl | rfl
      · simp [fcs, strN_byt] at hu
        rw [← hu]; simp [World.cell?, hrow]
      · simp [fcs, strN_byt] at hu
        rw [← hu]; simp [World.cell?, hrow]) (by omega) k6.size
    have k7 := k6.trans b7
    obtain ⟨v8, w8, a8, o8, b8⟩ := run_appF o7 (S2.out.below k7) (by rw [List.length_append]; simp only [List.length_cons, List.length_nil]; omega) k7.size
    have k8 := k7.trans b8
    exact ⟨v7, w7, v8, w8, a7, a8, o8, k8, (k6.cell hGl).trans c0, (k6.cell hGl).trans c1, (k7.cell hGl).trans c0, (k7.cell hGl).trans c1, (k8.cell hGl).trans c0, (k8.cell hGl).trans c1, Nat.lt_of_lt_of_le hGl k6.size⟩
  have R2' := hide r2
  have hGne : G0 ≠ w2.heap.size := by omega
  clear r2 s1 s2 HAM
  go_wp2_with fail
  go_region_held3 (fun w' => w'.cell? ⟨G0, 0, none⟩ = some (.string s) ∧ w'.cell? ⟨G0, 1, none⟩ = some (.string t)) (go_keep) (first
    | (go_at_call 8; refine (HCP.out _ (by first | exact (Below.refl _ _).drew | exact ((Below.refl _ _).alloc (Nat.le_refl _) _).drew | exact Below.refl _ _ | exact (Below.refl _ _).alloc (Nat.le_refl _) _)).mono ?_; rintro e w6 ⟨v6, rfl, o6, k6⟩; first
        | (have k6a : Below w2.heap.size w2 w6 := ⟨k6.os, k6.tape, k6.output, k6.size, k6.block⟩; obtain ⟨v7, w7, v8, w8, a7, a8, o8, k8, i0, i1, j0, j1, l0, l1, m1⟩ := HA1.out w6 v6 o6 k6a; have A7 := hide a7; have A8 := hide a8; have O8 := hide o8; have K8 := hide k8; have hne6 : G0 ≠ w6.heap.size := (by omega); clear a7 a8 o8 k8 k6 k6a o6)
        | (have k6b : Below (w2.heap.size + 1) (w2.alloc (.cells #[.string s, .string t] 30)) w6 := ⟨k6.os, k6.tape, k6.output, k6.size, fun k hk => k6.block k (by simp; omega)⟩; have o6b := OwnF.mono (B := w2.heap.size + 1) o6 (by simp); obtain ⟨v7, w7, v8, w8, a7, a8, o8, k8, i0, i1, j0, j1, l0, l1, m1⟩ := HA2.out w6 v6 o6b k6b; have A7 := hide a7; have A8 := hide a8; have O8 := hide o8; have K8 := hide k8; clear a7 a8 o8 k8 k6 k6b o6 o6b))
    | (refine step_app_run _ (by rfl) _ _ 22 22 (by rfl) _ _ (by rfl) (by rfl) A7.out ?_)
    | (refine step_app_run _ (by rfl) _ _ 22 22 (by rfl) _ _ (by rfl) (by rfl) A8.out ?_))
  all_goals
    obtain ⟨xl, cl, rfl, sl, _⟩ := O8.out.src (HOK.out k)
    have SL := hide sl
    have B8 := hide (B2.out.trans (K8.out.mono B2.out.size))
    have HAM := hide (fun W hv hs => age_at xl (fs.take k ++ [(byt s, byt t)] ++ fs.drop k).length cl (fs.take k ++ [(byt s, byt t)] ++ fs.drop k) W hv hs (HFW.out k).1)
    rw [HOT.out k hkn HNE.out] at HAM
    obtain ⟨LN, hLN⟩ : ∃ L, L = (fs.take k ++ [(byt s, byt t)] ++ fs.drop k).length := ⟨_, rfl⟩
    obtain ⟨ms, hms⟩ : ∃ L, L = fs.take k ++ [(byt s, byt t)] ++ fs.drop k := ⟨_, rfl⟩
    rw [← hLN] at SL HAM ⊢
    rw [← hms] at SL HAM
    obtain ⟨A, hA⟩ : ∃ x, x = agev fs := ⟨_, rfl⟩
    rw [← hA] at HAM HAG HNO HLE
    obtain ⟨ag, ok⟩ := A
    simp only [ageV] at HAM HAG HNO HLE
    clear sl hLN hms hA HA1 HA2 HCP c0 c1 q1 q1' q2 q2' hcc i0 i1 j0 j1 l0 l1 m1
    go_wp2_with fail
    refine (HAG.out _ (HV.out.below B8.out) (H.out.below B8.out)).mono ?_
    rintro e w9 ⟨rfl, k9⟩
    have B9 := hide (B8.out.trans (k9.mono B8.out.size))
    have S9 := hide (SL.out.below k9)
    clear k9
    go_wp2_with fail
    refine (HAM.out _ (HV.out.below B9.out) S9.out).mono ?_
    rintro e w10 ⟨rfl, k10⟩
    have B10 := hide (B9.out.trans (k10.mono B9.out.size))
    have hle := HLE.out
    clear k10
    cases ok with
    | true =>
      have z1 : decide ((ag : Int) ≤ 1048576) = true := decide_eq_true (by omega)
      have z2 : decide (0 ≤ (ag : Int)) = true := decide_eq_true (by omega)
      go_wp2_with fail
      go_ret
      exact ⟨by first | rfl | simp, B10.out⟩
    | false =>
      have hz : ag = 0 := HNO.out rfl
      subst hz
      go_wp2_with fail
      go_ret
      exact ⟨by first | rfl | simp, B10.out⟩
end Go.Proofs.YtffjhhacegnhmaaDoor
