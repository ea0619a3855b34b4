/-
  ParseAddr of the reference; conditions as each theorem has them.
-/
import Derived.Test.YtccoddmdlbdfjaaGreatDoorK
import Derived.Test.YtccoddmdlbdfjaaGreatDoorG
set_option linter.unusedSimpArgs false
set_option linter.unusedVariables false
namespace Go.Proofs.YtccoddmdlbdfjaaGreatDoor
open Go.RowKit

theorem res_cell_cell {P : Program} {fn : Func} {p q : Tmp} {ty ty2 : TypeId} (h : fn.results = #[.cell p ty, .cell q ty2]) (tmps : Array Value) (w : World) (g : Nat) (t : TypeId) (cs : Array Value) (fr : Nat × Nat) (d : TypeDesc)
    (hp : tmps.getD p undef = .pointer (some ⟨g, 0, none⟩)) (hg : w.heap[g]? = some (.cells cs t fr))
    (hu : P.underlying ty = some d) (hd : (match d with | .struct _ | .array _ _ => true | _ => false) = true) (hi : (P.info? ty).map (·.size) = some cs.size)
    (g2 : Nat) (t2 : TypeId) (cs2 : Array Value) (fr2 : Nat × Nat) (d2 : TypeDesc)
    (hp2 : tmps.getD q undef = .pointer (some ⟨g2, 0, none⟩)) (hg2 : w.heap[g2]? = some (.cells cs2 t2 fr2))
    (hu2 : P.underlying ty2 = some d2) (hd2 : (match d2 with | .struct _ | .array _ _ => true | _ => false) = true) (hi2 : (P.info? ty2).map (·.size) = some cs2.size) :
    (results fn tmps).run P w = .ok (.tuple #[.agg cs, .agg cs2]) w := by
  have hp' : tmps[p]?.getD undef = .pointer (some ⟨g, 0, none⟩) := by simpa using hp
  have hp2' : tmps[q]?.getD undef = .pointer (some ⟨g2, 0, none⟩) := by simpa using hp2
  simp only [results, h]
  simp [Sem.run_bind, Result.andThen, hp', hp2', asAddr, run_loadVar_row w g t ty cs fr d hg hu hd hi, run_loadVar_row w g2 t2 ty2 cs2 fr2 d2 hg2 hu2 hd2 hi2]
theorem fin2 {wr : World} {B : Nat} {t0 t1 : TypeId} {o0 o1 : Array Value} (h0 : wr.heap[B]? = some (.cells o0 t0)) (h1 : wr.heap[B + 1]? = some (.cells o1 t1)) (c0 c1 : Array Value) :
    (wr.setRow B c0).heap[B + 1]? = some (.cells o1 t1) ∧ ((wr.setRow B c0).setRow (B + 1) c1).heap[B]? = some (.cells c0 t0) ∧ ((wr.setRow B c0).setRow (B + 1) c1).heap[B + 1]? = some (.cells c1 t1) ∧
    ∀ w : World, w.heap.size ≤ B → Below w.heap.size w wr → Below w.heap.size w ((wr.setRow B c0).setRow (B + 1) c1) := by
  have e1 : (wr.setRow B c0).heap[B + 1]? = some (.cells o1 t1) := by rw [setRow_ne _ _ _ _ (by omega)]; exact h1
  exact ⟨e1, by rw [setRow_ne _ _ _ _ (by omega)]; exact setRow_heap _ _ _ _ _ h0, setRow_heap _ _ _ _ _ e1, fun w hB hb => below_setRow (below_setRow hb hB _) (by omega) _⟩

theorem val_lt : ∀ (p : List Nat), p.all dig = true → val 0 p < 10 ^ p.length := by
  have h : ∀ (p : List Nat) (a : Nat), p.all dig = true → val a p < (a + 1) * 10 ^ p.length := by
    intro p
    induction p with
    | nil => intro a _; simp [val]
    | cons c r ih =>
      intro a h
      simp only [List.all_cons, Bool.and_eq_true] at h
      have hc := (dig_iff c).1 h.1
      have := ih (step a c) h.2
      rw [val_cons, List.length_cons, Nat.pow_succ]
      refine Nat.lt_of_lt_of_le this ?_
      have e : (a + 1) * (10 ^ r.length * 10) = ((a + 1) * 10) * 10 ^ r.length := by rw [Nat.mul_assoc, Nat.mul_comm (10 ^ r.length) 10]
      rw [e]
      exact Nat.mul_le_mul_right _ (by unfold step; omega)
  intro p hp
  have := h p 0 hp
  simpa using this
set_option maxRecDepth 100000 in
set_option maxHeartbeats 4000000 in
theorem rparseAddr_at (t : ByteArray) (w : World) (hm : t.size ≤ maxLen) : Calls Tryz.prog 146 #[.string t] w fun e w' => e = .returned (.tuple #[.agg (nums .u8 (addr (byt t)).1).toArray, badV (addr (byt t)).2]) ∧ Below w.heap.size w w' := by
  obtain ⟨l, hl⟩ : ∃ l, l = byt t := ⟨_, rfl⟩
  rw [← hl]
  have HL : Hid (byt t = l) := hl.symm
  obtain ⟨N, hN⟩ : ∃ N, N = t.size := ⟨_, rfl⟩
  have HNL : Hid (N = l.length) := by show _ = _; rw [hN, hl, byt_length]
  have HLT : Hid (∀ x ∈ l, x < 256) := by rw [hl]; exact byt_lt t
  have hNI : (t.size : Int) = (N : Int) := by rw [hN]
  have HN := hide hN
  have HMX := hide hm
  rw [← hN] at hm
  unfold maxLen at hm
  clear hl hN
  by_cases h253 : 253 < N
  · have HR : Hid (addr l = ([0, 0, 0, 0], .one 253 3)) := by show _ = _; rw [addr, if_pos (by rw [← HNL.out]; exact h253)]
    have hd : decide (253 < (N : Int)) = true := decide_eq_true (by omega)
    have hd' : decide (253 < N) = true := decide_eq_true (by omega)
    go_enter Tryz.func146, Tryz.ntmps146
    go_wp2_with fail
    obtain ⟨wr, hwr⟩ : ∃ wr, wr = (w.alloc (.cells z4 27)).alloc (.cells (badC .ok) 89) := ⟨_, rfl⟩
    have i0 : wr.heap[w.heap.size]? = some (.cells z4 27) := by rw [hwr]; exact alloc_old _ (alloc_new _ _)
    have i1 : wr.heap[w.heap.size + 1]? = some (.cells (badC .ok) 89) := by rw [hwr]; exact alloc_new2 _ _ _
    have i4 : Below w.heap.size w wr := by rw [hwr]; exact ((Below.refl _ _).alloc (Nat.le_refl _) _).alloc (by simp) _
    have I0 := hide i0
    have I1 := hide i1
    have I4 := hide i4
    rw [show (w.alloc (.cells #[.int .u8 0, .int .u8 0, .int .u8 0, .int .u8 0] 27)).alloc (.cells #[.int .i64 0, .string ⟨#[]⟩, .string ⟨#[]⟩, .string ⟨#[]⟩, .string ⟨#[]⟩, .int .i64 0, .int .i64 0, .int .i64 0, .int .i64 0, .int .i64 0] 89) = wr from hwr.symm]
    clear hwr i0 i1 i4
    refine (fault_at 253 3 _).mono ?_
    rintro e w4 ⟨rfl, hb4⟩
    have h04 : w4.heap[w.heap.size]? = some (.cells z4 27) := (hb4.block _ (lt_of_some I0.out)).trans I0.out
    have h14 : w4.heap[w.heap.size + 1]? = some (.cells (badC .ok) 89) := (hb4.block _ (lt_of_some I1.out)).trans I1.out
    obtain ⟨f1, f2, f3, f4⟩ := fin2 h04 h14 z4 (badC (.one 253 3))
    have f5 := f4 w (Nat.le_refl _) (I4.out.trans (hb4.mono I4.out.size))
    obtain ⟨W1, hW1⟩ : ∃ W1, W1 = w4.setRow w.heap.size z4 := ⟨_, rfl⟩
    rw [← hW1] at f1 f2 f3 f4 f5
    obtain ⟨W2, hW2⟩ : ∃ W2, W2 = W1.setRow (w.heap.size + 1) (badC (.one 253 3)) := ⟨_, rfl⟩
    rw [← hW2] at f2 f3 f5
    have F0 := hide h04
    have F1 := hide f1
    have F2 := hide f2
    have F3 := hide f3
    have F5 := hide f5
    have HW1 := hide hW1
    have HW2 := hide hW2
    clear f1 f2 f3 f4 f5 hW1 hW2 h04 h14 hb4
    rw [badV_badC]
    go_wp2_with (first
      | (refine wpList_store_rowW rfl 27 _ _ rfl w.heap.size z4 rfl rfl 27 z4 F0.out info37 rfl z4_one W1 HW1.out ?_)
      | (refine wpList_store_rowW rfl 89 _ _ rfl (w.heap.size + 1) (badC (.one 253 3)) rfl rfl 89 (badC .ok) F1.out info32 rfl (badC_one _) W2 HW2.out ?_))
    refine bodyPost_ret (res_cell_cell rfl _ _ w.heap.size 27 z4 (0, 0) _ rfl F2.out Tryz.underlying27 rfl info37 (w.heap.size + 1) 89 (badC (.one 253 3)) (0, 0) _ rfl F3.out Tryz.underlying89 rfl info32) rfl ⟨?_, F5.out⟩
    rw [HR.out, badV_badC]; rfl
  have hd : decide (253 < (N : Int)) = false := decide_eq_false (by omega)
  have hd' : decide (253 < N) = false := decide_eq_false (by omega)
  have hN253 : N ≤ 253 := by omega
  clear h253
  obtain ⟨ps, hps⟩ : ∃ ps, ps = pcs l := ⟨_, rfl⟩
  have hln := pcs_len l
  rw [← hps] at hln
  have HPL : Hid (∀ p ∈ ps, p.length ≤ N) := fun p hp => by have := hln.2 p hp; have := HNL.out; omega
  have HPB : Hid (∀ p ∈ ps, ∀ x ∈ p, x < 256) := by rw [hps]; exact pcs_lt HLT.out
  have hln1 := hln.1
  obtain ⟨n, hn⟩ : ∃ n, n = ps.length := ⟨_, rfl⟩
  have hn254 : n ≤ 254 := by have := HNL.out; omega
  have hn1 : 1 ≤ n := by rw [hn, hps]; exact List.length_pos_iff.2 (pcs_ne l)
  have HAD : Hid (addr l = if (octs 0 0 ps []).2 = .ok ∧ n < 4 then ([0, 0, 0, 0], .one N 63) else octs 0 0 ps []) := by
    show _ = _
    rw [addr, if_neg (by rw [← HNL.out]; omega), ← hps, ← hn, ← HNL.out]
  have HPS : Hid (pcs (byt t) = ps) := by show _ = _; rw [HL.out, hps]
  have HNN := hide hn
  clear hln hln1 hps hn
  go_enter Tryz.func146, Tryz.ntmps146
  go_wp2_with fail
  refine (parts_at t _ HMX.out (by rw [← HN.out]; exact hN253)).mono ?_
  rintro e w1 ⟨o, at_, rfl, ho, ha, hb1⟩
  rw [HPS.out] at ho ha
  have i0 : w1.heap[w.heap.size]? = some (.cells z4 27) := (hb1.block _ (by simp; omega)).trans (alloc_old _ (alloc_new _ _))
  have i1 : w1.heap[w.heap.size + 1]? = some (.cells (badC .ok) 89) := (hb1.block _ (by simp)).trans (alloc_new2 _ _ _)
  have i4 : Below w.heap.size w w1 := (((Below.refl _ w).alloc (Nat.le_refl _) _).alloc (by simp) _).trans (hb1.mono (by simp; omega))
  obtain ⟨g1, cap1, rfl, hBg1, hgl1, hlc1, hcm1, hcells1, _⟩ := ho.lies (by rw [strs_length, ← HNN.out]; omega)
  obtain ⟨g2, cap2, rfl, hBg2, hgl2, hlc2, hcm2, hcells2, _⟩ := ha.lies (by rw [ints_length, beg_length, ← HNN.out]; omega)
  rw [strs_length, ← HNN.out] at hlc1 ⊢
  rw [ints_length, beg_length, ← HNN.out] at hlc2 ⊢
  have C1 : Hid (∀ k, k < n → w1.cell? ⟨g1, k, none⟩ = some (.string (strN (ps.getD k [])))) := fun k hk => hcells1 k _ (strs_get ps k (by rw [← HNN.out]; exact hk))
  have C2 : Hid (∀ k, k < n → w1.cell? ⟨g2, k, none⟩ = some (.int .i64 ((beg 0 ps).getD k 0 : Nat))) := fun k hk => hcells2 k _ (ints_get _ k (by rw [beg_length, ← HNN.out]; exact hk))
  have I0 := hide i0
  have I1 := hide i1
  have I4 := hide i4
  have hs1 : w.heap.size + 1 < w1.heap.size := lt_of_some i1
  clear ho ha hb1 hBg1 hBg2 hcells1 hcells2 i0 i1 i4 hcm1 hcm2
  go_wp2_with fail
  obtain ⟨W3, hW3⟩ : ∃ W3, W3 = w1.alloc (.cells z4 229) := ⟨_, rfl⟩
  have R0 : Hid (Row W3 w1.heap.size 229 (nums .u8 ([] ++ List.replicate 4 0)) ∧ Below w1.heap.size w1 W3) := by
    rw [hW3]; exact ⟨Row.new w1 z4 229, (Below.refl _ _).alloc (Nat.le_refl _) _⟩
  rw [show w1.alloc (.cells #[.int .u8 0, .int .u8 0, .int .u8 0, .int .u8 0] 229) = W3 from hW3.symm]
  clear hW3
  go_loopw [7] (fun i wr => ∃ k a : Nat, k ≤ n ∧ k ≤ 4 ∧ i = .int .i64 k ∧ a ≤ 254 * k ∧ Hid (∃ acc : List Nat, octs 0 0 ps [] = octs k a (ps.drop k) acc ∧ (beg 0 ps).drop k = beg a (ps.drop k) ∧ acc.length = k ∧ Row wr w1.heap.size 229 (nums .u8 (acc ++ List.replicate (4 - k) 0)) ∧ Below w1.heap.size w1 wr)) (fun i _ => n - (intOf i).toNat)
  case atStart => exact ⟨0, 0, by omega, by omega, rfl, by omega, [], rfl, rfl, rfl, R0.out⟩
  case round =>
    obtain ⟨k, a, hk, hk4, rfl, ha, HI⟩ := hrel
    obtain ⟨acc, j1, jb, j2, i2, i5⟩ := HI.out
    have i0 : wr.heap[w.heap.size]? = some (.cells z4 27) := (i5.block _ (by omega)).trans I0.out
    have i1 : wr.heap[w.heap.size + 1]? = some (.cells (badC .ok) 89) := (i5.block _ (by omega)).trans I1.out
    have i4 : Below w.heap.size w wr := I4.out.trans (i5.mono I4.out.size)
    have P0 := hide i0
    have P1 := hide i1
    have P4 := hide i4
    clear i0 i1 i4
    by_cases hkn : k < n
    · have hkn' : k < ps.length := by rw [← HNN.out]; exact hkn
      have hc1 : wr.cell? ⟨g1, k, none⟩ = some (.string (strN (ps.getD k []))) := (i5.cell hgl1).trans (C1.out k hkn)
      have hbk : (beg 0 ps).getD k 0 = a := by
        have := congrArg (fun l => l[0]?) jb
        rw [drop_getD (d := []) hkn'] at this
        simp [beg] at this
        rw [List.getD, this]; rfl
      have hc2 : wr.cell? ⟨g2, k, none⟩ = some (.int .i64 (a : Nat)) := by rw [← hbk]; exact (i5.cell hgl2).trans (C2.out k hkn)
      obtain ⟨p, hp⟩ : ∃ p, p = ps.getD k [] := ⟨_, rfl⟩
      have hpm : p ∈ ps := by rw [hp]; exact getD_mem hkn'
      have hpl := HPL.out p hpm
      have hpb := HPB.out p hpm
      rw [drop_getD (d := []) hkn', ← hp] at j1
      have jb' : (beg 0 ps).drop (k + 1) = beg (a + p.length + 1) (ps.drop (k + 1)) := by
        have := congrArg List.tail jb
        rw [drop_getD (d := []) hkn', ← hp] at this
        simpa [beg] using this
      rw [← hp] at hc1
      have hdn : decide ((k : Int) < (n : Int)) = true := decide_eq_true (by omega)
      obtain ⟨P, hP⟩ : ∃ P, P = p.length := ⟨_, rfl⟩
      rw [← hP] at hpl jb'
      have HP := hide hP
      have HPB' := hide hpb
      have J1 := hide j1
      have JB := hide jb'
      have J2 := hide j2
      have I2 := hide i2
      have I5 := hide i5
      clear hp hpm hpb j1 jb jb' hbk j2 i2 i5 hP hkn'
      by_cases h4 : k = 4
      · have hb : ((k : Int) == 4) = true := by simp; omega
        have hc4 : wr.cell? ⟨g2, 4, none⟩ = some (.int .i64 (a : Nat)) := by rw [← h4]; exact hc2
        have HR : Hid (addr l = ([0, 0, 0, 0], .one a 63)) := by
          have e : octs 0 0 ps [] = ([0, 0, 0, 0], .one a 63) := by rw [J1.out, octs, if_pos h4]
          show _ = _
          rw [HAD.out, e, if_neg (by simp)]
        have h4n : 4 < n := by omega
        clear h4
        go_wp2_with fail
        refine (fault_at a 63 _).mono ?_
        rintro e w4 ⟨rfl, hb4⟩
        have h04 : w4.heap[w.heap.size]? = some (.cells z4 27) := (hb4.block _ (lt_of_some P0.out)).trans P0.out
        have h14 : w4.heap[w.heap.size + 1]? = some (.cells (badC .ok) 89) := (hb4.block _ (lt_of_some P1.out)).trans P1.out
        obtain ⟨f1, f2, f3, f4⟩ := fin2 h04 h14 z4 (badC (.one a 63))
        have f5 := f4 w (Nat.le_refl _) (P4.out.trans (hb4.mono P4.out.size))
        obtain ⟨W1, hW1⟩ : ∃ W1, W1 = w4.setRow w.heap.size z4 := ⟨_, rfl⟩
        rw [← hW1] at f1 f2 f3 f4 f5
        obtain ⟨W2, hW2⟩ : ∃ W2, W2 = W1.setRow (w.heap.size + 1) (badC (.one a 63)) := ⟨_, rfl⟩
        rw [← hW2] at f2 f3 f5
        have F0 := hide h04
        have F1 := hide f1
        have F2 := hide f2
        have F3 := hide f3
        have F5 := hide f5
        have HW1 := hide hW1
        have HW2 := hide hW2
        clear f1 f2 f3 f4 f5 hW1 hW2 h04 h14 hb4
        rw [badV_badC]
        go_wp2_with (first
          | (refine wpList_store_rowW rfl 27 _ _ rfl w.heap.size z4 rfl rfl 27 z4 F0.out info37 rfl z4_one W1 HW1.out ?_)
          | (refine wpList_store_rowW rfl 89 _ _ rfl (w.heap.size + 1) (badC (.one a 63)) rfl rfl 89 (badC .ok) F1.out info32 rfl (badC_one _) W2 HW2.out ?_))
        refine bodyPost_ret (res_cell_cell rfl _ _ w.heap.size 27 z4 (0, 0) _ rfl F2.out Tryz.underlying27 rfl info37 (w.heap.size + 1) 89 (badC (.one a 63)) (0, 0) _ rfl F3.out Tryz.underlying89 rfl info32) rfl ⟨?_, F5.out⟩
        rw [HR.out, badV_badC]; rfl
      · have hb : ((k : Int) == 4) = false := by simp; omega
        have H4 := hide h4
        clear h4
        go_wp2_with fail
        refine (whole_at (strN p) 3 _ (by rw [strN_size, ← HP.out]; unfold maxLen; omega) (by omega)).mono ?_
        rintro e w2 ⟨rfl, rfl⟩
        rw [byt_strN p HPB'.out]
        have hrd := wh_rd p
        cases hwh : wh p 3 with
        | none =>
          rw [hwh] at hrd
          have HR : Hid (addr l = ([0, 0, 0, 0], .one a 60)) := by
            have e : octs 0 0 ps [] = ([0, 0, 0, 0], .one a 60) := by rw [J1.out, octs, if_neg H4.out, ← hrd]
            show _ = _
            rw [HAD.out, e, if_neg (by simp)]
          clear hrd hwh
          simp only [two, Option.getD_none, Option.isSome_none]
          go_wp2_with fail
          refine (fault_at a 60 _).mono ?_
          rintro e w4 ⟨rfl, hb4⟩
          have h04 : w4.heap[w.heap.size]? = some (.cells z4 27) := (hb4.block _ (lt_of_some P0.out)).trans P0.out
          have h14 : w4.heap[w.heap.size + 1]? = some (.cells (badC .ok) 89) := (hb4.block _ (lt_of_some P1.out)).trans P1.out
          obtain ⟨f1, f2, f3, f4⟩ := fin2 h04 h14 z4 (badC (.one a 60))
          have f5 := f4 w (Nat.le_refl _) (P4.out.trans (hb4.mono P4.out.size))
          obtain ⟨W1, hW1⟩ : ∃ W1, W1 = w4.setRow w.heap.size z4 := ⟨_, rfl⟩
          rw [← hW1] at f1 f2 f3 f4 f5
          obtain ⟨W2, hW2⟩ : ∃ W2, W2 = W1.setRow (w.heap.size + 1) (badC (.one a 60)) := ⟨_, rfl⟩
          rw [← hW2] at f2 f3 f5
          have F0 := hide h04
          have F1 := hide f1
          have F2 := hide f2
          have F3 := hide f3
          have F5 := hide f5
          have HW1 := hide hW1
          have HW2 := hide hW2
          clear f1 f2 f3 f4 f5 hW1 hW2 h04 h14 hb4
          rw [badV_badC]
          go_wp2_with (first
            | (refine wpList_store_rowW rfl 27 _ _ rfl w.heap.size z4 rfl rfl 27 z4 F0.out info37 rfl z4_one W1 HW1.out ?_)
            | (refine wpList_store_rowW rfl 89 _ _ rfl (w.heap.size + 1) (badC (.one a 60)) rfl rfl 89 (badC .ok) F1.out info32 rfl (badC_one _) W2 HW2.out ?_))
          refine bodyPost_ret (res_cell_cell rfl _ _ w.heap.size 27 z4 (0, 0) _ rfl F2.out Tryz.underlying27 rfl info37 (w.heap.size + 1) 89 (badC (.one a 60)) (0, 0) _ rfl F3.out Tryz.underlying89 rfl info32) rfl ⟨?_, F5.out⟩
          rw [HR.out, badV_badC]; rfl
        | some v =>
          rw [hwh] at hrd
          have hvl : v < 1000 := by
            unfold wh at hwh
            split at hwh
            · rename_i hh
              simp at hwh
              have hall : p.all dig = true := by have := hh.1; rw [isNum_of] at this; simp only [Bool.and_eq_true] at this; exact this.1.2
              have := val_lt p hall
              rw [hwh] at this
              exact Nat.lt_of_lt_of_le this (Nat.pow_le_pow_right (n := 10) (by omega) hh.2)
            · cases hwh
          simp only at hrd
          by_cases hv : 255 < v
          · rw [if_pos hv] at hrd
            have g1' : decide (255 < (v : Int)) = true := decide_eq_true (by omega)
            have g1'' : decide (255 < v) = true := decide_eq_true (by omega)
            have HR : Hid (addr l = ([0, 0, 0, 0], .one a 60)) := by
              have e : octs 0 0 ps [] = ([0, 0, 0, 0], .one a 60) := by rw [J1.out, octs, if_neg H4.out, ← hrd]
              show _ = _
              rw [HAD.out, e, if_neg (by simp)]
            clear hrd hwh
            simp only [two, Option.getD_some, Option.isSome_some]
            go_wp2_with fail
            refine (fault_at a 60 _).mono ?_
            rintro e w4 ⟨rfl, hb4⟩
            have h04 : w4.heap[w.heap.size]? = some (.cells z4 27) := (hb4.block _ (lt_of_some P0.out)).trans P0.out
            have h14 : w4.heap[w.heap.size + 1]? = some (.cells (badC .ok) 89) := (hb4.block _ (lt_of_some P1.out)).trans P1.out
            obtain ⟨f1, f2, f3, f4⟩ := fin2 h04 h14 z4 (badC (.one a 60))
            have f5 := f4 w (Nat.le_refl _) (P4.out.trans (hb4.mono P4.out.size))
            obtain ⟨W1, hW1⟩ : ∃ W1, W1 = w4.setRow w.heap.size z4 := ⟨_, rfl⟩
            rw [← hW1] at f1 f2 f3 f4 f5
            obtain ⟨W2, hW2⟩ : ∃ W2, W2 = W1.setRow (w.heap.size + 1) (badC (.one a 60)) := ⟨_, rfl⟩
            rw [← hW2] at f2 f3 f5
            have F0 := hide h04
            have F1 := hide f1
            have F2 := hide f2
            have F3 := hide f3
            have F5 := hide f5
            have HW1 := hide hW1
            have HW2 := hide hW2
            clear f1 f2 f3 f4 f5 hW1 hW2 h04 h14 hb4
            rw [badV_badC]
            go_wp2_with (first
              | (refine wpList_store_rowW rfl 27 _ _ rfl w.heap.size z4 rfl rfl 27 z4 F0.out info37 rfl z4_one W1 HW1.out ?_)
              | (refine wpList_store_rowW rfl 89 _ _ rfl (w.heap.size + 1) (badC (.one a 60)) rfl rfl 89 (badC .ok) F1.out info32 rfl (badC_one _) W2 HW2.out ?_))
            refine bodyPost_ret (res_cell_cell rfl _ _ w.heap.size 27 z4 (0, 0) _ rfl F2.out Tryz.underlying27 rfl info37 (w.heap.size + 1) 89 (badC (.one a 60)) (0, 0) _ rfl F3.out Tryz.underlying89 rfl info32) rfl ⟨?_, F5.out⟩
            rw [HR.out, badV_badC]; rfl
          · rw [if_neg hv] at hrd
            have g1' : decide (255 < (v : Int)) = false := decide_eq_false (by omega)
            have g1'' : decide (255 < v) = false := decide_eq_false (by omega)
            have HN1 : Hid (octs 0 0 ps [] = octs (k + 1) (a + P + 1) (ps.drop (k + 1)) (acc ++ [v])) := by
              show _ = _
              rw [J1.out, octs, if_neg H4.out, ← hrd, HP.out]
            clear hrd hwh
            have hcl : wr.cell? ⟨w1.heap.size, k, none⟩ = some (.int .u8 0) := by
              have hh := H4.out
              rw [I2.out.cell, nums_append, List.getElem?_append_right (by rw [nums_length, J2.out]; omega), nums_length, J2.out, Nat.sub_self, nums_get .u8 _ 0 (by simp; omega)]
              simp [List.getD, show 0 < 4 - k by omega]
            have hfr := I2.out.frozen k
            have hk4' : (k : Int) < 4 := by have := H4.out; omega
            simp only [two, Option.getD_some, Option.isSome_some]
            go_wp2_with fail
            go_roundw
            case rel =>
              have hh := H4.out
              refine ⟨k + 1, a + P + 1, by omega, by omega, by go_num, by omega, acc ++ [v], HN1.out, JB.out, by simp [J2.out], ?_, ?_⟩
              · have := I2.out.setNum0 k v
                have e : (acc ++ List.replicate (4 - k) 0).set k v = acc ++ [v] ++ List.replicate (4 - (k + 1)) 0 := by
                  rw [List.set_append_right _ _ (by rw [J2.out]; omega), J2.out, Nat.sub_self, show 4 - k = (4 - (k + 1)) + 1 by omega, List.replicate_succ, List.set_cons_zero, List.append_assoc]; rfl
                rw [e] at this
                exact this
              · exact I5.out.setCell (by simp) _
            case measure => simp [intOf]; omega
    · have hkn2 : k = n := by omega
      have hdn : decide ((k : Int) < (n : Int)) = false := decide_eq_false (by omega)
      have hoc : octs 0 0 ps [] = (acc, .ok) := by rw [j1, List.drop_eq_nil_of_le (by rw [← HNN.out]; omega)]; rfl
      have HOC := hide hoc
      have J2 := hide j2
      have I2 := hide i2
      clear hoc j1 j2 i2 i5 jb
      by_cases h4 : n < 4
      · have hd4 : decide ((n : Int) < 4) = true := decide_eq_true (by omega)
        have hd4' : decide (n < 4) = true := decide_eq_true (by omega)
        have HR : Hid (addr l = ([0, 0, 0, 0], .one N 63)) := by show _ = _; rw [HAD.out, if_pos ⟨by rw [HOC.out], h4⟩]
        go_wp2_with fail
        refine (fault_at N 63 _).mono ?_
        rintro e w4 ⟨rfl, hb4⟩
        have h04 : w4.heap[w.heap.size]? = some (.cells z4 27) := (hb4.block _ (lt_of_some P0.out)).trans P0.out
        have h14 : w4.heap[w.heap.size + 1]? = some (.cells (badC .ok) 89) := (hb4.block _ (lt_of_some P1.out)).trans P1.out
        obtain ⟨f1, f2, f3, f4⟩ := fin2 h04 h14 z4 (badC (.one N 63))
        have f5 := f4 w (Nat.le_refl _) (P4.out.trans (hb4.mono P4.out.size))
        obtain ⟨W1, hW1⟩ : ∃ W1, W1 = w4.setRow w.heap.size z4 := ⟨_, rfl⟩
        rw [← hW1] at f1 f2 f3 f4 f5
        obtain ⟨W2, hW2⟩ : ∃ W2, W2 = W1.setRow (w.heap.size + 1) (badC (.one N 63)) := ⟨_, rfl⟩
        rw [← hW2] at f2 f3 f5
        have F0 := hide h04
        have F1 := hide f1
        have F2 := hide f2
        have F3 := hide f3
        have F5 := hide f5
        have HW1 := hide hW1
        have HW2 := hide hW2
        clear f1 f2 f3 f4 f5 hW1 hW2 h04 h14 hb4
        rw [badV_badC]
        go_wp2_with (first
          | (refine wpList_store_rowW rfl 27 _ _ rfl w.heap.size z4 rfl rfl 27 z4 F0.out info37 rfl z4_one W1 HW1.out ?_)
          | (refine wpList_store_rowW rfl 89 _ _ rfl (w.heap.size + 1) (badC (.one N 63)) rfl rfl 89 (badC .ok) F1.out info32 rfl (badC_one _) W2 HW2.out ?_))
        refine bodyPost_ret (res_cell_cell rfl _ _ w.heap.size 27 z4 (0, 0) _ rfl F2.out Tryz.underlying27 rfl info37 (w.heap.size + 1) 89 (badC (.one N 63)) (0, 0) _ rfl F3.out Tryz.underlying89 rfl info32) rfl ⟨?_, F5.out⟩
        rw [HR.out, badV_badC]; rfl
      · have hd4 : decide ((n : Int) < 4) = false := decide_eq_false (by omega)
        have hd4' : decide (n < 4) = false := decide_eq_false (by omega)
        have HR : Hid (addr l = (acc, .ok)) := by show _ = _; rw [HAD.out, if_neg (fun h => h4 h.2), HOC.out]
        obtain ⟨x0, x1, x2, x3, hacc⟩ : ∃ x0 x1 x2 x3, acc = [x0, x1, x2, x3] := by
          have hl := J2.out
          match acc, hl with
          | [a, b, c, d], _ => exact ⟨a, b, c, d, rfl⟩
          | [], h => simp at h; omega
          | [_], h => simp at h; omega
          | [_, _], h => simp at h; omega
          | [_, _, _], h => simp at h; omega
          | _ :: _ :: _ :: _ :: _ :: _, h => simp at h; omega
        have hi2 := I2.out
        rw [hacc, show 4 - k = 0 by omega] at hi2
        have e0 : wr.cell? ⟨w1.heap.size, 0, none⟩ = some (.int .u8 x0) := by rw [hi2.cell]; rfl
        have e1 : wr.cell? ⟨w1.heap.size, 1, none⟩ = some (.int .u8 x1) := by rw [hi2.cell]; rfl
        have e2 : wr.cell? ⟨w1.heap.size, 2, none⟩ = some (.int .u8 x2) := by rw [hi2.cell]; rfl
        have e3 : wr.cell? ⟨w1.heap.size, 3, none⟩ = some (.int .u8 x3) := by rw [hi2.cell]; rfl
        obtain ⟨f1, f2, f3, f4⟩ := fin2 P0.out P1.out #[.int .u8 x0, .int .u8 x1, .int .u8 x2, .int .u8 x3] (badC .ok)
        have f5 := f4 w (Nat.le_refl _) P4.out
        obtain ⟨W1, hW1⟩ : ∃ W1, W1 = wr.setRow w.heap.size #[.int .u8 x0, .int .u8 x1, .int .u8 x2, .int .u8 x3] := ⟨_, rfl⟩
        rw [← hW1] at f1 f2 f3 f4 f5
        obtain ⟨W2, hW2⟩ : ∃ W2, W2 = W1.setRow (w.heap.size + 1) (badC .ok) := ⟨_, rfl⟩
        rw [← hW2] at f2 f3 f5
        have F1 := hide f1
        have F2 := hide f2
        have F3 := hide f3
        have F5 := hide f5
        have HW1 := hide hW1
        have HW2 := hide hW2
        clear hi2 f1 f2 f3 f4 f5 hW1 hW2
        rw [hacc] at HR
        clear hacc
        go_wp2_with (first
          | (refine wpList_store_rowW rfl 27 _ _ rfl w.heap.size #[.int .u8 x0, .int .u8 x1, .int .u8 x2, .int .u8 x3] rfl rfl 27 z4 P0.out info37 rfl (by simp [Value.oneCell']) W1 HW1.out ?_)
          | (refine wpList_store_rowW rfl 89 _ _ rfl (w.heap.size + 1) (badC .ok) rfl rfl 89 (badC .ok) F1.out info32 rfl (badC_one _) W2 HW2.out ?_))
        refine bodyPost_ret (res_cell_cell rfl _ _ w.heap.size 27 #[.int .u8 x0, .int .u8 x1, .int .u8 x2, .int .u8 x3] (0, 0) _ rfl F2.out Tryz.underlying27 rfl info37 (w.heap.size + 1) 89 (badC .ok) (0, 0) _ rfl F3.out Tryz.underlying89 rfl info32) rfl ⟨?_, F5.out⟩
        rw [HR.out, badV_badC]; rfl
end Go.Proofs.YtccoddmdlbdfjaaGreatDoor
