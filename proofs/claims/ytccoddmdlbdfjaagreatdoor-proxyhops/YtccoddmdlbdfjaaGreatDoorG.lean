/-
  ParseAddr of package host; conditions as each theorem has them.
-/
import Derived.Test.YtccoddmdlbdfjaaGreatDoorJoinedF
set_option linter.unusedSimpArgs false
set_option linter.unusedVariables false
namespace Go.Proofs.YtccoddmdlbdfjaaGreatDoor
open Go.RowKit

def z4 : Array Value := #[.int .u8 0, .int .u8 0, .int .u8 0, .int .u8 0]
theorem z4_one : z4.all (·.oneCell') = true := by simp [z4, Value.oneCell']
theorem octs_len : ∀ (ps : List (List Nat)) (i a : Nat) (acc : List Nat), (octs i a ps acc).2 = .ok → (octs i a ps acc).1.length = acc.length + ps.length
  | [], i, a, acc, _ => by simp [octs]
  | p :: ps, i, a, acc, h => by
    unfold octs at h ⊢
    split at h
    · cases h
    · rename_i h4
      rw [if_neg h4]
      split at h
      · cases h
      · rename_i n hn
        rw [octs_len ps _ _ _ h]
        simp; omega
/-- The variable that cuts texts up to a length holds some number. -/
def Vars (w : World) : Prop := ∃ m : Int, w.cell? ⟨0, 0, none⟩ = some (.int .i64 m)
theorem Vars.below {w w' : World} (h : Vars w) (k : Below w.heap.size w w') : Vars w' := by
  obtain ⟨m, hm⟩ := h
  exact ⟨m, (k.cell (p := ⟨0, 0, none⟩) (lt_of_cell hm)).trans hm⟩

set_option maxRecDepth 100000 in
set_option maxHeartbeats 2000000 in
theorem parseAddr_at (t : ByteArray) (w : World) (hm : t.size ≤ maxLen) (hV : Vars w) : Calls Tryz.prog 160 #[.string t] w fun e w' => ∃ v, e = .returned (.tuple #[.agg (nums .u8 (addr (byt t)).1).toArray, v]) ∧ IsEr w' (addr (byt t)).2 v ∧ Below w.heap.size w w' := by
  obtain ⟨l, hl⟩ : ∃ l, l = byt t := ⟨_, rfl⟩
  rw [← hl]
  have HL : Hid (byt t = l) := hl.symm
  obtain ⟨N, hN⟩ : ∃ N, N = t.size := ⟨_, rfl⟩
  have HNL : Hid (N = l.length) := by show _ = _; rw [hN, hl, byt_length]
  have HLT : Hid (∀ x ∈ l, x < 256) := by rw [hl]; exact byt_lt t
  have hNI : (t.size : Int) = (N : Int) := by rw [hN]
  have HN := hide hN
  rw [← hN] at hm
  unfold maxLen at hm
  obtain ⟨m, hV⟩ := hV
  have HV := hide hV
  have h0 := lt_of_cell hV
  simp only at h0
  clear hl hN hV
  by_cases h253 : 253 < N
  · have HR : Hid (addr l = ([0, 0, 0, 0], .one 253 3)) := by show _ = _; rw [addr, if_pos (by rw [← HNL.out]; exact h253)]
    have hd : decide (253 < (N : Int)) = true := decide_eq_true (by omega)
    have hd' : decide (253 < N) = true := decide_eq_true (by omega)
    go_enter Tryz.func160, Tryz.ntmps160
    go_wp2_with fail
    obtain ⟨wr, hwr⟩ : ∃ wr, wr = w.alloc (.cells z4 27) := ⟨_, rfl⟩
    have i1 : wr.heap[w.heap.size]? = some (.cells z4 27) := by rw [hwr]; exact alloc_new _ _
    have i4 : Below w.heap.size w wr := by rw [hwr]; exact (Below.refl _ _).alloc (Nat.le_refl _) _
    simp only [show w.alloc (.cells #[.int .u8 0, .int .u8 0, .int .u8 0, .int .u8 0] 27) = wr from hwr.symm]
    clear hwr
    refine (refuse_at 253 3 _).mono ?_
    rintro e w' ⟨rfl, rfl⟩
    obtain ⟨f1, f2, f3, f4⟩ := fin_err i1 z4 253 3
    have f5 := f4 w (Nat.le_refl _) i4
    obtain ⟨W1, hW1⟩ : ∃ W1, W1 = wr.alloc (flt 253 (.iface 44 (.int .i64 ((3 : Nat) : Int)))) := ⟨_, rfl⟩
    rw [← hW1] at f1 f2 f3 f4 f5
    obtain ⟨W2, hW2⟩ : ∃ W2, W2 = W1.setRow w.heap.size z4 := ⟨_, rfl⟩
    rw [← hW2] at f2 f3 f5
    have F1 := hide f1
    have F2 := hide f2
    have F3 := hide f3
    have F5 := hide f5
    have HW2 := hide hW2
    rw [← hW1]
    clear f1 f2 f3 f4 f5 hW1 hW2
    go_wp2_with (first | (refine wpList_store_rowW rfl 27 _ _ rfl w.heap.size z4 rfl rfl 27 z4 F1.out info37 rfl z4_one W2 HW2.out ?_))
    refine bodyPost_ret (res_cell_tmp rfl _ _ w.heap.size 27 z4 (0, 0) _ rfl F2.out Tryz.underlying27 rfl info37) rfl ⟨.iface 145 (.pointer (some ⟨wr.heap.size, 0, none⟩)), ?_, ?_, F5.out⟩
    · rw [HR.out]; rfl
    · rw [HR.out]; exact F3.out
  have hd : decide (253 < (N : Int)) = false := decide_eq_false (by omega)
  have hd' : decide (253 < N) = false := decide_eq_false (by omega)
  have hN253 : N ≤ 253 := by omega
  clear h253
  obtain ⟨ps, hps⟩ : ∃ ps, ps = pcs l := ⟨_, rfl⟩
  have hln := pcs_len l
  rw [← hps] at hln
  have HPL : Hid (∀ p ∈ ps, p.length ≤ N) := fun p hp => by have := hln.2 p hp; have := HNL.out; omega
  have HPB : Hid (∀ p ∈ ps, ∀ x ∈ p, x < 256) := by rw [hps]; exact pcs_lt HLT.out
  have hln1 := hln.1
  obtain ⟨n, hn⟩ : ∃ n, n = ps.length := ⟨_, rfl⟩
  have hn254 : n ≤ 254 := by have := HNL.out; omega
  have HAD : Hid (addr l = if (octs 0 0 ps []).2 = .ok ∧ n < 4 then ([0, 0, 0, 0], .one N 63) else octs 0 0 ps []) := by
    show _ = _
    rw [addr, if_neg (by rw [← HNL.out]; omega), ← hps, ← hn, ← HNL.out]
  have HPS : Hid (pcs (byt t) = ps) := by show _ = _; rw [HL.out, hps]
  have HNN := hide hn
  clear hln hln1 hps hn
  go_enter Tryz.func160, Tryz.ntmps160
  go_wp2_with fail
  refine (split_at t m _ (w.heap.size + 1 + 1) (by simp) (by rw [← HN.out]; omega) (by
    rw [World.cell?_alloc_lt _ _ ⟨0, 0, none⟩ (by simp), World.cell?_alloc_lt _ _ ⟨0, 0, none⟩ h0]; exact HV.out)).mono ?_
  rintro e w1 ⟨rfl, hw1⟩
  rw [HPS.out] at hw1 ⊢
  rw [← HNN.out]
  have i1 : w1.heap[w.heap.size]? = some (.cells z4 27) := by rw [hw1]; exact alloc_old _ (alloc_old _ (alloc_new _ _))
  have i2 : Row w1 (w.heap.size + 1) 229 (nums .u8 ([] ++ List.replicate 4 0)) := by
    rw [hw1]
    have := alloc_new2 w (.cells z4 27) (.cells z4 229)
    exact alloc_old _ this
  have i3 : Row w1 (w.heap.size + 1 + 1) 9 (strs ps) := by
    rw [hw1]
    have := Row.new ((w.alloc (.cells z4 27)).alloc (.cells z4 229)) (strs ps).toArray 9
    simpa [z4] using this
  have i4 : Below w.heap.size w w1 := by
    rw [hw1]; exact (((Below.refl _ _).alloc (Nat.le_refl _) _).alloc (by simp) _).alloc (by simp; omega) _
  have HI : Hid (w1.heap[w.heap.size]? = some (.cells z4 27) ∧ Row w1 (w.heap.size + 1) 229 (nums .u8 ([] ++ List.replicate 4 0)) ∧ Row w1 (w.heap.size + 1 + 1) 9 (strs ps) ∧ Below w.heap.size w w1) := ⟨i1, i2, i3, i4⟩
  clear i1 i2 i3 i4 hw1
  go_wp2_with fail
  go_loopw [6, 20] (fun at_ i wr => ∃ k a : Nat, k ≤ n ∧ k ≤ 4 ∧ i = .int .i64 k ∧ at_ = .int .i64 a ∧ a ≤ 254 * k ∧ Hid (∃ acc : List Nat, octs 0 0 ps [] = octs k a (ps.drop k) acc ∧ acc.length = k ∧ (∀ x ∈ acc, x < 256) ∧ wr.heap[w.heap.size]? = some (.cells z4 27) ∧ Row wr (w.heap.size + 1) 229 (nums .u8 (acc ++ List.replicate (4 - k) 0)) ∧ Row wr (w.heap.size + 1 + 1) 9 (strs ps) ∧ Below w.heap.size w wr)) (fun _ i _ => n - (intOf i).toNat)
  case atStart => exact ⟨0, 0, by omega, by omega, rfl, rfl, by omega, [], rfl, rfl, by simp, HI.out⟩
  case round =>
    obtain ⟨k, a, hk, hk4, rfl, rfl, ha, HI⟩ := hrel
    obtain ⟨acc, j1, j2, j3, i1, i2, i3, i4⟩ := HI.out
    by_cases hkn : k < n
    · have hkn' : k < ps.length := by rw [← HNN.out]; exact hkn
      have hc : wr.cell? ⟨w.heap.size + 1 + 1, k, none⟩ = some (.string (strN (ps.getD k []))) := by rw [i3.cell]; exact strs_get ps k hkn'
      obtain ⟨p, hp⟩ : ∃ p, p = ps.getD k [] := ⟨_, rfl⟩
      have hpm : p ∈ ps := by rw [hp]; exact getD_mem hkn'
      have hpl := HPL.out p hpm
      have hpb := HPB.out p hpm
      rw [drop_getD (d := []) hkn', ← hp] at j1
      rw [← hp] at hc
      have hdn : decide ((k : Int) < (n : Int)) = true := decide_eq_true (by omega)
      have hps : ((strN p).size : Int) = (p.length : Int) := by rw [strN_size]
      obtain ⟨P, hP⟩ : ∃ P, P = p.length := ⟨_, rfl⟩
      rw [← hP] at hps hpl
      have HP := hide hP
      have HPB' := hide hpb
      have J1 := hide j1
      have J2 := hide j2
      have J3 := hide j3
      have I1 := hide i1
      have I2 := hide i2
      have I3 := hide i3
      have I4 := hide i4
      clear hp hpm hpb j1 j2 j3 i1 i2 i3 i4 hP
      by_cases h4 : k = 4
      · have hb : ((k : Int) == 4) = true := by simp; omega
        have HR : Hid (addr l = ([0, 0, 0, 0], .one a 63)) := by
          have e : octs 0 0 ps [] = ([0, 0, 0, 0], .one a 63) := by rw [J1.out, octs, if_pos h4]
          show _ = _
          rw [HAD.out, e, if_neg (by simp)]
        clear h4
        go_wp2_with fail
        refine (refuse_at a 63 _).mono ?_
        rintro e w' ⟨rfl, rfl⟩
        obtain ⟨f1, f2, f3, f4⟩ := fin_err I1.out z4 a 63
        have f5 := f4 w (Nat.le_refl _) I4.out
        obtain ⟨W1, hW1⟩ : ∃ W1, W1 = wr.alloc (flt a (.iface 44 (.int .i64 ((63 : Nat) : Int)))) := ⟨_, rfl⟩
        rw [← hW1] at f1 f2 f3 f4 f5
        obtain ⟨W2, hW2⟩ : ∃ W2, W2 = W1.setRow w.heap.size z4 := ⟨_, rfl⟩
        rw [← hW2] at f2 f3 f5
        have F1 := hide f1
        have F2 := hide f2
        have F3 := hide f3
        have F5 := hide f5
        have HW2 := hide hW2
        rw [← hW1]
        clear f1 f2 f3 f4 f5 hW1 hW2
        go_wp2_with (first | (refine wpList_store_rowW rfl 27 _ _ rfl w.heap.size z4 rfl rfl 27 z4 F1.out info37 rfl z4_one W2 HW2.out ?_))
        refine bodyPost_ret (res_cell_tmp rfl _ _ w.heap.size 27 z4 (0, 0) _ rfl F2.out Tryz.underlying27 rfl info37) rfl ⟨.iface 145 (.pointer (some ⟨wr.heap.size, 0, none⟩)), ?_, ?_, F5.out⟩
        · rw [HR.out]; rfl
        · rw [HR.out]; exact F3.out
      · have hb : ((k : Int) == 4) = false := by simp; omega
        have H4 := hide h4
        clear h4
        have hsz : (strN p).size ≤ maxLen := by rw [strN_size, ← HP.out]; unfold maxLen; omega
        have HSZ := hide hsz
        clear hsz
        go_wp2_with fail
        refine (readNumber_at (strN p) 255 _ HSZ.out (by omega)).mono ?_
        rintro e w2 ⟨rfl, rfl⟩
        rw [byt_strN p HPB'.out]
        cases hrd : rd p 255 with
        | none =>
          have HR : Hid (addr l = ([0, 0, 0, 0], .one a 60)) := by
            have e : octs 0 0 ps [] = ([0, 0, 0, 0], .one a 60) := by rw [J1.out, octs, if_neg H4.out, hrd]
            show _ = _
            rw [HAD.out, e, if_neg (by simp)]
          clear hrd
          simp only [two, Option.getD_none, Option.isSome_none]
          go_wp2_with fail
          refine (refuse_at a 60 _).mono ?_
          rintro e w' ⟨rfl, rfl⟩
          obtain ⟨f1, f2, f3, f4⟩ := fin_err I1.out z4 a 60
          have f5 := f4 w (Nat.le_refl _) I4.out
          obtain ⟨W1, hW1⟩ : ∃ W1, W1 = wr.alloc (flt a (.iface 44 (.int .i64 ((60 : Nat) : Int)))) := ⟨_, rfl⟩
          rw [← hW1] at f1 f2 f3 f4 f5
          obtain ⟨W2, hW2⟩ : ∃ W2, W2 = W1.setRow w.heap.size z4 := ⟨_, rfl⟩
          rw [← hW2] at f2 f3 f5
          have F1 := hide f1
          have F2 := hide f2
          have F3 := hide f3
          have F5 := hide f5
          have HW2 := hide hW2
          rw [← hW1]
          clear f1 f2 f3 f4 f5 hW1 hW2
          go_wp2_with (first | (refine wpList_store_rowW rfl 27 _ _ rfl w.heap.size z4 rfl rfl 27 z4 F1.out info37 rfl z4_one W2 HW2.out ?_))
          refine bodyPost_ret (res_cell_tmp rfl _ _ w.heap.size 27 z4 (0, 0) _ rfl F2.out Tryz.underlying27 rfl info37) rfl ⟨.iface 145 (.pointer (some ⟨wr.heap.size, 0, none⟩)), ?_, ?_, F5.out⟩
          · rw [HR.out]; rfl
          · rw [HR.out]; exact F3.out
        | some v =>
          have hv : v ≤ 255 := by
            unfold rd at hrd
            split at hrd
            · rename_i h; simp at hrd; omega
            · cases hrd
          have HN1 : Hid (octs 0 0 ps [] = octs (k + 1) (a + P + 1) (ps.drop (k + 1)) (acc ++ [v])) := by
            show _ = _
            rw [J1.out, octs, if_neg H4.out, hrd, HP.out]
          clear hrd
          have hcl : wr.cell? ⟨w.heap.size + 1, k, none⟩ = some (.int .u8 0) := by
            have hh := H4.out
            rw [I2.out.cell, nums_append, List.getElem?_append_right (by rw [nums_length, J2.out]; omega), nums_length, J2.out, Nat.sub_self, nums_get .u8 _ 0 (by simp; omega)]
            simp [List.getD, show 0 < 4 - k by omega]
          have hfr := I2.out.frozen k
          have hk4' : (k : Int) < 4 := by have := H4.out; omega
          simp only [two, Option.getD_some, Option.isSome_some]
          go_wp2_with fail
          go_roundw
          case rel =>
            have hh := H4.out
            refine ⟨k + 1, a + P + 1, by omega, by omega, by go_num, by go_num, by omega, acc ++ [v], HN1.out, by simp [J2.out], ?_, ?_, ?_, ?_, ?_⟩
            · intro x hx; simp at hx; rcases hx with hx | rfl
              · exact J3.out x hx
              · omega
            · rw [Below.heap_setCell _ _ _ _ (by simp)]; exact I1.out
            · have := I2.out.setNum0 k v
              have e : (acc ++ List.replicate (4 - k) 0).set k v = acc ++ [v] ++ List.replicate (4 - (k + 1)) 0 := by
                rw [List.set_append_right _ _ (by rw [J2.out]; omega), J2.out, Nat.sub_self, show 4 - k = (4 - (k + 1)) + 1 by omega, List.replicate_succ, List.set_cons_zero, List.append_assoc]; rfl
              rw [e] at this
              exact this
            · exact I3.out.keep (Below.heap_setCell _ _ _ _ (by simp))
            · exact I4.out.setCell (by simp) _
          case measure => simp [intOf]; omega
    · have hkn2 : k = n := by omega
      have hdn : decide ((k : Int) < (n : Int)) = false := decide_eq_false (by omega)
      have hoc : octs 0 0 ps [] = (acc, .ok) := by rw [j1, List.drop_eq_nil_of_le (by rw [← HNN.out]; omega)]; rfl
      have HOC := hide hoc
      have J2 := hide j2
      have J3 := hide j3
      have I1 := hide i1
      have I2 := hide i2
      have I4 := hide i4
      clear hoc j1 j2 j3 i1 i2 i3 i4
      by_cases h4 : n < 4
      · have hd4 : decide ((n : Int) < 4) = true := decide_eq_true (by omega)
        have hd4' : decide (n < 4) = true := decide_eq_true (by omega)
        have HR : Hid (addr l = ([0, 0, 0, 0], .one N 63)) := by show _ = _; rw [HAD.out, if_pos ⟨by rw [HOC.out], h4⟩]
        go_wp2_with fail
        refine (refuse_at N 63 _).mono ?_
        rintro e w' ⟨rfl, rfl⟩
        obtain ⟨f1, f2, f3, f4⟩ := fin_err I1.out z4 N 63
        have f5 := f4 w (Nat.le_refl _) I4.out
        obtain ⟨W1, hW1⟩ : ∃ W1, W1 = wr.alloc (flt N (.iface 44 (.int .i64 ((63 : Nat) : Int)))) := ⟨_, rfl⟩
        rw [← hW1] at f1 f2 f3 f4 f5
        obtain ⟨W2, hW2⟩ : ∃ W2, W2 = W1.setRow w.heap.size z4 := ⟨_, rfl⟩
        rw [← hW2] at f2 f3 f5
        have F1 := hide f1
        have F2 := hide f2
        have F3 := hide f3
        have F5 := hide f5
        have HW2 := hide hW2
        rw [← hW1]
        clear f1 f2 f3 f4 f5 hW1 hW2
        go_wp2_with (first | (refine wpList_store_rowW rfl 27 _ _ rfl w.heap.size z4 rfl rfl 27 z4 F1.out info37 rfl z4_one W2 HW2.out ?_))
        refine bodyPost_ret (res_cell_tmp rfl _ _ w.heap.size 27 z4 (0, 0) _ rfl F2.out Tryz.underlying27 rfl info37) rfl ⟨.iface 145 (.pointer (some ⟨wr.heap.size, 0, none⟩)), ?_, ?_, F5.out⟩
        · rw [HR.out]; rfl
        · rw [HR.out]; exact F3.out
      · have hd4 : decide ((n : Int) < 4) = false := decide_eq_false (by omega)
        have hd4' : decide (n < 4) = false := decide_eq_false (by omega)
        have HR : Hid (addr l = (acc, .ok)) := by show _ = _; rw [HAD.out, if_neg (fun h => h4 h.2), HOC.out]
        obtain ⟨x0, x1, x2, x3, hacc⟩ : ∃ x0 x1 x2 x3, acc = [x0, x1, x2, x3] := by
          have hl := J2.out
          match acc, hl with
          | [a, b, c, d], _ => exact ⟨a, b, c, d, rfl⟩
          | [], h => simp at h; omega
          | [_], h => simp at h; omega
          | [_, _], h => simp at h; omega
          | [_, _, _], h => simp at h; omega
          | _ :: _ :: _ :: _ :: _ :: _, h => simp at h; omega
        have hi2 := I2.out
        rw [hacc, show 4 - k = 0 by omega] at hi2
        have e0 : wr.cell? ⟨w.heap.size + 1, 0, none⟩ = some (.int .u8 x0) := by rw [hi2.cell]; rfl
        have e1 : wr.cell? ⟨w.heap.size + 1, 1, none⟩ = some (.int .u8 x1) := by rw [hi2.cell]; rfl
        have e2 : wr.cell? ⟨w.heap.size + 1, 2, none⟩ = some (.int .u8 x2) := by rw [hi2.cell]; rfl
        have e3 : wr.cell? ⟨w.heap.size + 1, 3, none⟩ = some (.int .u8 x3) := by rw [hi2.cell]; rfl
        obtain ⟨W2, hW2⟩ : ∃ W2, W2 = wr.setRow w.heap.size #[.int .u8 x0, .int .u8 x1, .int .u8 x2, .int .u8 x3] := ⟨_, rfl⟩
        have f2 : W2.heap[w.heap.size]? = some (.cells #[.int .u8 x0, .int .u8 x1, .int .u8 x2, .int .u8 x3] 27) := by rw [hW2]; exact setRow_heap _ _ _ _ _ I1.out
        have F5 : Hid (Below w.heap.size w W2) := by rw [hW2]; exact below_setRow I4.out (Nat.le_refl _) _
        have F2 := hide f2
        have HW2 := hide hW2
        clear hi2 f2 hW2
        rw [hacc] at HR
        clear hacc
        go_wp2_with (first | (refine wpList_store_rowW rfl 27 _ _ rfl w.heap.size #[.int .u8 x0, .int .u8 x1, .int .u8 x2, .int .u8 x3] rfl rfl 27 z4 I1.out info37 rfl (by simp [Value.oneCell']) W2 HW2.out ?_))
        refine bodyPost_ret (res_cell_tmp rfl _ _ w.heap.size 27 #[.int .u8 x0, .int .u8 x1, .int .u8 x2, .int .u8 x3] (0, 0) _ rfl F2.out Tryz.underlying27 rfl info37) rfl ⟨.nilIface, ?_, ?_, F5.out⟩
        · rw [HR.out]; rfl
        · rw [HR.out]; rfl
end Go.Proofs.YtccoddmdlbdfjaaGreatDoor
