/-
  refuse, wrap and readField of package head; conditions as each theorem has them.
-/
import Derived.Test.YthbnbnfhbkekpaaGreatDoorHC
import Derived.Test.YthbnbnfhbkekpaaGreatDoorD
import Derived.Test.YthbnbnfhbkekpaaGreatDoorL
import Derived.Test.YthbnbnfhbkekpaaGreatDoorX
set_option linter.unusedSimpArgs false
set_option linter.unusedVariables false
namespace Go.Proofs.YthbnbnfhbkekpaaGreatDoor
open Go.RowKit

theorem refuseH (a c : Nat) (w : World) : Calls Tryz.prog 38 #[.int .i64 a, .int .i64 c] w fun e w' => e = .returned (.iface 120 (.pointer (some ⟨w.heap.size, 0, none⟩))) ∧ w' = w.alloc (fltL ⟨#[104, 101, 97, 100]⟩ a (.iface 30 (.int .i64 c))) := by
  go_enter Tryz.func38, Tryz.ntmps38
  go_wp2
  go_ret
  exact ⟨rfl, rfl⟩
theorem refuseH_er (a c : Nat) (w : World) : Calls Tryz.prog 38 #[.int .i64 a, .int .i64 c] w fun e w' => ∃ v, e = .returned v ∧ IsH w' (.one a c) v ∧ Below w.heap.size w w' := by
  refine (refuseH a c w).mono ?_
  rintro e w' ⟨rfl, rfl⟩
  exact ⟨_, rfl, ⟨_, rfl, alloc_new _ _⟩, (Below.refl _ _).alloc (Nat.le_refl _) _⟩
theorem wrapH_nil (a : Nat) (w : World) : Calls Tryz.prog 79 #[.int .i64 a, .nilIface] w fun e w' => e = .returned .nilIface ∧ Below w.heap.size w w' := by
  go_enter Tryz.func79, Tryz.ntmps79
  go_wp2_with (first | (go_at_call 109; refine (as_nil _ _).mono ?_; rintro e w' ⟨rfl, rfl⟩))
  go_ret
  exact ⟨rfl, (Below.refl _ _).alloc (Nat.le_refl _) _⟩
theorem isEr_ptr {w : World} {e : Er} {v : Value} (h : IsEr w e v) (he : e ≠ .ok) : ∃ b, v = .iface 120 (.pointer (some ⟨b, 0, none⟩)) := by
  cases e with
  | ok => exact absurd rfl he
  | one a c => obtain ⟨b, hv, _⟩ := h; exact ⟨b, hv⟩
  | two a a2 c => obtain ⟨b, b2, hv, _⟩ := h; exact ⟨b, hv⟩
set_option maxRecDepth 100000 in
set_option maxHeartbeats 2000000 in
theorem wrapH_er (a : Nat) (er : Er) (v : Value) (w : World) (hE : VarE w) (he : er ≠ .ok) (h : IsEr w er v) : Calls Tryz.prog 79 #[.int .i64 a, v] w fun e w' => ∃ u, e = .returned u ∧ IsH w' (.wr a er) u ∧ Below w.heap.size w w' := by
  obtain ⟨b, rfl⟩ := isEr_ptr h he
  have H := hide h
  have HN := hide he
  have HE := hide (hE.below ((Below.refl _ w).alloc (Nat.le_refl _) (.cells #[.pointer none] 120)))
  clear h hE he
  go_enter Tryz.func79, Tryz.ntmps79
  go_wp2_with fail
  refine (as_hit ⟨b, 0, none⟩ ⟨w.heap.size, 0, none⟩ (.pointer none) _ HE.out (by simp) (by simp)).mono ?_
  rintro e w1 ⟨rfl, hw1⟩
  have hc : w1.cell? ⟨w.heap.size, 0, none⟩ = some (.pointer (some ⟨b, 0, none⟩)) := by
    rw [hw1]
    refine World.cell?_setCell_same' _ _ _ ?_
    rw [World.cell?_alloc_lt _ _ ⟨w.heap.size, 0, none⟩ (by simp; omega), World.cell?_alloc_lt _ _ ⟨w.heap.size, 0, none⟩ (by simp; omega), World.cell?_alloc_lt _ _ ⟨w.heap.size, 0, none⟩ (by simp; omega), World.cell?_alloc_lt _ _ ⟨w.heap.size, 0, none⟩ (by simp)]
    have hq : (w.alloc (.cells #[.pointer none] 120)).cell? ⟨w.heap.size, 0, none⟩ = some (.pointer none) := by simp
    rw [hq]; rfl
  have hbel : Below w.heap.size w w1 := by
    rw [hw1]
    repeat (first | exact Below.refl _ _ | refine Below.setCell ?_ (by simp) _ | refine Below.alloc ?_ (by simp; try omega) _)
  have HB := hide hbel
  have hz : w.heap.size ≤ w1.heap.size := hbel.size
  clear hw1 hbel
  go_wp2_with fail
  go_ret
  refine ⟨_, rfl, ⟨HN.out, _, _, rfl, alloc_new _ _, ?_⟩, HB.out.alloc hz _⟩
  exact H.out.below (HB.out.alloc hz _)

theorem idx_fst (d : UInt8) : ∀ l : List UInt8, Lib.index l [d] = match fst d.toNat (l.map UInt8.toNat) with | none => -1 | some k => (k : Int)
  | [] => rfl
  | c :: r => by
    have ih := idx_fst d r
    rw [Lib.index, List.map_cons, fst]
    by_cases h : c = d
    · subst h
      simp [List.isPrefixOf]
    · have hn : ¬ c.toNat = d.toNat := fun e => h (UInt8.toNat_inj.1 e)
      have hp : ([d] : List UInt8).isPrefixOf (c :: r) = false := by simp [List.isPrefixOf, Ne.symm h]
      rw [hp, if_neg hn, ih]
      cases fst d.toNat (r.map UInt8.toNat) with
      | none => simp
      | some k => simp
theorem cut_none (d : UInt8) (t : ByteArray) (h : fst d.toNat (byt t) = none) : Lib.cut t.data.toList [d] = (t.data.toList, [], false) := by
  have := idx_fst d t.data.toList
  unfold byt at h
  rw [h] at this
  unfold Lib.cut
  rw [this]; rfl
theorem cut_some (d : UInt8) (t : ByteArray) {k : Nat} (h : fst d.toNat (byt t) = some k) : Lib.cut t.data.toList [d] = (t.data.toList.take k, t.data.toList.drop (k + 1), true) := by
  have := idx_fst d t.data.toList
  unfold byt at h
  rw [h] at this
  unfold Lib.cut
  rw [this, if_pos (by simp)]
  simp
theorem strN_take (t : ByteArray) (k : Nat) : (⟨(t.data.toList.take k).toArray⟩ : ByteArray) = strN ((byt t).take k) := by
  rw [strN_mk, List.map_take]; rfl
theorem strN_drop (t : ByteArray) (k : Nat) : (⟨(t.data.toList.drop k).toArray⟩ : ByteArray) = strN ((byt t).drop k) := by
  rw [strN_mk, List.map_drop]; rfl
theorem info76 : (Tryz.prog.info? 76).map (·.size) = some 2 := by kernel_rfl
def z2 : Array Value := #[.string ⟨#[]⟩, .string ⟨#[]⟩]
/-- A field as cells. -/
def fdC (f : Fd) : Array Value := #[.string (strN f.1), .string (strN f.2)]
theorem fdC_one (f : Fd) : (fdC f).all (·.oneCell') = true := by simp [fdC, Value.oneCell']
theorem Vars.drewN {w : World} (h : Vars w) (n : Nat) : Vars (w.drewN n) := h
set_option maxRecDepth 100000 in
set_option maxHeartbeats 4000000 in
theorem readField_at (t : ByteArray) (w : World) (hm : t.size ≤ 8192) (hV : Vars w) : Calls Tryz.prog 82 #[.string t] w fun e w' => e = .returned (.tuple #[.agg (fdC (fld (byt t)).1), .int .i64 ((fld (byt t)).2 : Nat)]) ∧ Below w.heap.size w w' := by
  have HLT := hide (byt_lt t)
  have hsz := byt_length t
  have b0 : Below w.heap.size w (w.alloc (.cells z2 76)) := (Below.refl _ _).alloc (Nat.le_refl _) _
  obtain ⟨m, hmv⟩ := hV.below b0
  obtain ⟨W0, hW0⟩ : ∃ W0, W0 = w.alloc (.cells z2 76) := ⟨_, rfl⟩
  rw [← hW0] at hmv b0
  have HR0 : Hid (W0.heap[w.heap.size]? = some (.cells z2 76)) := by rw [hW0]; exact alloc_new _ _
  have HW0 : Hid (w.alloc (.cells #[.string ⟨#[]⟩, .string ⟨#[]⟩] 76) = W0) := hW0.symm
  have B0 := hide b0
  have HCU := hide (Tryz.strings_Cut t ⟨#[58]⟩ m W0 (by omega) hmv)
  rw [show (⟨#[58]⟩ : ByteArray).data.toList = [58] from rfl] at HCU
  have HM := hide hm
  have HSZ := hide hsz
  clear b0 hmv hW0 hV hm hsz
  have fin : Hid (∀ (cs : Fd) (c : Nat) (wN : World), fld (byt t) = (cs, c) → wN.heap[w.heap.size]? = some (.cells z2 76) → Below w.heap.size w wN → ∃ W2, W2 = wN.setRow w.heap.size (fdC cs) ∧ W2.heap[w.heap.size]? = some (.cells (fdC cs) 76) ∧ Below w.heap.size w W2) := fun cs c wN _ h1 h2 => ⟨_, rfl, setRow_heap _ _ _ _ _ h1, below_setRow h2 (Nat.le_refl _) _⟩
  cases hf : fst 58 (byt t) with
  | none =>
    rw [cut_none 58 t hf] at HCU
    have HR : Hid (fld (byt t) = (([], []), 80)) := by show _ = _; unfold fld; rw [hf]
    clear hf
    go_enter Tryz.func82, Tryz.ntmps82
    go_wp2_with fail
    rw [HW0.out]
    refine HCU.out.mono ?_
    rintro e w1 ⟨rfl, n, rfl⟩
    have HT := hide (trimmed_at ⟨#[]⟩ (W0.drewN n) (by decide))
    rw [show strN (trim (byt ⟨#[]⟩)) = ⟨#[]⟩ from rfl] at HT
    clear HCU
    go_wp2_with fail
    refine HT.out.mono ?_
    rintro e w2 ⟨rfl, hb2⟩
    have r2 : w2.heap[w.heap.size]? = some (.cells z2 76) := keepB hb2 (show (W0.drewN n).heap[w.heap.size]? = _ from HR0.out)
    have bb : Below w.heap.size w w2 := (below_drewN B0.out n).trans (hb2.mono (below_drewN B0.out n).size)
    obtain ⟨W2, hW2, f2, f5⟩ := fin.out ([], []) 80 w2 HR.out r2 bb
    have R2 := hide r2
    have F2 := hide f2
    have F5 := hide f5
    have HW2 := hide hW2
    clear hb2 r2 bb f2 f5 hW2 fin HT
    go_wp2_with (first | (refine wpList_store_rowW rfl 76 _ _ rfl w.heap.size (fdC ([], [])) rfl rfl 76 z2 R2.out info76 rfl (fdC_one _) W2 HW2.out ?_))
    refine bodyPost_ret (res_cell_tmp rfl _ _ w.heap.size 76 (fdC ([], [])) (0, 0) _ rfl F2.out Tryz.underlying76 rfl info76) rfl ⟨?_, F5.out⟩
    rw [HR.out]; rfl
  | some k =>
    rw [cut_some 58 t hf, strN_take, strN_drop] at HCU
    obtain ⟨x, hx⟩ : ∃ x, x = (byt t).take k := ⟨_, rfl⟩
    obtain ⟨y, hy⟩ : ∃ y, y = (byt t).drop (k + 1) := ⟨_, rfl⟩
    have hxb : ∀ c ∈ x, c < 256 := fun c hc => HLT.out c (by rw [hx] at hc; exact List.mem_of_mem_take hc)
    have hyb : ∀ c ∈ y, c < 256 := fun c hc => HLT.out c (by rw [hy] at hc; exact List.mem_of_mem_drop hc)
    have hxl : x.length ≤ 8192 := by have h1 := HM.out; have h2 := HSZ.out; rw [hx, List.length_take]; omega
    have hyl : y.length ≤ 8192 := by have h1 := HM.out; have h2 := HSZ.out; rw [hy, List.length_drop]; omega
    have HF : Hid (fld (byt t) = if lone (byt t) = true then (([], []), 80) else if tok x = false then (([], []), 81) else if value (trim y) = false then (([], []), 83) else ((x, trim y), 0)) := by
      show _ = _
      unfold fld
      rw [hf, hx, hy]
    rw [← hx, ← hy] at HCU
    obtain ⟨z, hz⟩ : ∃ z, z = trim y := ⟨_, rfl⟩
    have hzb : ∀ c ∈ z, c < 256 := fun c hc => hyb c (by rw [hz] at hc; exact trim_mem hc)
    have hzl : z.length ≤ 8192 := by
      rw [hz]
      have h1 : (trimR y).length ≤ y.length := by unfold trimR; rw [List.length_reverse]; have := dw_len bk y.reverse; rw [List.length_reverse] at this; exact this
      have h2 : (trim y).length ≤ (trimR y).length := dw_len bk _
      omega
    have HT : Hid (∀ W, Calls Tryz.prog 67 #[.string (strN y)] W fun e w' => e = .returned (.string (strN z)) ∧ Below W.heap.size W w') := fun W => by
      have := trimmed_at (strN y) W (by rw [strN_size]; unfold maxLen; omega)
      rw [byt_strN y hyb, ← hz] at this
      exact this
    have HLO : Hid (∀ W, Calls Tryz.prog 77 #[.string t] W fun e w' => e = .returned (.bool (lone (byt t))) ∧ Below W.heap.size W w') := fun W => loneEnd_at t W (by have := HM.out; omega)
    have HTO : Hid (∀ W, Calls Tryz.prog 29 #[.string (strN x)] W fun e w' => e = .returned (.bool (tok x)) ∧ Below W.heap.size W w') := fun W => by
      have := token_at (strN x) W (by rw [strN_size]; unfold maxLen; omega)
      rw [byt_strN x hxb] at this
      exact this
    have HVA : Hid (∀ W, Calls Tryz.prog 31 #[.string (strN z)] W fun e w' => e = .returned (.bool (value z)) ∧ Below W.heap.size W w') := fun W => by
      have := value_at (strN z) W (by rw [strN_size]; unfold maxLen; omega)
      rw [byt_strN z hzb] at this
      exact this
    rw [← hz] at HF
    obtain ⟨X, hX⟩ : ∃ X, X = strN x := ⟨_, rfl⟩
    obtain ⟨Y, hY⟩ : ∃ Y, Y = strN y := ⟨_, rfl⟩
    obtain ⟨Z, hZ⟩ : ∃ Z, Z = strN z := ⟨_, rfl⟩
    have HFD : Hid (fdC (x, z) = #[.string X, .string Z]) := by show _ = _; rw [hX, hZ]; rfl
    rw [← hX, ← hY] at HCU
    rw [← hX] at HTO
    rw [← hY, ← hZ] at HT
    rw [← hZ] at HVA
    clear hf hx hy hxb hyb hxl hyl hz hzb hzl hX hY hZ
    go_enter Tryz.func82, Tryz.ntmps82
    go_wp2_with fail
    rw [HW0.out]
    refine HCU.out.mono ?_
    rintro e w1 ⟨rfl, n, rfl⟩
    have R1 : Hid ((W0.drewN n).heap[w.heap.size]? = some (.cells z2 76)) := HR0.out
    have B1 := hide (below_drewN B0.out n)
    obtain ⟨w1, hw1⟩ : ∃ w1, w1 = W0.drewN n := ⟨_, rfl⟩
    rw [← hw1] at R1 B1
    rw [← hw1]
    clear hw1 HCU HR0 B0 HW0
    go_wp2_with fail
    refine (HT.out _).mono ?_
    rintro e w2 ⟨rfl, hb2⟩
    have R2 := hide (keepB hb2 R1.out)
    have B2 := hide (B1.out.trans (hb2.mono B1.out.size))
    clear hb2 HT R1 B1
    go_wp2_with fail
    refine (HLO.out _).mono ?_
    rintro e w3 ⟨rfl, hb3⟩
    have R3 := hide (keepB hb3 R2.out)
    have B3 := hide (B2.out.trans (hb3.mono B2.out.size))
    clear hb3 HLO R2 B2
    cases hlo : lone (byt t) with
    | true =>
      have HR : Hid (fld (byt t) = (([], []), 80)) := by show _ = _; rw [HF.out, if_pos hlo]
      obtain ⟨W2, hW2, f2, f5⟩ := fin.out ([], []) 80 w3 HR.out R3.out B3.out
      have F2 := hide f2
      have F5 := hide f5
      have HW2 := hide hW2
      clear hlo f2 f5 hW2 fin
      go_wp2_with (first | (refine wpList_store_rowW rfl 76 _ _ rfl w.heap.size (fdC ([], [])) rfl rfl 76 z2 R3.out info76 rfl (fdC_one _) W2 HW2.out ?_))
      refine bodyPost_ret (res_cell_tmp rfl _ _ w.heap.size 76 (fdC ([], [])) (0, 0) _ rfl F2.out Tryz.underlying76 rfl info76) rfl ⟨?_, F5.out⟩
      rw [HR.out]; rfl
    | false =>
      go_wp2_with fail
      refine (HTO.out _).mono ?_
      rintro e w4 ⟨rfl, hb4⟩
      have R4 := hide (keepB hb4 R3.out)
      have B4 := hide (B3.out.trans (hb4.mono B3.out.size))
      clear hb4 HTO R3 B3
      cases hto : tok x with
      | false =>
        have HR : Hid (fld (byt t) = (([], []), 81)) := by show _ = _; rw [HF.out, if_neg (by simp [hlo]), if_pos hto]
        obtain ⟨W2, hW2, f2, f5⟩ := fin.out ([], []) 81 w4 HR.out R4.out B4.out
        have F2 := hide f2
        have F5 := hide f5
        have HW2 := hide hW2
        clear hlo hto f2 f5 hW2 fin
        go_wp2_with (first | (refine wpList_store_rowW rfl 76 _ _ rfl w.heap.size (fdC ([], [])) rfl rfl 76 z2 R4.out info76 rfl (fdC_one _) W2 HW2.out ?_))
        refine bodyPost_ret (res_cell_tmp rfl _ _ w.heap.size 76 (fdC ([], [])) (0, 0) _ rfl F2.out Tryz.underlying76 rfl info76) rfl ⟨?_, F5.out⟩
        rw [HR.out]; rfl
      | true =>
        go_wp2_with fail
        refine (HVA.out _).mono ?_
        rintro e w5 ⟨rfl, hb5⟩
        have R5 := hide (keepB hb5 R4.out)
        have B5 := hide (B4.out.trans (hb5.mono B4.out.size))
        clear hb5 HVA R4 B4
        cases hva : value z with
        | false =>
          have HR : Hid (fld (byt t) = (([], []), 83)) := by show _ = _; rw [HF.out, if_neg (by simp [hlo]), if_neg (by simp [hto]), if_pos hva]
          obtain ⟨W2, hW2, f2, f5⟩ := fin.out ([], []) 83 w5 HR.out R5.out B5.out
          have F2 := hide f2
          have F5 := hide f5
          have HW2 := hide hW2
          clear hlo hto hva f2 f5 hW2 fin
          go_wp2_with (first | (refine wpList_store_rowW rfl 76 _ _ rfl w.heap.size (fdC ([], [])) rfl rfl 76 z2 R5.out info76 rfl (fdC_one _) W2 HW2.out ?_))
          refine bodyPost_ret (res_cell_tmp rfl _ _ w.heap.size 76 (fdC ([], [])) (0, 0) _ rfl F2.out Tryz.underlying76 rfl info76) rfl ⟨?_, F5.out⟩
          rw [HR.out]; rfl
        | true =>
          have HR : Hid (fld (byt t) = ((x, z), 0)) := by show _ = _; rw [HF.out, if_neg (by simp [hlo]), if_neg (by simp [hto]), if_neg (by simp [hva])]
          obtain ⟨W2, hW2, f2, f5⟩ := fin.out (x, z) 0 w5 HR.out R5.out B5.out
          rw [HFD.out] at hW2 f2
          have F2 := hide f2
          have F5 := hide f5
          have HW2 := hide hW2
          clear hlo hto hva f2 f5 hW2 fin
          go_wp2_with (first | (refine wpList_store_rowW rfl 76 _ _ rfl w.heap.size #[.string X, .string Z] rfl rfl 76 z2 R5.out info76 rfl (by simp [Value.oneCell']) W2 HW2.out ?_))
          refine bodyPost_ret (res_cell_tmp rfl _ _ w.heap.size 76 #[.string X, .string Z] (0, 0) _ rfl F2.out Tryz.underlying76 rfl info76) rfl ⟨?_, F5.out⟩
          rw [HR.out, HFD.out]; rfl
end Go.Proofs.YthbnbnfhbkekpaaGreatDoor
