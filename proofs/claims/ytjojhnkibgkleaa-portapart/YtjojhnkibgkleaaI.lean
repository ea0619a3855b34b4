/-
  Events at a port that was made, and at none; conditions as each theorem has them.
-/
import Derived.Test.YtjojhnkibgkleaaH
set_option linter.unusedSimpArgs false
set_option linter.unusedVariables false
set_option maxRecDepth 8000
namespace Go.Proofs.Ytjojhnkibgkleaa
open Go.RowKit Go.Lib

theorem grow_from {S : Nat → Prop} {a b' c : World} {b eb : Nat} {gv ov : Value} {R G : Nat → Nat} {P : Pt} (hB : a.heap.size ≤ b'.heap.size) (h : IsPort c (grow S b' c) b eb gv ov R G P) : IsPort c (grow S a c) b eb gv ov R G P :=
  h.wide (fun j hj => by
    rcases hj with hj | hj
    · exact Or.inl hj
    · exact Or.inr ⟨Nat.le_trans hB hj.1, hj.2⟩) (fun j hj => by
    rcases hj with hj | hj
    · exact h.lt j (Or.inl hj)
    · exact hj.2)
set_option maxRecDepth 100000 in
set_option maxHeartbeats 1000000 in
theorem event_un (v : Value) (k e N : Int) (d : ByteArray) (ra : Option Addr) (rn rc : Nat) (w : World) (h : NoPort w v) :
    Calls Try.prog 13 #[v, .agg #[.int .i64 k, .int .i64 e, .int .i64 N, .string d, .slice ra rn rc]] w fun x w' => x = .returned (.tuple #[.int .i64 0, .int .i64 1]) ∧ Below w.heap.size w w' := by
  have hbx := ev_below w (.int .i64 k) (.int .i64 e) (.int .i64 N) (.string d) (.slice ra rn rc)
  have HN : Hid (NoPort (w.alloc (.cells #[.int .i64 k, .int .i64 e, .int .i64 N, .string d, .slice ra rn rc] 33)) v) := by
    rcases h with rfl | ⟨r, rfl, h⟩
    · exact Or.inl rfl
    · refine Or.inr ⟨r, rfl, (hbx.cell (p := ⟨r, 0, none⟩) (cell_lt h)).trans h⟩
  have HBX := hide hbx
  clear h hbx
  go_enter Try.func13, Try.ntmps13
  go_wp2_with fail
  refine (pMade_un v _ HN.out).mono ?_
  rintro x w1 ⟨rfl, rfl⟩
  go_wp2_with fail
  go_ret2
  exact ⟨rfl, HBX.out⟩
theorem isF_kinds {P : Pt} {k e N : Int} {d : ByteArray} (h : isF P k e N d = true) : (k = 1 ∨ k = 3 ∨ k = 4 ∨ k = 5 ∨ k = 6 ∨ k = 7) ∨ k = 2 ∨ k = 8 := by
  unfold isF at h
  split at h
  · omega
  · split at h
    · omega
    · split at h
      · omega
      · split at h
        · omega
        · split at h
          · omega
          · cases h
theorem isF_N {P : Pt} {k e N : Int} {d : ByteArray} (h : isF P k e N d = true) : k = 5 → 0 ≤ N := by
  rintro rfl
  simp [isF] at h
  exact h.1
theorem isF_8 {P : Pt} {e N : Int} {d : ByteArray} (h : isF P 8 e N d = true) : d.size ≤ 512 := by
  simp [isF] at h
  exact h.2
theorem happen_at {w : World} {S : Nat → Prop} {b eb : Nat} {gv ov : Value} {R G : Nat → Nat} {P : Pt} (h : IsPort w S b eb gv ov R G P) (i : Nat) (hi : i < P.L.length) (k e N : Int) (d : ByteArray) (hf : isF P k e N d = true) (h8 : k ≠ 8) (hNm : N ≤ 9223372036854775807) (hd : d.size ≤ maxLen) (ra : Option Addr) (rn rc : Nat) :
    Calls Try.prog 48 #[.pointer (some ⟨eb, i * 6, none⟩), .agg #[.int .i64 k, .int .i64 e, .int .i64 N, .string d, .slice ra rn rc]] w fun x w' => x = .returned (.int .i64 (hapN P.sz (at0 P.L i) k d : Nat)) ∧ IsPort w' S b eb gv ov R G { P with L := P.L.set i (hap P.sz (at0 P.L i) k N d) } ∧ KeptS S w w' := by
  rcases isF_kinds hf with hk | hk | hk
  · have : hapN P.sz (at0 P.L i) k d = 0 := by unfold hapN; rw [if_neg (by omega)]
    rw [this]
    exact happen_else h i hi k e N hk (isF_N hf) hNm d ra rn rc
  · subst hk
    exact happen_data h i hi e N d hd ra rn rc
  · exact absurd hk h8
theorem evP_fail {P : Pt} {k e N : Int} {d : ByteArray} (h : isF P k e N d = false) : evP P k e N d = P ∧ evC P k e N d = 2 ∧ evN P k e N d = 0 := by
  unfold evP evC evN
  simp [h]
theorem evP_8 {P : Pt} {e N : Int} {d : ByteArray} (h : isF P 8 e N d = true) : evP P 8 e N d = (if P.gr.length = 8 then P else { P with gr := P.gr ++ [d] }) ∧ evC P 8 e N d = (if P.gr.length = 8 then 4 else 0) ∧ evN P 8 e N d = 0 := by
  unfold evP evC evN
  simp [h]
theorem evP_ref {P : Pt} {k e N : Int} {d : ByteArray} (h : isF P k e N d = true) (h8 : k ≠ 8) {c : Int} (hc : refu (at0 P.L e.toNat) k = c) (h0 : c ≠ 0) : evP P k e N d = P ∧ evC P k e N d = c ∧ evN P k e N d = 0 := by
  unfold evP evC evN
  simp [h, h8, hc, h0]
theorem evP_hap {P : Pt} {k e N : Int} {d : ByteArray} (h : isF P k e N d = true) (h8 : k ≠ 8) (hc : refu (at0 P.L e.toNat) k = 0) : evP P k e N d = { P with L := P.L.set e.toNat (hap P.sz (at0 P.L e.toNat) k N d) } ∧ evC P k e N d = 0 ∧ evN P k e N d = hapN P.sz (at0 P.L e.toNat) k d := by
  unfold evP evC evN
  simp [h, h8, hc]
set_option maxRecDepth 100000 in
set_option maxHeartbeats 1000000 in
theorem event_at {w : World} {S : Nat → Prop} {b eb : Nat} {gv ov : Value} {R G : Nat → Nat} {P : Pt} (h : IsPort w S b eb gv ov R G P) (k e N : Int) (d : ByteArray) (hNm : N ≤ 9223372036854775807) (hd : d.size ≤ maxLen) (ra : Option Addr) (rn rc : Nat) :
    Calls Try.prog 13 #[.pointer (some ⟨b, 0, none⟩), .agg #[.int .i64 k, .int .i64 e, .int .i64 N, .string d, .slice ra rn rc]] w fun x w' => x = .returned (.tuple #[.int .i64 (evN P k e N d : Nat), .int .i64 (evC P k e N d)]) ∧ Port w' (grow S w w') b (evP P k e N d) ∧ KeptS S w w' := by
  have hbx := ev_below w (.int .i64 k) (.int .i64 e) (.int .i64 N) (.string d) (.slice ra rn rc)
  have h1 := h.below hbx
  have HM := hide (pMade_at b true _ h1.cells.1)
  have HF := hide (isFor_at h1 k e N d hd ra rn rc)
  have HP1 := hide h1
  have HBX := hide hbx
  have HP := hide h
  have c2 := h1.cells.2.2.1
  have hn := h.ok.n
  have hbl : b < w.heap.size := lt_of_some h.head
  have hend : ∀ w' : World, (w.alloc (.cells #[.int .i64 k, .int .i64 e, .int .i64 N, .string d, .slice ra rn rc] 33)).heap.size ≤ w'.heap.size → w.heap.size ≤ w'.heap.size := fun w' hs => by simp at hs; omega
  clear h h1 hbx
  cases hf : isF P k e N d
  · obtain ⟨e1, e2, e3⟩ := evP_fail hf
    rw [e1, e2, e3]
    rw [hf] at HF
    clear e1 e2 e3 hf
    go_enter Try.func13, Try.ntmps13
    go_wp2_with fail
    refine HM.out.mono ?_
    rintro x w1 ⟨rfl, rfl⟩
    go_wp2_with fail
    refine HF.out.mono ?_
    rintro x w1 ⟨rfl, hb⟩
    have HB := hide (HBX.out.trans (hb.mono HBX.out.size))
    clear hb
    go_wp2_with fail
    go_ret2
    exact ⟨rfl, HP.out.stay HB.out⟩
  · rw [hf] at HF
    have HFF := hide hf
    clear hf
    by_cases h8 : k = 8
    · subst h8
      obtain ⟨e1, e2, e3⟩ := evP_8 HFF.out
      rw [e1, e2, e3]
      have hd5 := isF_8 HFF.out
      obtain ⟨c, hc⟩ : ∃ c : Int, c = (if P.gr.length = 8 then 4 else 0) := ⟨_, rfl⟩
      rw [← hc]
      have HC := hide hc
      obtain ⟨P', hP'⟩ : ∃ P' : Pt, P' = (if P.gr.length = 8 then P else { P with gr := P.gr ++ [d] }) := ⟨_, rfl⟩
      rw [← hP']
      have HP' := hide hP'
      clear e1 e2 e3 hc hP'
      go_enter Try.func13, Try.ntmps13
      go_wp2_with fail
      refine HM.out.mono ?_
      rintro x w1 ⟨rfl, rfl⟩
      go_wp2_with fail
      refine HF.out.mono ?_
      rintro x w1 ⟨rfl, hb⟩
      have HPB := hide (HP1.out.below hb)
      have HB := hide (HBX.out.trans (hb.mono HBX.out.size))
      have hcb : w1.cell? ⟨w.heap.size, 0, none⟩ = some (.int .i64 8) := (hb.cell (p := ⟨w.heap.size, 0, none⟩) (by simp)).trans (World.cell?_alloc_new w _ _ 0)
      have hcd : w1.cell? ⟨w.heap.size, 3, none⟩ = some (.string d) := (hb.cell (p := ⟨w.heap.size, 3, none⟩) (by simp)).trans (World.cell?_alloc_new w _ _ 3)
      clear hb
      go_wp2_with fail
      refine (addGram_at HPB.out d hd5).mono ?_
      rintro x w2 ⟨rfl, ⟨gv', hp⟩, hk⟩
      have H2 := hide hp
      have K2 := hide hk
      rw [← HP'.out] at H2
      rw [← HC.out]
      clear hp hk
      go_wp2_with fail
      go_ret2
      exact ⟨rfl, Port.of (grow_from HB.out.size H2.out), (KeptS.of_below HB.out).trans K2.out (fun _ => Or.inl)⟩
    · obtain ⟨hi, he⟩ := isF_lt HP.out.ok HFF.out h8
      obtain ⟨i, rfl⟩ : ∃ i : Nat, e = i := ⟨e.toNat, he.symm⟩
      rw [Int.toNat_natCast] at hi
      clear he
      have k8 : (k == 8) = false := by simp [h8]
      have HH : Hid (∀ W, IsPort W S b eb gv ov R G P → Calls Try.prog 48 #[.pointer (some ⟨eb, i * 6, none⟩), .agg #[.int .i64 k, .int .i64 i, .int .i64 N, .string d, .slice ra rn rc]] W fun x w' => x = .returned (.int .i64 (hapN P.sz (at0 P.L i) k d : Nat)) ∧ IsPort w' S b eb gv ov R G { P with L := P.L.set i (hap P.sz (at0 P.L i) k N d) } ∧ KeptS S W w') := fun W hW => happen_at hW i hi k i N d HFF.out h8 hNm hd ra rn rc
      obtain ⟨c, hc⟩ : ∃ c, refu (at0 P.L i) k = c := ⟨_, rfl⟩
      have HR : Hid (∀ W, IsPort W S b eb gv ov R G P → Calls Try.prog 47 #[.pointer (some ⟨eb, i * 6, none⟩), .int .i64 k] W fun e w' => e = .returned (.int .i64 c) ∧ W = w') := fun W hW => by
        rw [← hc]
        exact refuses_at eb (i * 6) _ _ k W (hW.row.at_ hi)
      by_cases h0 : c = 0
      · subst h0
        obtain ⟨e1, e2, e3⟩ := evP_hap HFF.out h8 (by rw [Int.toNat_natCast]; exact hc)
        rw [e1, e2, e3]
        rw [Int.toNat_natCast]
        clear e1 e2 e3 hc h8
        go_enter Try.func13, Try.ntmps13
        go_wp2_with fail
        refine HM.out.mono ?_
        rintro x w1 ⟨rfl, rfl⟩
        go_wp2_with fail
        refine HF.out.mono ?_
        rintro x w1 ⟨rfl, hb⟩
        have HPB := hide (HP1.out.below hb)
        have HB := hide (HBX.out.trans (hb.mono HBX.out.size))
        have d0 : w1.cell? ⟨w.heap.size, 0, none⟩ = some (.int .i64 k) := (hb.cell (p := ⟨w.heap.size, 0, none⟩) (by simp)).trans (World.cell?_alloc_new w _ _ 0)
        have d1 : w1.cell? ⟨w.heap.size, 1, none⟩ = some (.int .i64 i) := (hb.cell (p := ⟨w.heap.size, 1, none⟩) (by simp)).trans (World.cell?_alloc_new w _ _ 1)
        have d2 : w1.cell? ⟨w.heap.size, 2, none⟩ = some (.int .i64 N) := (hb.cell (p := ⟨w.heap.size, 2, none⟩) (by simp)).trans (World.cell?_alloc_new w _ _ 2)
        have d3 : w1.cell? ⟨w.heap.size, 3, none⟩ = some (.string d) := (hb.cell (p := ⟨w.heap.size, 3, none⟩) (by simp)).trans (World.cell?_alloc_new w _ _ 3)
        have d4 : w1.cell? ⟨w.heap.size, 4, none⟩ = some (.slice ra rn rc) := (hb.cell (p := ⟨w.heap.size, 4, none⟩) (by simp)).trans (World.cell?_alloc_new w _ _ 4)
        have p2 := HPB.out.cells.2.2.1
        clear hb c2
        go_wp2_with fail
        go_region
        go_wp2_with fail
        refine (HR.out w1.drew (HPB.out.keep (fun _ _ => rfl) (Nat.le_refl _))).mono ?_
        rintro x w2 ⟨rfl, rfl⟩
        go_wp2_with fail
        refine (HH.out w1.drew (HPB.out.keep (fun _ _ => rfl) (Nat.le_refl _))).mono ?_
        rintro x w2 ⟨rfl, h2, k2⟩
        have H2 := hide h2
        have K2 := hide k2
        clear h2 k2
        go_wp2_with fail
        go_ret2
        exact ⟨rfl, Port.of H2.out.grow, ((KeptS.of_below HB.out).drewN 1).trans K2.out (fun _ => Or.inl)⟩
      · have hc0 : (c == 0) = false := by simp [h0]
        obtain ⟨e1, e2, e3⟩ := evP_ref HFF.out h8 (c := c) (by rw [Int.toNat_natCast]; exact hc) h0
        rw [e1, e2, e3]
        clear e1 e2 e3 hc h8
        go_enter Try.func13, Try.ntmps13
        go_wp2_with fail
        refine HM.out.mono ?_
        rintro x w1 ⟨rfl, rfl⟩
        go_wp2_with fail
        refine HF.out.mono ?_
        rintro x w1 ⟨rfl, hb⟩
        have HPB := hide (HP1.out.below hb)
        have HB := hide (HBX.out.trans (hb.mono HBX.out.size))
        have d0 : w1.cell? ⟨w.heap.size, 0, none⟩ = some (.int .i64 k) := (hb.cell (p := ⟨w.heap.size, 0, none⟩) (by simp)).trans (World.cell?_alloc_new w _ _ 0)
        have d1 : w1.cell? ⟨w.heap.size, 1, none⟩ = some (.int .i64 i) := (hb.cell (p := ⟨w.heap.size, 1, none⟩) (by simp)).trans (World.cell?_alloc_new w _ _ 1)
        have p2 := HPB.out.cells.2.2.1
        clear hb c2
        go_wp2_with fail
        go_region
        go_wp2_with fail
        refine (HR.out w1.drew (HPB.out.keep (fun _ _ => rfl) (Nat.le_refl _))).mono ?_
        rintro x w2 ⟨rfl, rfl⟩
        go_wp2_with fail
        go_ret2
        exact ⟨rfl, HP.out.stay HB.out.drew⟩

end Go.Proofs.Ytjojhnkibgkleaa
