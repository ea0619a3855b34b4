/-
  The reader of package five: host, port, dest; conditions as each theorem has them.
-/
import Derived.Test.YtefgjmijbedbkaaDoorS
import Derived.Test.YtefgjmijbedbkaaDoorCK
set_option linter.unusedSimpArgs false
set_option linter.unusedVariables false
namespace Go.Proofs.YtefgjmijbedbkaaDoor
open Go.RowKit

/-- A host's cells. -/
def hoC (a : Ad) (n : ByteArray) : Array Value := #[.int .u8 (a.1 : Nat), .int .u8 (a.2.1 : Nat), .int .u8 (a.2.2.1 : Nat), .int .u8 (a.2.2.2 : Nat), .string n]
theorem hoV_hoC (a : Ad) (n : ByteArray) : hoV a n = .agg (hoC a n) := rfl
theorem hoC_one (a : Ad) (n : ByteArray) : (hoC a n).all (·.oneCell') = true := by simp [hoC, Value.oneCell']
theorem name_er (l : List Nat) : (name l).2 = .ok ∨ ∃ a c, (name l).2 = .one a c ∧ c ≠ 6 := by
  unfold name
  split
  · exact Or.inr ⟨_, _, rfl, by omega⟩
  · split
    · exact Or.inr ⟨_, _, rfl, by omega⟩
    · split
      · exact Or.inr ⟨_, _, rfl, by omega⟩
      · exact Or.inl rfl
theorem Vars.kept {w w' : World} {g : Nat} (h : Vars w) (k : Kept g g w w') (hg : 0 < g) : Vars w' := by
  obtain ⟨m, hm⟩ := h
  exact ⟨m, (World.cell?_of_block (k.block 0 (lt_of_cell hm) (by omega) (by omega))).trans hm⟩
theorem run_str_src {w : World} {a : Option Addr} {len cap : Nat} {l : List Nat} (h : Src w a len cap l) : (convert 22 9 (.slice a len cap)).run Tryd.prog w = .ok (.string (strN l)) w := by
  by_cases h0 : 0 < len
  · obtain ⟨b, o, rfl, _, hc⟩ := h.lies h0
    exact run_str w b o len cap l h.hlen hc
  · obtain rfl : len = 0 := by omega
    obtain rfl : l = [] := List.eq_nil_of_length_eq_zero h.hlen
    cases a with
    | none => exact run_convert_bytes_nil (P := Tryd.prog) w 22 5 Tryd.underlying22 Tryd.underlying5 0 cap 9 Tryd.underlying9
    | some x =>
      rw [run_convert_bytes_string w 22 9 5 _ 0 cap Tryd.underlying22 Tryd.underlying5 Tryd.underlying9]
      exact run_bytesToString w x 0 cap [] (by simpa using run_loadCells_list (P := Tryd.prog) w x [] (by simp))

set_option maxRecDepth 100000 in
set_option maxHeartbeats 2000000 in
theorem host_at (g : Nat) (a : Option Addr) (n c : Nat) (b : List Nat) (s : Sr) (k : Nat) (x : Option Addr) (l y : Nat) (p : List Nat) (w : World) (h : Rdr w g a n c b s) (hg : 0 < g) (hV : Vars w) (hk : k < 256)
    (hp : s.2 = .ok → Src w x l y p ∧ Off x l g ∧ (k = 1 → l = 4) ∧ l ≤ s.1 ∧ l ≤ 255) :
    Calls Tryd.prog 67 #[.pointer (some ⟨g, 0, none⟩), .int .u8 k, .slice x l y] w fun e w' => e = .returned (hoV (hsV k p s).1 (strN (hsV k p s).2)) ∧ Rdr w' g a n c b (hsS k p s) ∧ Kept g g w w' := by
  have H := hide h
  have HV := hide hV
  obtain ⟨⟨v, h1, h2⟩, h3, h4, h5⟩ := h
  have HSRC := hide h3
  have hgl := h1.lt
  have c1 : w.cell? ⟨g, 1, none⟩ = some (.int .i64 (s.1 : Nat)) := h1.cell 1
  have c2 : w.cell? ⟨g, 2, none⟩ = some v := h1.cell 2
  have hcm := h3.hmax
  have hcl := h3.hcap
  unfold maxLen at hcm
  by_cases hok : s.2 = .ok
  · obtain rfl := h2.nil hok
    obtain ⟨p1, p2, p3, p4, p5⟩ := hp hok
    by_cases hk1 : k = 1
    · subst hk1
      obtain rfl := p3 rfl
      have hpl := p1.hlen
      obtain ⟨xb, xo, rfl, hxl, hc⟩ := p1.lies (by omega)
      have d0 := hc 0 (by omega)
      have d1 := hc 1 (by omega)
      have d2 := hc 2 (by omega)
      have d3 := hc 3 (by omega)
      rw [Nat.add_zero] at d0
      have HS : Hid (hsS 1 p s = s) := by show _ = _; unfold hsS; rw [if_neg (by simp)]
      have HVV : Hid (hsV 1 p s = ((p.getD 0 0, p.getD 1 0, p.getD 2 0, p.getD 3 0), [])) := by show _ = _; unfold hsV; rw [if_pos hok, if_pos rfl]
      rw [HS.out, HVV.out]
      have hy := p1.hcap
      have hb := p1.byte
      have b0 := getD_lt hb 0
      have b1 := getD_lt hb 1
      have b2 := getD_lt hb 2
      have b3 := getD_lt hb 3
      generalize p.getD 0 0 = x0 at d0 b0
      generalize p.getD 1 0 = x1 at d1 b1
      generalize p.getD 2 0 = x2 at d2 b2
      generalize p.getD 3 0 = x3 at d3 b3
      clear h1 h2 h3 h4 hok hp p1 p2 p3 hc HS HVV hpl hb HV
      simp only [hoV]
      go_enter Tryd.func67, Tryd.ntmps67
      go_wp2_with fail
      go_region
      all_goals (try go_wp2_with fail)
      all_goals go_returns
      all_goals refine ⟨rfl, ?_⟩
      all_goals (refine (fun hB => ⟨H.out.below hB, Kept.of_below hB⟩ : Below w.heap.size w _ → _) ?_)
      all_goals (repeat (first | exact Below.refl _ _ | refine Below.drew ?_ | refine Below.setCell ?_ (by simp) _ | refine Below.alloc ?_ (by simp) _))
    · have HS2 := run_str_src p1
      have hpl := p1.hlen
      have hkb : ((k : Int) == 1) = false := by simp; omega
      have HVV : Hid (hsV k p s = (noA, (name p).1)) := by show _ = _; unfold hsV; rw [if_pos hok, if_neg hk1]
      rw [HVV.out]
      have HPB : Hid (byt (strN p) = p) := byt_strN p p1.byte
      have HSZ : Hid ((strN p).size ≤ maxLen) := by show _ ≤ _; rw [strN_size, hpl]; unfold maxLen; omega
      obtain ⟨W0, hW0⟩ : ∃ W0, W0 = w.alloc (.cells #[.int .u8 0, .int .u8 0, .int .u8 0, .int .u8 0, .string ⟨#[]⟩] 45) := ⟨_, rfl⟩
      have hb0 : Below w.heap.size w W0 := by rw [hW0]; exact (Below.refl _ _).alloc (Nat.le_refl _) _
      have hr0 : W0.heap[w.heap.size]? = some (.cells #[.int .u8 0, .int .u8 0, .int .u8 0, .int .u8 0, .string ⟨#[]⟩] 45) := by rw [hW0]; exact alloc_new _ _
      have HS3 : (convert 22 9 (.slice x l y)).run Tryd.prog W0 = .ok (.string (strN p)) W0 := run_str_src (p1.below hb0)
      have HN := hide (parseName_at (strN p) W0 HSZ.out (HV.out.below hb0))
      rw [HPB.out] at HN
      have B0 := hide hb0
      have R0 := hide hr0
      have HW0 := hide hW0.symm
      have hgW : g < W0.heap.size := Nat.lt_of_lt_of_le hgl hb0.size
      have HOK := hide hok
      have HK1 := hide hk1
      have HH0 := hide (H.out.below hb0)
      clear h1 h2 h3 h4 hok hp p1 p2 p3 HVV HS2 hb0 hr0 hW0 HV hk1
      have HEr := hide (name_er p)
      simp only [hoV]
      go_enter Tryd.func67, Tryd.ntmps67
      go_wp2_with fail
      rw [HW0.out, HS3]
      go_wp2_with fail
      refine HN.out.mono ?_
      rintro e w1 ⟨v, rfl, er1, b1⟩
      have R1 := hide (keepB b1 R0.out)
      have RD1 := hide (HH0.out.below b1)
      have B1 := hide (B0.out.trans (b1.mono B0.out.size))
      rcases HEr.out with he | ⟨q, e, he, h6⟩
      · have HSS : Hid (hsS k p s = s) := by show _ = _; unfold hsS; rw [if_neg (fun z => z.2.2 he)]
        rw [he] at er1
        obtain rfl : v = .nilIface := er1
        obtain ⟨W2, hW2⟩ : ∃ W2, W2 = w1.setRow w.heap.size (hoC noA (strN (name p).1)) := ⟨_, rfl⟩
        have R2 : Hid (W2.heap[w.heap.size]? = some (.cells (hoC noA (strN (name p).1)) 45)) := by rw [hW2]; exact setRow_heap _ _ _ _ _ R1.out
        have B2 : Hid (Below w.heap.size w W2) := by rw [hW2]; exact below_setRow B1.out (Nat.le_refl _) _
        have HW2 := hide hW2
        clear b1 he c1 c2 HS3 hW2
        go_wp2_with (first | (refine wpList_store_rowW rfl 45 _ _ rfl w.heap.size (hoC noA (strN (name p).1)) rfl rfl 45 _ R1.out info45 rfl (hoC_one _ _) W2 HW2.out ?_))
        refine bodyPost_ret (results_cell_row rfl _ _ w.heap.size 45 (hoC noA (strN (name p).1)) (0, 0) _ rfl R2.out Tryd.underlying45 rfl info45) rfl ⟨rfl, ?_⟩
        rw [HSS.out]
        exact ⟨H.out.below B2.out, Kept.of_below B2.out⟩
      · have HSS : Hid (hsS k p s = (s.1, .two (s.1 - l) q e)) := by show _ = _; unfold hsS; rw [if_pos ⟨HOK.out, HK1.out, by rw [he]; simp⟩, he, hpl]; rfl
        rw [he] at er1
        have er1' := er1
        obtain ⟨b2, rfl, _⟩ := er1'
        have d1 : w1.cell? ⟨g, 1, none⟩ = some (.int .i64 (s.1 : Nat)) := by obtain ⟨⟨v, h1, h2⟩, _⟩ := RD1.out; exact h1.cell 1
        have ei : (s.1 : Int) - l = ((s.1 - l : Nat) : Int) := by omega
        have HST := hide (stop_name g a n c b s (s.1 - l) q e _ w1 RD1.out HOK.out er1 h6)
        clear er1 b1 he c1 c2 HS3 h6
        go_wp2_with fail
        refine HST.out.mono ?_
        rintro e2 w2 ⟨rfl, rd2, k2⟩
        have r2 : w2.heap[w.heap.size]? = some (.cells #[.int .u8 0, .int .u8 0, .int .u8 0, .int .u8 0, .string ⟨#[]⟩] 45) := k2.at_ R1.out (by omega) (by omega)
        obtain ⟨W2, hW2⟩ : ∃ W2, W2 = w2.setRow w.heap.size (hoC noA (strN (name p).1)) := ⟨_, rfl⟩
        have R2' := hide r2
        have R2 : Hid (W2.heap[w.heap.size]? = some (.cells (hoC noA (strN (name p).1)) 45)) := by rw [hW2]; exact setRow_heap _ _ _ _ _ r2
        have K2 : Hid (Kept g g w2 W2 → True) := fun _ => trivial
        have hz2 : w.heap.size < w2.heap.size := lt_of_some r2
        have RD2 : Hid (Rdr W2 g a n c b (s.1, .two (s.1 - l) q e)) := by
          obtain ⟨⟨v, t1, t2⟩, t3, t4, t5⟩ := rd2
          have kb : ∀ i, i ≠ w.heap.size → W2.heap[i]? = w2.heap[i]? := fun i hi => by rw [hW2]; exact setRow_ne _ _ _ _ hi
          refine ⟨⟨v, t1.keep (kb g (by omega)), t2.keep fun i C hi => kb i fun ee => ?_⟩, t3.keep (fun h0 i o ei => kb i fun ee => ?_) (by rw [hW2]; simp [World.setRow]), t4, t5⟩
          · subst ee; rw [r2] at hi; simp at hi
          · have h0' := HSRC.out.lt h0 ei
            omega
        have KK : Hid (Kept g g w W2) := by
          have k1 : Kept g g w w2 := (Kept.of_below B1.out).trans k2
          rw [hW2]
          refine ⟨k1.os, k1.tape, k1.output, by simp [World.setRow]; exact k1.size, fun i hi h1 h2 => ?_⟩
          rw [setRow_ne _ _ _ _ (by omega)]
          exact k1.block i hi h1 h2
        have HW2 := hide hW2
        clear rd2 k2 r2 hW2 d1 ei
        go_wp2_with (first | (refine wpList_store_rowW rfl 45 _ _ rfl w.heap.size (hoC noA (strN (name p).1)) rfl rfl 45 _ R2'.out info45 rfl (hoC_one _ _) W2 HW2.out ?_))
        refine bodyPost_ret (results_cell_row rfl _ _ w.heap.size 45 (hoC noA (strN (name p).1)) (0, 0) _ rfl R2.out Tryd.underlying45 rfl info45) rfl ⟨rfl, ?_⟩
        rw [HSS.out]
        exact ⟨RD2.out, KK.out⟩
  · obtain ⟨xb, rfl⟩ := h2.ptr hok
    have HS : Hid (hsS k p s = s) := by show _ = _; unfold hsS; rw [if_neg (fun z => hok z.1)]
    have HVV : Hid (hsV k p s = (noA, [])) := by show _ = _; unfold hsV; rw [if_neg hok]
    rw [HS.out, HVV.out]
    clear h1 h2 h3 h4 hok hp HV
    simp only [hoV]
    go_enter Tryd.func67, Tryd.ntmps67
    go_wp2_with fail
    go_returns
    exact ⟨rfl, H.out.below ((Below.refl _ _).alloc (Nat.le_refl _) _), (Kept.refl _ _ _).alloc _⟩
end Go.Proofs.YtefgjmijbedbkaaDoor
