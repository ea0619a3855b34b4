/-
  Match; conditions as each theorem has them.
-/
import Derived.Test.YtabkelhipmijfaaGreatDoorMJ
set_option linter.unusedSimpArgs false
set_option linter.unusedVariables false
namespace Go.Proofs.YtabkelhipmijfaaGreatDoor
open Go.RowKit
/-- What Match tells. -/
def mat (id : Int) (n : List Nat) (b : List Nat) : An × Er :=
  if (ans b).2 = .ok then (if ((ans b).1.id : Int) = id then (if (ans b).1.nm = n then ans b else (An.none, .one 12 102)) else (An.none, .one 0 102)) else (An.none, (ans b).2)
theorem finR_ok (w w7 : World) (r : Nat) {A : An × Er} {id cd tl : Nat} {nm : List Nat} {QX : ByteArray} {l : List Ad} {v : Value} (hA : A = (⟨id, nm, cd, l, tl⟩, .ok)) (hq : strN nm = QX) (ho : OwnA w7 w.heap.size v l) (hz : Row w7 r 65 [.int .i64 0, .string ⟨#[]⟩, .int .i64 0, .slice none 0 0, .int .i64 0]) (hr : w.heap.size ≤ r) (hb : Below w.heap.size w w7) :
    IsAns w A (.returned (.tuple #[.agg #[.int .i64 (id : Nat), .string QX, .int .i64 (cd : Nat), v, .int .i64 (tl : Nat)], .nilIface])) (((((w7.setCell ⟨r, 0, none⟩ (.int .i64 (id : Nat))).setCell ⟨r, 1, none⟩ (.string QX)).setCell ⟨r, 2, none⟩ (.int .i64 (cd : Nat))).setCell ⟨r, 3, none⟩ (v)).setCell ⟨r, 4, none⟩ (.int .i64 (tl : Nat))) ∧ Row (((((w7.setCell ⟨r, 0, none⟩ (.int .i64 (id : Nat))).setCell ⟨r, 1, none⟩ (.string QX)).setCell ⟨r, 2, none⟩ (.int .i64 (cd : Nat))).setCell ⟨r, 3, none⟩ (v)).setCell ⟨r, 4, none⟩ (.int .i64 (tl : Nat))) r 65 [.int .i64 (id : Nat), .string QX, .int .i64 (cd : Nat), v, .int .i64 (tl : Nat)] := by
  have k := kset5 w7 r (.int .i64 (id : Nat)) (.string QX) (.int .i64 (cd : Nat)) v (.int .i64 (tl : Nat))
  have r' := hz.set5 (.int .i64 (id : Nat)) (.string QX) (.int .i64 (cd : Nat)) v (.int .i64 (tl : Nat))
  obtain ⟨W8, hW8⟩ : ∃ W, W = (((((w7.setCell ⟨r, 0, none⟩ (.int .i64 (id : Nat))).setCell ⟨r, 1, none⟩ (.string QX)).setCell ⟨r, 2, none⟩ (.int .i64 (cd : Nat))).setCell ⟨r, 3, none⟩ (v)).setCell ⟨r, 4, none⟩ (.int .i64 (tl : Nat))) := ⟨_, rfl⟩
  rw [← hW8] at k r' ⊢
  exact ⟨isAns_mk hA hq (ho.kept hz (by decide) k) rfl (hb.trans (k.below hr hr hb.size)), r'⟩
theorem finR_bad (w w7 : World) (r : Nat) {A : An × Er} {E : Er} {er : Value} (hA : A = (An.none, E)) (hi : IsF w7 E er) (hz : Row w7 r 65 [.int .i64 0, .string ⟨#[]⟩, .int .i64 0, .slice none 0 0, .int .i64 0]) (hr : w.heap.size ≤ r) (hb : Below w.heap.size w w7) :
    IsAns w A (.returned (.tuple #[.agg #[.int .i64 0, .string ⟨#[]⟩, .int .i64 0, .slice none 0 0, .int .i64 0], er])) (((((w7.setCell ⟨r, 0, none⟩ (.int .i64 0)).setCell ⟨r, 1, none⟩ (.string ⟨#[]⟩)).setCell ⟨r, 2, none⟩ (.int .i64 0)).setCell ⟨r, 3, none⟩ (.slice none 0 0)).setCell ⟨r, 4, none⟩ (.int .i64 0)) ∧ Row (((((w7.setCell ⟨r, 0, none⟩ (.int .i64 0)).setCell ⟨r, 1, none⟩ (.string ⟨#[]⟩)).setCell ⟨r, 2, none⟩ (.int .i64 0)).setCell ⟨r, 3, none⟩ (.slice none 0 0)).setCell ⟨r, 4, none⟩ (.int .i64 0)) r 65 [.int .i64 0, .string ⟨#[]⟩, .int .i64 0, .slice none 0 0, .int .i64 0] := by
  have k := kset5 w7 r (.int .i64 0) (.string ⟨#[]⟩) (.int .i64 0) (.slice none 0 0) (.int .i64 0)
  have r' := hz.set5 (.int .i64 0) (.string ⟨#[]⟩) (.int .i64 0) (.slice none 0 0) (.int .i64 0)
  obtain ⟨W8, hW8⟩ : ∃ W, W = (((((w7.setCell ⟨r, 0, none⟩ (.int .i64 0)).setCell ⟨r, 1, none⟩ (.string ⟨#[]⟩)).setCell ⟨r, 2, none⟩ (.int .i64 0)).setCell ⟨r, 3, none⟩ (.slice none 0 0)).setCell ⟨r, 4, none⟩ (.int .i64 0)) := ⟨_, rfl⟩
  rw [← hW8] at k r' ⊢
  have hi8 : IsF W8 E er := hi.kept hz (by decide) k
  exact ⟨isAns_mk (id := 0) (l := []) (tl := 0) (cd := 0) (nm := []) (QX := ⟨#[]⟩) hA rfl (OwnA.nil _ _) hi8 (hb.trans (k.below hr hr hb.size)), r'⟩
theorem IsAns.drew {w w' : World} {A : An × Er} {e : Ending} (h : IsAns w A e w') : IsAns w A e w'.drew := by
  obtain ⟨v, er, h1, h2, h3, h4⟩ := h
  exact ⟨v, er, h1, h2.keep fun _ _ => rfl, h3.keep fun _ _ _ => rfl, h4.drew⟩
theorem ans_nm_byte {b : List Nat} (hb : ∀ x ∈ b, x < 256) : ∀ x ∈ (ans b).1.nm, x < 256 := by
  unfold ans
  split
  · exact mn_byte hb _
  · intro x hx; simp [An.none] at hx
theorem strN_ne {l : List Nat} {t : ByteArray} (hb : ∀ x ∈ l, x < 256) : strN l = t ↔ l = byt t := by
  constructor
  · rintro rfl; rw [byt_strN l hb]
  · rintro rfl; exact strN_byt t
set_option maxRecDepth 100000 in
set_option maxHeartbeats 4000000 in
theorem match_at (id : Int) (t : ByteArray) (a : Option Addr) (n c : Nat) (b : List Nat) (w : World) (h : Src w a n c b) (hV : Vars w) (hn : n ≤ 140737488351232) :
    Calls Tryz.prog 27 #[.agg #[.int .i64 id, .string t], .slice a n c] w (IsAns w (mat id (byt t) b)) := by
  obtain ⟨W1, hW1⟩ : ∃ W1, W1 = (w.alloc (.cells #[.int .i64 id, .string t] 57)).alloc (.cells #[.int .i64 0, .string ⟨#[]⟩, .int .i64 0, .slice none 0 0, .int .i64 0] 65) := ⟨_, rfl⟩
  have b1 : Below w.heap.size w W1 := by rw [hW1]; exact ((Below.refl _ _).alloc (Nat.le_refl _) _).alloc (by simp) _
  have T1 : Hid (Row W1 w.heap.size 57 [.int .i64 id, .string t]) := by rw [hW1]; exact (Row.new w _ 57).alloc _
  have Z1 : Hid (Row W1 (w.heap.size + 1) 65 [.int .i64 0, .string ⟨#[]⟩, .int .i64 0, .slice none 0 0, .int .i64 0]) := by rw [hW1]; exact alloc_new2 w _ _
  have hs1 : W1.heap.size = w.heap.size + 2 := by rw [hW1]; simp
  have HA := hide (answer_at a n c b W1 (h.below b1) (hV.below b1) hn)
  have HBY := hide h.byte
  have B1 := hide b1
  have HW1 := hide hW1.symm
  obtain ⟨M, hM⟩ : ∃ M, M = mat id (byt t) b := ⟨_, rfl⟩
  rw [← hM]
  have HM := hide hM
  clear h hV hW1 b1 hM
  go_enter Tryz.func27, Tryz.ntmps27
  go_wp2_with fail
  rw [HW1.out]
  refine HA.out.mono ?_
  rintro e w2 ⟨v2, er, rfl, o2, i2, b2⟩
  obtain ⟨va, vc, rfl⟩ := o2.shape
  obtain ⟨K, hK⟩ : ∃ K, K = (ans b).1.ad.length := ⟨_, rfl⟩
  obtain ⟨I, hI⟩ : ∃ I, I = (ans b).1.id := ⟨_, rfl⟩
  obtain ⟨C, hC⟩ : ∃ C, C = (ans b).1.cd := ⟨_, rfl⟩
  obtain ⟨T, hT⟩ : ∃ T, T = (ans b).1.tl := ⟨_, rfl⟩
  obtain ⟨QN, hQN⟩ : ∃ Q, Q = strN (ans b).1.nm := ⟨_, rfl⟩
  obtain ⟨W3, hW3⟩ : ∃ W3, W3 = w2.alloc (.cells #[.int .i64 (I : Nat), .string QN, .int .i64 (C : Nat), .slice va K vc, .int .i64 (T : Nat)] 65) := ⟨_, rfl⟩
  have b3 : Below w2.heap.size w2 W3 := by rw [hW3]; exact (Below.refl _ _).alloc (Nat.le_refl _) _
  have b13 : Below W1.heap.size W1 W3 := b2.trans (b3.mono b2.size)
  have p3 : Row W3 w2.heap.size 65 [.int .i64 (I : Nat), .string QN, .int .i64 (C : Nat), .slice va K vc, .int .i64 (T : Nat)] := by rw [hW3]; exact Row.new w2 _ 65
  have q3 := Z1.out.below b13 (by omega)
  have t3 := T1.out.below b13 (by omega)
  have hs2 := b2.size
  have o3 : OwnA W3 w.heap.size (.slice va (ans b).1.ad.length vc) (ans b).1.ad := (o2.below b3).mono (by omega)
  have i3 : IsF W3 (ans b).2 er := i2.below b3
  have B3 : Hid (Below w.heap.size w W3) := B1.out.trans (b13.mono (by omega))
  have ea : ∀ E, ans b = (⟨I, (ans b).1.nm, C, (ans b).1.ad, T⟩, E) ↔ (ans b).2 = E := by intro E; rw [hI, hC, hT]; constructor; intro h; rw [h]; intro h; rw [← h]
  rw [← hK] at o3
  rw [← hK, ← hI, ← hC, ← hT, ← hQN]
  have x0 : W3.cell? ⟨w.heap.size + 1, 0, none⟩ = some (.int .i64 0) := q3.cell 0
  have x1 : W3.cell? ⟨w.heap.size + 1, 1, none⟩ = some (.string ⟨#[]⟩) := q3.cell 1
  have x2 : W3.cell? ⟨w.heap.size + 1, 2, none⟩ = some (.int .i64 0) := q3.cell 2
  have x3 : W3.cell? ⟨w.heap.size + 1, 3, none⟩ = some (.slice none 0 0) := q3.cell 3
  have x4 : W3.cell? ⟨w.heap.size + 1, 4, none⟩ = some (.int .i64 0) := q3.cell 4
  have u0 := q3.frozen 0
  have u1 := q3.frozen 1
  have u2 := q3.frozen 2
  have u3 := q3.frozen 3
  have u4 := q3.frozen 4
  have hl3 := q3.lt
  have c0 : W3.cell? ⟨w.heap.size, 0, none⟩ = some (.int .i64 id) := t3.cell 0
  have c1 : W3.cell? ⟨w.heap.size, 1, none⟩ = some (.string t) := t3.cell 1
  have y0 : W3.cell? ⟨w2.heap.size, 0, none⟩ = some (.int .i64 (I : Nat)) := p3.cell 0
  have y1 : W3.cell? ⟨w2.heap.size, 1, none⟩ = some (.string QN) := p3.cell 1
  have y2 : W3.cell? ⟨w2.heap.size, 2, none⟩ = some (.int .i64 (C : Nat)) := p3.cell 2
  have y3 : W3.cell? ⟨w2.heap.size, 3, none⟩ = some (.slice va K vc) := p3.cell 3
  have y4 : W3.cell? ⟨w2.heap.size, 4, none⟩ = some (.int .i64 (T : Nat)) := p3.cell 4
  have hl4 := p3.lt
  have Q3 := hide q3
  have O3 := hide o3
  have EA := hide ea
  have HI := hide hI
  have HQN := hide hQN
  have HW3 := hide hW3.symm
  clear o2 i2 b2 b3 b13 p3 q3 t3 o3 ea hK hI hC hT hQN hW3
  by_cases hok : (ans b).2 = .ok
  · obtain rfl := i3.nil hok
    clear i3
    have HBN := hide (byt_strN _ (ans_nm_byte HBY.out))
    by_cases hid : (I : Int) = id
    · have e1 : ((I : Int) == id) = true := by simp [hid]
      by_cases hnm : (ans b).1.nm = byt t
      · have e2 : (QN.toList == t.toList) = true := by rw [eq_byt, HQN.out, HBN.out]; simp [hnm]
        have FIN := hide (finR_ok w W3 (w.heap.size + 1) (A := M) (id := I) (cd := C) (tl := T) (nm := (ans b).1.nm) (QX := QN) (l := (ans b).1.ad) (v := .slice va K vc) (by rw [HM.out, mat, if_pos hok, if_pos (by rw [← HI.out]; exact hid), if_pos hnm]; exact (EA.out _).2 hok) HQN.out.symm O3.out Q3.out (by omega) B3.out)
        clear hid hnm
        go_wp2_with (first | rw [HW3.out])
        refine bodyPost_ret (res_cell_tmp rfl _ _ (w.heap.size + 1) 65 #[.int .i64 (I : Nat), .string QN, .int .i64 (C : Nat), .slice va K vc, .int .i64 (T : Nat)] (0, 0) _ rfl FIN.out.2 Tryz.underlying65 rfl info43) rfl ?_
        exact FIN.out.1
      · have e2 : (QN.toList == t.toList) = false := by rw [eq_byt, HQN.out, HBN.out]; simp [hnm]
        have HHD := hide hid
        have HNM := hide hnm
        clear hid hnm
        have FR := hide (drefuse_at 12 102 W3)
        rw [show ((12 : Nat) : Int) = 12 from rfl, show ((102 : Nat) : Int) = 102 from rfl] at FR
        go_wp2_with (first | rw [HW3.out])
        refine FR.out.mono ?_
        rintro e w4 ⟨rfl, hw4⟩
        have q4 : Row w4 (w.heap.size + 1) 65 [.int .i64 0, .string ⟨#[]⟩, .int .i64 0, .slice none 0 0, .int .i64 0] := by rw [hw4]; exact Q3.out.alloc _
        have f4 : IsF w4 (.one 12 102) (.iface 156 (.pointer (some ⟨W3.heap.size, 0, none⟩))) := ⟨_, rfl, by rw [hw4]; exact alloc_new _ _⟩
        have b4 : Below w.heap.size w w4 := by rw [hw4]; exact B3.out.alloc (by have := B3.out.size; omega) _
        have FIN := hide (finR_bad w w4 (w.heap.size + 1) (A := M) (E := .one 12 102) (by rw [HM.out, mat, if_pos hok, if_pos (by rw [← HI.out]; exact HHD.out), if_neg HNM.out]) f4 q4 (by omega) b4)
        have x0 : w4.cell? ⟨w.heap.size + 1, 0, none⟩ = some (.int .i64 0) := q4.cell 0
        have x1 : w4.cell? ⟨w.heap.size + 1, 1, none⟩ = some (.string ⟨#[]⟩) := q4.cell 1
        have x2 : w4.cell? ⟨w.heap.size + 1, 2, none⟩ = some (.int .i64 0) := q4.cell 2
        have x3 : w4.cell? ⟨w.heap.size + 1, 3, none⟩ = some (.slice none 0 0) := q4.cell 3
        have x4 : w4.cell? ⟨w.heap.size + 1, 4, none⟩ = some (.int .i64 0) := q4.cell 4
        have u0 := q4.frozen 0
        have u1 := q4.frozen 1
        have u2 := q4.frozen 2
        have u3 := q4.frozen 3
        have u4 := q4.frozen 4
        have hl3 := q4.lt
        clear q4 f4 b4 hw4
        go_wp2_with fail
        refine bodyPost_ret (res_cell_tmp rfl _ _ (w.heap.size + 1) 65 #[.int .i64 0, .string ⟨#[]⟩, .int .i64 0, .slice none 0 0, .int .i64 0] (0, 0) _ rfl FIN.out.2 Tryz.underlying65 rfl info43) rfl ?_
        exact FIN.out.1
    · have e1 : ((I : Int) == id) = false := by simp [hid]
      have FR := hide (drefuse_at 0 102 W3)
      rw [show ((0 : Nat) : Int) = 0 from rfl, show ((102 : Nat) : Int) = 102 from rfl] at FR
      go_wp2_with (first | rw [HW3.out])
      refine FR.out.mono ?_
      rintro e w4 ⟨rfl, hw4⟩
      have q4 : Row w4 (w.heap.size + 1) 65 [.int .i64 0, .string ⟨#[]⟩, .int .i64 0, .slice none 0 0, .int .i64 0] := by rw [hw4]; exact Q3.out.alloc _
      have f4 : IsF w4 (.one 0 102) (.iface 156 (.pointer (some ⟨W3.heap.size, 0, none⟩))) := ⟨_, rfl, by rw [hw4]; exact alloc_new _ _⟩
      have b4 : Below w.heap.size w w4 := by rw [hw4]; exact B3.out.alloc (by have := B3.out.size; omega) _
      have FIN := hide (finR_bad w w4 (w.heap.size + 1) (A := M) (E := .one 0 102) (by rw [HM.out, mat, if_pos hok, if_neg (by rw [← HI.out]; exact hid)]) f4 q4 (by omega) b4)
      have x0 : w4.cell? ⟨w.heap.size + 1, 0, none⟩ = some (.int .i64 0) := q4.cell 0
      have x1 : w4.cell? ⟨w.heap.size + 1, 1, none⟩ = some (.string ⟨#[]⟩) := q4.cell 1
      have x2 : w4.cell? ⟨w.heap.size + 1, 2, none⟩ = some (.int .i64 0) := q4.cell 2
      have x3 : w4.cell? ⟨w.heap.size + 1, 3, none⟩ = some (.slice none 0 0) := q4.cell 3
      have x4 : w4.cell? ⟨w.heap.size + 1, 4, none⟩ = some (.int .i64 0) := q4.cell 4
      have u0 := q4.frozen 0
      have u1 := q4.frozen 1
      have u2 := q4.frozen 2
      have u3 := q4.frozen 3
      have u4 := q4.frozen 4
      have hl3 := q4.lt
      clear q4 f4 b4 hw4
      go_wp2_with fail
      refine bodyPost_ret (res_cell_tmp rfl _ _ (w.heap.size + 1) 65 #[.int .i64 0, .string ⟨#[]⟩, .int .i64 0, .slice none 0 0, .int .i64 0] (0, 0) _ rfl FIN.out.2 Tryz.underlying65 rfl info43) rfl ?_
      exact FIN.out.1
  · obtain ⟨eb, rfl⟩ := i3.ptr hok
    have FIN := hide (finR_bad w W3 (w.heap.size + 1) (A := M) (E := (ans b).2) (by rw [HM.out, mat, if_neg hok]) i3 Q3.out (by omega) B3.out)
    clear i3
    go_wp2_with (first | rw [HW3.out])
    refine bodyPost_ret (res_cell_tmp rfl _ _ (w.heap.size + 1) 65 #[.int .i64 0, .string ⟨#[]⟩, .int .i64 0, .slice none 0 0, .int .i64 0] (0, 0) _ rfl FIN.out.2 Tryz.underlying65 rfl info43) rfl ?_
    exact FIN.out.1
end Go.Proofs.YtabkelhipmijfaaGreatDoor
