/-
  Answer of package dns; conditions as each theorem has them.
-/
import Derived.Test.YtabkelhipmijfaaGreatDoorMI
import Derived.Test.YtabkelhipmijfaaGreatDoorJoinedMB
set_option linter.unusedSimpArgs false
set_option linter.unusedVariables false
namespace Go.Proofs.YtabkelhipmijfaaGreatDoor
open Go.RowKit
theorem kset5 (w : World) (hb : Nat) (x0 x1 x2 x3 x4 : Value) : Kept hb hb w (((((w.setCell ⟨hb, 0, none⟩ x0).setCell ⟨hb, 1, none⟩ x1).setCell ⟨hb, 2, none⟩ x2).setCell ⟨hb, 3, none⟩ x3).setCell ⟨hb, 4, none⟩ x4) := (((((Kept.refl hb hb w).set 0 _).set 1 _).set 2 _).set 3 _).set 4 _
theorem Row.set5 {w : World} {hb : Nat} {ty : TypeId} {y0 y1 y2 y3 y4 : Value} (h : Row w hb ty [y0, y1, y2, y3, y4]) (x0 x1 x2 x3 x4 : Value) : Row (((((w.setCell ⟨hb, 0, none⟩ x0).setCell ⟨hb, 1, none⟩ x1).setCell ⟨hb, 2, none⟩ x2).setCell ⟨hb, 3, none⟩ x3).setCell ⟨hb, 4, none⟩ x4) hb ty [x0, x1, x2, x3, x4] := by
  simpa using ((((h.set 0 x0).set 1 x1).set 2 x2).set 3 x3).set 4 x4
/-- What Answer tells. -/
def IsAns (w : World) (A : An × Er) (e : Ending) (w' : World) : Prop := ∃ v er, e = .returned (.tuple #[.agg #[.int .i64 (A.1.id : Nat), .string (strN A.1.nm), .int .i64 (A.1.cd : Nat), v, .int .i64 (A.1.tl : Nat)], er]) ∧ OwnA w' w.heap.size v A.1.ad ∧ IsF w' A.2 er ∧ Below w.heap.size w w'
theorem isAns_mk {w w' : World} {A : An × Er} {id cd tl : Nat} {nm : List Nat} {QX : ByteArray} {l : List Ad} {E : Er} {v er : Value} (hA : A = (⟨id, nm, cd, l, tl⟩, E)) (hq : strN nm = QX) (ho : OwnA w' w.heap.size v l) (hi : IsF w' E er) (hb : Below w.heap.size w w') : IsAns w A (.returned (.tuple #[.agg #[.int .i64 (id : Nat), .string QX, .int .i64 (cd : Nat), v, .int .i64 (tl : Nat)], er])) w' := by
  subst hA hq
  exact ⟨v, er, rfl, ho, hi, hb⟩
theorem OwnA.mono {w : World} {B B' : Nat} {v : Value} {l : List Ad} (h : OwnA w B v l) (hB : B' ≤ B) : OwnA w B' v l := by
  refine ⟨h.1, ?_⟩
  rcases h.2 with h0 | ⟨x, cap, cur, hv, hx, hrest⟩
  · exact Or.inl h0
  · exact Or.inr ⟨x, cap, cur, hv, by omega, hrest⟩
theorem kset2 (w : World) (hb : Nat) (i j : Nat) (x y : Value) : Kept hb hb w ((w.setCell ⟨hb, i, none⟩ x).setCell ⟨hb, j, none⟩ y) := ((Kept.refl hb hb w).set i _).set j _
theorem fin_ok (w w7 : World) {A : An × Er} {id cd tl : Nat} {nm : List Nat} {QX : ByteArray} {l : List Ad} {v : Value} (hA : A = (⟨id, nm, cd, l, tl⟩, .ok)) (hq : strN nm = QX) (ho : OwnA w7 w.heap.size v l) (hz : Row w7 w.heap.size 65 [.int .i64 0, .string ⟨#[]⟩, .int .i64 0, .slice none 0 0, .int .i64 0]) (hb : Below w.heap.size w w7) :
    IsAns w A (.returned (.tuple #[.agg #[.int .i64 (id : Nat), .string QX, .int .i64 (cd : Nat), v, .int .i64 (tl : Nat)], .nilIface])) (((((w7.setCell ⟨w.heap.size, 0, none⟩ (.int .i64 (id : Nat))).setCell ⟨w.heap.size, 1, none⟩ (.string QX)).setCell ⟨w.heap.size, 2, none⟩ (.int .i64 (cd : Nat))).setCell ⟨w.heap.size, 3, none⟩ (v)).setCell ⟨w.heap.size, 4, none⟩ (.int .i64 (tl : Nat))) ∧ Row (((((w7.setCell ⟨w.heap.size, 0, none⟩ (.int .i64 (id : Nat))).setCell ⟨w.heap.size, 1, none⟩ (.string QX)).setCell ⟨w.heap.size, 2, none⟩ (.int .i64 (cd : Nat))).setCell ⟨w.heap.size, 3, none⟩ (v)).setCell ⟨w.heap.size, 4, none⟩ (.int .i64 (tl : Nat))) w.heap.size 65 [.int .i64 (id : Nat), .string QX, .int .i64 (cd : Nat), v, .int .i64 (tl : Nat)] := by
  have k := kset5 w7 w.heap.size (.int .i64 (id : Nat)) (.string QX) (.int .i64 (cd : Nat)) v (.int .i64 (tl : Nat))
  have r := hz.set5 (.int .i64 (id : Nat)) (.string QX) (.int .i64 (cd : Nat)) v (.int .i64 (tl : Nat))
  obtain ⟨W8, hW8⟩ : ∃ W, W = (((((w7.setCell ⟨w.heap.size, 0, none⟩ (.int .i64 (id : Nat))).setCell ⟨w.heap.size, 1, none⟩ (.string QX)).setCell ⟨w.heap.size, 2, none⟩ (.int .i64 (cd : Nat))).setCell ⟨w.heap.size, 3, none⟩ (v)).setCell ⟨w.heap.size, 4, none⟩ (.int .i64 (tl : Nat))) := ⟨_, rfl⟩
  rw [← hW8] at k r ⊢
  exact ⟨isAns_mk hA hq (ho.kept hz (by decide) k) rfl (hb.trans (k.below (Nat.le_refl _) (Nat.le_refl _) hb.size)), r⟩
theorem fin_bad (w w7 : World) {A : An × Er} {E : Er} {er : Value} (hA : A = (An.none, E)) (hi : IsF w7 E er) (hz : Row w7 w.heap.size 65 [.int .i64 0, .string ⟨#[]⟩, .int .i64 0, .slice none 0 0, .int .i64 0]) (hb : Below w.heap.size w w7) :
    IsAns w A (.returned (.tuple #[.agg #[.int .i64 0, .string ⟨#[]⟩, .int .i64 0, .slice none 0 0, .int .i64 0], er])) (((((w7.setCell ⟨w.heap.size, 0, none⟩ (.int .i64 0)).setCell ⟨w.heap.size, 1, none⟩ (.string ⟨#[]⟩)).setCell ⟨w.heap.size, 2, none⟩ (.int .i64 0)).setCell ⟨w.heap.size, 3, none⟩ (.slice none 0 0)).setCell ⟨w.heap.size, 4, none⟩ (.int .i64 0)).drew ∧ Row (((((w7.setCell ⟨w.heap.size, 0, none⟩ (.int .i64 0)).setCell ⟨w.heap.size, 1, none⟩ (.string ⟨#[]⟩)).setCell ⟨w.heap.size, 2, none⟩ (.int .i64 0)).setCell ⟨w.heap.size, 3, none⟩ (.slice none 0 0)).setCell ⟨w.heap.size, 4, none⟩ (.int .i64 0)).drew w.heap.size 65 [.int .i64 0, .string ⟨#[]⟩, .int .i64 0, .slice none 0 0, .int .i64 0] := by
  have k := kset5 w7 w.heap.size (.int .i64 0) (.string ⟨#[]⟩) (.int .i64 0) (.slice none 0 0) (.int .i64 0)
  have r := hz.set5 (.int .i64 0) (.string ⟨#[]⟩) (.int .i64 0) (.slice none 0 0) (.int .i64 0)
  obtain ⟨W8, hW8⟩ : ∃ W, W = (((((w7.setCell ⟨w.heap.size, 0, none⟩ (.int .i64 0)).setCell ⟨w.heap.size, 1, none⟩ (.string ⟨#[]⟩)).setCell ⟨w.heap.size, 2, none⟩ (.int .i64 0)).setCell ⟨w.heap.size, 3, none⟩ (.slice none 0 0)).setCell ⟨w.heap.size, 4, none⟩ (.int .i64 0)) := ⟨_, rfl⟩
  rw [← hW8] at k r ⊢
  have hi8 : IsF W8 E er := hi.kept hz (by decide) k
  have hi9 : IsF W8.drew E er := hi8.keep fun _ _ _ => rfl
  have hb9 : Below w.heap.size w W8.drew := (hb.trans (k.below (Nat.le_refl _) (Nat.le_refl _) hb.size)).drew
  exact ⟨isAns_mk (id := 0) (l := []) (tl := 0) (cd := 0) (nm := []) (QX := ⟨#[]⟩) hA rfl (OwnA.nil _ _) hi9 hb9, r⟩
theorem two_set {w w6 : World} {hb_ B : Nat} {C C' : List Value} {l : List Ad} {v x y er : Value} {E : Er} (p : Row w6 hb_ 65 C) (ho : OwnA w6 B v l) (hB : w.heap.size ≤ B) (hz : Row w6 w.heap.size 65 C') (hne : w.heap.size < hb_) (hb : Below w.heap.size w w6) (hi : IsF w6 E er) :
    OwnA ((w6.setCell ⟨hb_, 3, none⟩ x).setCell ⟨hb_, 4, none⟩ y) w.heap.size v l ∧ Row ((w6.setCell ⟨hb_, 3, none⟩ x).setCell ⟨hb_, 4, none⟩ y) w.heap.size 65 C' ∧ Below w.heap.size w ((w6.setCell ⟨hb_, 3, none⟩ x).setCell ⟨hb_, 4, none⟩ y) ∧ IsF ((w6.setCell ⟨hb_, 3, none⟩ x).setCell ⟨hb_, 4, none⟩ y) E er := by
  have k := kset2 w6 hb_ 3 4 x y
  exact ⟨(ho.mono hB).kept p (by decide) k, hz.kept k (by omega) (by omega), hb.trans (k.below (by omega) (by omega) hb.size), hi.kept p (by decide) k⟩
theorem info43 : (Tryz.prog.info? 65).map (·.size) = some 5 := by kernel_rfl
set_option maxRecDepth 100000 in
set_option maxHeartbeats 16000000 in
theorem answer_at (a : Option Addr) (n c : Nat) (b : List Nat) (w : World) (h : Src w a n c b) (hV : Vars w) (hn : n ≤ 140737488351232) :
    Calls Tryz.prog 55 #[.slice a n c] w (IsAns w (ans b)) := by
  have HSB : Hid (∀ x o, a = some ⟨x, o, none⟩ → 0 < n → ∀ g', w.heap.size ≤ g' → x ≠ g') := fun x o e h0 g' hg' => by have := h.lt h0 e; omega
  have h0w : 0 < w.heap.size := by obtain ⟨m, hm⟩ := hV; exact lt_of_cell (a := ⟨0, 0, none⟩) hm
  obtain ⟨W0, hW0⟩ : ∃ W0, W0 = w.alloc (.cells #[.int .i64 0, .string ⟨#[]⟩, .int .i64 0, .slice none 0 0, .int .i64 0] 65) := ⟨_, rfl⟩
  have b0 : Below w.heap.size w W0 := by rw [hW0]; exact (Below.refl _ _).alloc (Nat.le_refl _) _
  have hs0 : W0.heap.size = w.heap.size + 1 := by rw [hW0]; simp
  have T0 : Hid (Row W0 w.heap.size 65 [.int .i64 0, .string ⟨#[]⟩, .int .i64 0, .slice none 0 0, .int .i64 0]) := by show Row _ _ _ _; rw [hW0]; exact Row.new w _ 65
  have HO := hide (open_at a n c b W0 (h.below b0))
  have HW0 := hide hW0.symm
  have S0 := hide (h.below b0)
  have V0 := hide (hV.below b0)
  have B0 := hide b0
  clear h hV hW0 b0
  go_enter Tryz.func55, Tryz.ntmps55
  go_wp2_with fail
  rw [HW0.out]
  refine HO.out.mono ?_
  rintro e w1 ⟨v, rfl, i1, b1⟩
  obtain ⟨W2, hW2⟩ : ∃ W2, W2 = w1.alloc (.cells #[.slice a n c, .int .i64 0, v] 148) := ⟨_, rfl⟩
  obtain ⟨g, hg⟩ : ∃ g, g = w1.heap.size := ⟨_, rfl⟩
  have b2 : Below w1.heap.size w1 W2 := by rw [hW2]; exact (Below.refl _ _).alloc (Nat.le_refl _) _
  have hopn : (opn b).1 = 0 := by unfold opn; split <;> rfl
  have R2 : Hid (Rdr W2 g 148 [] a n c b (opn b)) := ⟨⟨v, by rw [hW2, hg, hopn]; exact Row.new w1 _ 148, i1.below b2⟩, (S0.out.below b1).below b2, (S0.out.below b1).off (by omega), by decide, by rw [hopn]; decide⟩
  have B2 : Hid (Below W0.heap.size W0 W2) := b1.trans (b2.mono b1.size)
  have V2 := hide ((V0.out.below b1).below b2)
  have hs1 := b1.size
  have HH := hide (head_at g a n c b 32768 W2 R2.out (by omega))
  rw [show ((32768 : Nat) : Int) = 32768 from rfl] at HH
  have HW2 := hide hW2.symm
  have HG := hide hg.symm
  obtain ⟨I, hI⟩ : ∃ I, I = hId b := ⟨_, rfl⟩
  obtain ⟨F, hF⟩ : ∃ F, F = hFl b := ⟨_, rfl⟩
  obtain ⟨NN, hNN⟩ : ∃ NN, NN = hAn b 32768 := ⟨_, rfl⟩
  rw [← hI, ← hF, ← hNN] at HH
  have HI := hide hI
  have HF := hide hF
  have HNN := hide hNN
  have hv : v = .nilIface ∨ ∃ x, v = .iface 156 (.pointer (some ⟨x, 0, none⟩)) := by
    by_cases ho : (opn b).2 = .ok
    · exact Or.inl (i1.nil ho)
    · exact Or.inr (i1.ptr ho)
  clear i1 b1 b2 hW2 hg HO hI hF hNN
  rcases hv with rfl | ⟨x, rfl⟩
  · go_wp2_with fail
    rw [HW2.out]
    rw [HG.out]
    refine HH.out.mono ?_
    rintro e w3 ⟨rfl, r3, k3⟩
    obtain ⟨W4, hW4⟩ : ∃ W4, W4 = w3.alloc (.cells #[.int .i64 (I : Nat), .int .i64 (F : Nat), .int .i64 (NN : Nat)] 151) := ⟨_, rfl⟩
    obtain ⟨hh, hhh⟩ : ∃ hh, hh = w3.heap.size := ⟨_, rfl⟩
    have t4 : Row W4 hh 151 [.int .i64 (I : Nat), .int .i64 (F : Nat), .int .i64 (NN : Nat)] := by rw [hW4, hhh]; exact Row.new w3 _ 151
    have R4 : Hid (Rdr W4 g 148 [] a n c b (s5 b 32768)) := by rw [hW4]; exact r3.alloc _
    have K4 : Hid (Kept g g W2 W4) := by rw [hW4]; exact k3.alloc _
    have V4 : Hid (Vars W4) := V2.out.kept K4.out (by have := HG.out; omega)
    have hs4 : W4.heap.size = hh + 1 := by rw [hW4, hhh]; simp
    have hg0 : 0 < g := by have := HG.out; omega
    have hgh : g < hh := by rw [hhh]; have := r3.block; exact this
    have c0 : W4.cell? ⟨hh, 0, none⟩ = some (.int .i64 (I : Nat)) := t4.cell 0
    have c1 : W4.cell? ⟨hh, 1, none⟩ = some (.int .i64 (F : Nat)) := t4.cell 1
    have T4 := hide t4
    have HW4 := hide hW4.symm
    have HHH := hide hhh.symm
    have hFl : F < 65536 := by rw [HF.out]; exact nu_lt S0.out.byte _
    have han := and_i64 F 15 hFl (by omega)
    rw [show ((15 : Nat) : Int) = 15 from rfl] at han
    obtain ⟨C, hC⟩ : ∃ C, C = F &&& 15 := ⟨_, rfl⟩
    rw [← hC] at han
    obtain ⟨QX, hQX⟩ : ∃ QX, QX = strN (aN b) := ⟨_, rfl⟩
    have HQX : Hid (strN (mn b (s5 b 32768)).1 = QX) := hQX.symm
    have HCC := hide hC
    have Z4 : Hid (Row W4 w.heap.size 65 [.int .i64 0, .string ⟨#[]⟩, .int .i64 0, .slice none 0 0, .int .i64 0]) := (T0.out.below B2.out (by omega)).kept K4.out (by have := HG.out; omega) (by have := HG.out; omega)
    have BW4 : Hid (Below w.heap.size w W4) := (B0.out.trans (B2.out.mono (by omega))).trans (K4.out.below (by have := HG.out; omega) (by have := HG.out; omega) (by have := B2.out.size; omega))
    have hrg : w.heap.size < g := by have := HG.out; omega
    clear r3 k3 hW4 hhh t4 hC hQX HH
    go_wp2_with fail
    rw [HW4.out, HHH.out]
    go_cut [6] (fun s6 wx => ∃ hb : Nat, s6 = .pointer (some ⟨hb, 0, none⟩) ∧ hh < hb ∧ hb < wx.heap.size ∧ Hid (Row wx hb 65 [.int .i64 (I : Nat), .string QX, .int .i64 (C : Nat), .slice none 0 0, .int .i64 0] ∧ Rdr wx g 148 [] a n c b (aS b) ∧ Kept g g W4 wx))
    case first =>
      go_region_with (first
        | (go_at_call 84; refine (question_at g a n c b (s5 b 32768) I _ (by exact (R4.out.alloc _).drew) (by exact V4.out.kept ((Kept.refl g g _).alloc _).drew hg0) hn hg0).mono ?_; rw [HQX.out]; rintro e wq ⟨rfl, r, k, vv⟩; have RQ := hide r; have KQ := hide (((Kept.refl g g W4).alloc _).trans k.of_drew); have u := T4.out.kept KQ.out (by omega) (by omega); have u1 : wq.cell? ⟨hh, 1, none⟩ = some (.int .i64 (F : Nat)) := u.cell 1; have ul := u.lt; have y : Row wq (hh + 1) 65 [.int .i64 0, .string ⟨#[]⟩, .int .i64 0, .slice none 0 0, .int .i64 0] := (by rw [← hs4]; exact (Row.new W4 #[.int .i64 0, .string ⟨#[]⟩, .int .i64 0, .slice none 0 0, .int .i64 0] 65).kept k.of_drew (by omega) (by omega)); have YQ := hide y; have y0 : wq.cell? ⟨hh + 1, 0, none⟩ = some (.int .i64 0) := y.cell 0; have y1 : wq.cell? ⟨hh + 1, 1, none⟩ = some (.string ⟨#[]⟩) := y.cell 1; have y2 : wq.cell? ⟨hh + 1, 2, none⟩ = some (.int .i64 0) := y.cell 2; have y3 : wq.cell? ⟨hh + 1, 3, none⟩ = some (.slice none 0 0) := y.cell 3; have y4 : wq.cell? ⟨hh + 1, 4, none⟩ = some (.int .i64 0) := y.cell 4; have z0 := y.frozen 0; have z1 := y.frozen 1; have z2 := y.frozen 2; have z3 := y.frozen 3; have z4 := y.frozen 4; have yl := y.lt; clear r k vv u y)
        | (go_at_call 84; refine (question_at g a n c b (s5 b 32768) I _ (by exact R4.out.drew) (by exact V4.out) hn hg0).mono ?_; rw [HQX.out]; rintro e wq ⟨rfl, r, k, vv⟩; have RQ := hide r; have KQ := hide k.of_drew; have u := T4.out.kept KQ.out (by omega) (by omega); have u1 : wq.cell? ⟨hh, 1, none⟩ = some (.int .i64 (F : Nat)) := u.cell 1; have ul := u.lt; clear r k vv u))
      all_goals (go_wp2_with fail)
      all_goals go_meet
      all_goals first
        | (have YQ0 := YQ; exact ⟨hh + 1, rfl, by omega, by simp [World.setCell]; omega, YQ.out.set5 (.int .i64 (I : Nat)) (.string QX) (.int .i64 (C : Nat)) (.slice none 0 0) (.int .i64 0), RQ.out.away YQ.out (by decide) (by omega) (fun x o e h0 => HSB.out x o e h0 _ (by omega)) (kset5 _ _ _ _ _ _ _), KQ.out.newk (kset5 _ _ _ _ _ _ _) (by omega)⟩)
        | exact ⟨wq.heap.size, rfl, by omega, by simp, Row.new wq _ 65, RQ.out.alloc _, KQ.out.alloc _⟩
    case rest =>
      obtain ⟨hb, rfl, hb1, hb2, HC⟩ := hcut
      obtain ⟨p5, r5, k5⟩ := HC.out
      have u5 := T4.out.kept k5 (by omega) (by omega)
      have d1 : wc.cell? ⟨hb, 1, none⟩ = some (.string QX) := p5.cell 1
      have d2 : wc.cell? ⟨hb, 2, none⟩ = some (.int .i64 (C : Nat)) := p5.cell 2
      have d3 : wc.cell? ⟨hh, 2, none⟩ = some (.int .i64 (NN : Nat)) := u5.cell 2
      have P5 := hide p5
      have R5 := hide r5
      have K5 := hide k5
      have Z5 := hide (Z4.out.kept k5 (by omega) (by omega))
      have B5 : Hid (Below w.heap.size w wc) := BW4.out.trans (k5.below (by omega) (by omega) (by omega))
      have V5 := hide (V4.out.kept k5 hg0)
      clear HC p5 r5 k5 u5 K4 R4 T4 V4 BW4 Z4
      by_cases hC0 : C = 0
      · have d0 : ((C : Int) == 0) = true := by simp [hC0]
        have HA := hide (addrs_at g a n c b (aS b) (aN b) NN wc R5.out V5.out hn hg0 (mn_byte S0.out.byte _) (by rw [HNN.out]; exact nu_lt S0.out.byte _))
        obtain ⟨T, hT⟩ : ∃ T, T = rloop b NN (aS b, aN b, [], 1048576) := ⟨_, rfl⟩
        rw [← hT] at HA
        obtain ⟨TT, hTT⟩ : ∃ TT : Nat, TT = if T.2.2.1 = [] then 0 else T.2.2.2 := ⟨_, rfl⟩
        rw [← hTT] at HA
        have HQN : Hid (strN (aN b) = QX) := HQX.out
        rw [HQN.out] at HA
        have HL : Hid (aL b = T) := by show _ = _; unfold aL; rw [if_pos (by rw [← HF.out, ← HCC.out]; exact hC0), ← HNN.out, hT]
        have HTT := hide hTT
        clear hTT hT
        go_wp2_with fail
        refine HA.out.mono ?_
        rintro e w6 ⟨v6, rfl, o6, r6, k6, vv6⟩
        obtain ⟨va, vc, rfl⟩ := o6.shape
        have p6 := P5.out.kept k6 (by omega) (by omega)
        have y3 : w6.cell? ⟨hb, 3, none⟩ = some (.slice none 0 0) := p6.cell 3
        have y4 : w6.cell? ⟨hb, 4, none⟩ = some (.int .i64 0) := p6.cell 4
        have y0 : w6.cell? ⟨hb, 0, none⟩ = some (.int .i64 (I : Nat)) := p6.cell 0
        have y1 : w6.cell? ⟨hb, 1, none⟩ = some (.string QX) := p6.cell 1
        have y2 : w6.cell? ⟨hb, 2, none⟩ = some (.int .i64 (C : Nat)) := p6.cell 2
        have z3 := p6.frozen 3
        have z4 := p6.frozen 4
        have hl6 := p6.lt
        have q6 := Z5.out.kept k6 (by omega) (by omega)
        have x0 : w6.cell? ⟨w.heap.size, 0, none⟩ = some (.int .i64 0) := q6.cell 0
        have x1 : w6.cell? ⟨w.heap.size, 1, none⟩ = some (.string ⟨#[]⟩) := q6.cell 1
        have x2 : w6.cell? ⟨w.heap.size, 2, none⟩ = some (.int .i64 0) := q6.cell 2
        have x3 : w6.cell? ⟨w.heap.size, 3, none⟩ = some (.slice none 0 0) := q6.cell 3
        have x4 : w6.cell? ⟨w.heap.size, 4, none⟩ = some (.int .i64 0) := q6.cell 4
        have u0 := q6.frozen 0
        have u1 := q6.frozen 1
        have u2 := q6.frozen 2
        have u3 := q6.frozen 3
        have u4 := q6.frozen 4
        have hl7 := q6.lt
        have hne1 : g ≠ hb := by omega
        have hne2 : w.heap.size ≠ hb := by omega
        have hne3 : hb ≠ w.heap.size := by omega
        have Q6 := hide q6
        have P6 := hide p6
        have O6 := hide o6
        have K6 := hide k6
        have B6 : Hid (Below w.heap.size w w6) := B5.out.trans (k6.below (by omega) (by omega) (by have := B5.out.size; omega))
        obtain ⟨⟨er, rg6, if6⟩, _⟩ := r6
        have cg : w6.cell? ⟨g, 2, none⟩ = some er := rg6.cell 2
        have I6 := hide if6
        have G6 := hide rg6
        clear HA p6 q6 o6 k6 vv6 rg6 d1 d2 d3
        obtain ⟨o7, z7, b7, f7⟩ := two_set (x := .slice va T.2.2.1.length vc) (y := .int .i64 (TT : Nat)) P6.out O6.out (by have := B5.out.size; omega) Q6.out (by omega) B6.out if6
        have O7 := hide o7
        have Z7 := hide z7
        have B7 := hide b7
        have F7 := hide f7
        clear o7 z7 b7 f7
        by_cases hok : T.1.2 = .ok
        · obtain rfl := if6.nil hok
          have FIN := hide (fin_ok w ((w6.setCell ⟨hb, 3, none⟩ (.slice va T.2.2.1.length vc)).setCell ⟨hb, 4, none⟩ (.int .i64 (TT : Nat))) (A := ans b) (id := I) (cd := 0) (tl := TT) (nm := aN b) (QX := QX) (l := T.2.2.1) (v := .slice va T.2.2.1.length vc) (by unfold ans; rw [HL.out, if_pos hok, HI.out, HTT.out, ← HF.out, ← HCC.out, hC0]) HQN.out O7.out Z7.out B7.out)
          rw [show ((0 : Nat) : Int) = 0 from rfl] at FIN
          clear if6
          go_wp2_with fail
          refine bodyPost_ret (res_cell_tmp rfl _ _ w.heap.size 65 #[.int .i64 (I : Nat), .string QX, .int .i64 0, .slice va T.2.2.1.length vc, .int .i64 (TT : Nat)] (0, 0) _ rfl FIN.out.2 Tryz.underlying65 rfl info43) rfl ?_
          exact FIN.out.1
        · obtain ⟨eb, rfl⟩ := if6.ptr hok
          have FIN := hide (fin_bad w ((w6.setCell ⟨hb, 3, none⟩ (.slice va T.2.2.1.length vc)).setCell ⟨hb, 4, none⟩ (.int .i64 (TT : Nat))) (A := ans b) (E := T.1.2) (by unfold ans; rw [HL.out, if_neg hok]) F7.out Z7.out B7.out)
          clear if6
          go_wp2_with fail
          go_region
          all_goals go_wp2_with fail
          refine bodyPost_ret (res_cell_tmp rfl _ _ w.heap.size 65 #[.int .i64 0, .string ⟨#[]⟩, .int .i64 0, .slice none 0 0, .int .i64 0] (0, 0) _ rfl FIN.out.2 Tryz.underlying65 rfl info43) rfl ?_
          exact FIN.out.1
      · have d0 : ((C : Int) == 0) = false := by simp; omega
        have HQN : Hid (strN (aN b) = QX) := HQX.out
        have HL : Hid (aL b = (aS b, aN b, [], 0)) := by show _ = _; unfold aL; rw [if_neg (by rw [← HF.out, ← HCC.out]; exact hC0)]
        have y3 : wc.cell? ⟨hb, 3, none⟩ = some (.slice none 0 0) := P5.out.cell 3
        have y4 : wc.cell? ⟨hb, 4, none⟩ = some (.int .i64 0) := P5.out.cell 4
        have y0 : wc.cell? ⟨hb, 0, none⟩ = some (.int .i64 (I : Nat)) := P5.out.cell 0
        have q6 := Z5.out
        have x0 : wc.cell? ⟨w.heap.size, 0, none⟩ = some (.int .i64 0) := q6.cell 0
        have x1 : wc.cell? ⟨w.heap.size, 1, none⟩ = some (.string ⟨#[]⟩) := q6.cell 1
        have x2 : wc.cell? ⟨w.heap.size, 2, none⟩ = some (.int .i64 0) := q6.cell 2
        have x3 : wc.cell? ⟨w.heap.size, 3, none⟩ = some (.slice none 0 0) := q6.cell 3
        have x4 : wc.cell? ⟨w.heap.size, 4, none⟩ = some (.int .i64 0) := q6.cell 4
        have u0 := q6.frozen 0
        have u1 := q6.frozen 1
        have u2 := q6.frozen 2
        have u3 := q6.frozen 3
        have u4 := q6.frozen 4
        have hl7 := q6.lt
        obtain ⟨⟨er, rg6, if6⟩, _⟩ := R5.out
        have cg : wc.cell? ⟨g, 2, none⟩ = some er := rg6.cell 2
        have Q6 := hide q6
        clear q6 rg6 d3
        by_cases hok : (aS b).2 = .ok
        · obtain rfl := if6.nil hok
          have FIN := hide (fin_ok w wc (A := ans b) (id := I) (cd := C) (tl := 0) (nm := aN b) (QX := QX) (l := []) (v := .slice none 0 0) (by unfold ans; rw [HL.out, if_pos hok, HI.out, ← HF.out, ← HCC.out]; rfl) HQN.out (OwnA.nil _ _) Q6.out B5.out)
          rw [show ((0 : Nat) : Int) = 0 from rfl] at FIN
          clear if6
          go_wp2_with fail
          refine bodyPost_ret (res_cell_tmp rfl _ _ w.heap.size 65 #[.int .i64 (I : Nat), .string QX, .int .i64 (C : Nat), .slice none 0 0, .int .i64 0] (0, 0) _ rfl FIN.out.2 Tryz.underlying65 rfl info43) rfl ?_
          exact FIN.out.1
        · obtain ⟨eb, rfl⟩ := if6.ptr hok
          have FIN := hide (fin_bad w wc (A := ans b) (E := (aS b).2) (by unfold ans; rw [HL.out, if_neg hok]) if6 Q6.out B5.out)
          clear if6
          go_wp2_with fail
          go_region
          all_goals go_wp2_with fail
          refine bodyPost_ret (res_cell_tmp rfl _ _ w.heap.size 65 #[.int .i64 0, .string ⟨#[]⟩, .int .i64 0, .slice none 0 0, .int .i64 0] (0, 0) _ rfl FIN.out.2 Tryz.underlying65 rfl info43) rfl ?_
          exact FIN.out.1
  · go_wp2_with fail
    rw [HW2.out]
    rw [HG.out]
    refine HH.out.mono ?_
    rintro e w3 ⟨rfl, r3, k3⟩
    obtain ⟨W4, hW4⟩ : ∃ W4, W4 = w3.alloc (.cells #[.int .i64 (I : Nat), .int .i64 (F : Nat), .int .i64 (NN : Nat)] 151) := ⟨_, rfl⟩
    obtain ⟨hh, hhh⟩ : ∃ hh, hh = w3.heap.size := ⟨_, rfl⟩
    have t4 : Row W4 hh 151 [.int .i64 (I : Nat), .int .i64 (F : Nat), .int .i64 (NN : Nat)] := by rw [hW4, hhh]; exact Row.new w3 _ 151
    have R4 : Hid (Rdr W4 g 148 [] a n c b (s5 b 32768)) := by rw [hW4]; exact r3.alloc _
    have K4 : Hid (Kept g g W2 W4) := by rw [hW4]; exact k3.alloc _
    have V4 : Hid (Vars W4) := V2.out.kept K4.out (by have := HG.out; omega)
    have hs4 : W4.heap.size = hh + 1 := by rw [hW4, hhh]; simp
    have hg0 : 0 < g := by have := HG.out; omega
    have hgh : g < hh := by rw [hhh]; have := r3.block; exact this
    have c0 : W4.cell? ⟨hh, 0, none⟩ = some (.int .i64 (I : Nat)) := t4.cell 0
    have c1 : W4.cell? ⟨hh, 1, none⟩ = some (.int .i64 (F : Nat)) := t4.cell 1
    have T4 := hide t4
    have HW4 := hide hW4.symm
    have HHH := hide hhh.symm
    have hFl : F < 65536 := by rw [HF.out]; exact nu_lt S0.out.byte _
    have han := and_i64 F 15 hFl (by omega)
    rw [show ((15 : Nat) : Int) = 15 from rfl] at han
    obtain ⟨C, hC⟩ : ∃ C, C = F &&& 15 := ⟨_, rfl⟩
    rw [← hC] at han
    obtain ⟨QX, hQX⟩ : ∃ QX, QX = strN (aN b) := ⟨_, rfl⟩
    have HQX : Hid (strN (mn b (s5 b 32768)).1 = QX) := hQX.symm
    have HCC := hide hC
    have Z4 : Hid (Row W4 w.heap.size 65 [.int .i64 0, .string ⟨#[]⟩, .int .i64 0, .slice none 0 0, .int .i64 0]) := (T0.out.below B2.out (by omega)).kept K4.out (by have := HG.out; omega) (by have := HG.out; omega)
    have BW4 : Hid (Below w.heap.size w W4) := (B0.out.trans (B2.out.mono (by omega))).trans (K4.out.below (by have := HG.out; omega) (by have := HG.out; omega) (by have := B2.out.size; omega))
    have hrg : w.heap.size < g := by have := HG.out; omega
    clear r3 k3 hW4 hhh t4 hC hQX HH
    go_wp2_with fail
    rw [HW4.out, HHH.out]
    go_cut [6] (fun s6 wx => ∃ hb : Nat, s6 = .pointer (some ⟨hb, 0, none⟩) ∧ hh < hb ∧ hb < wx.heap.size ∧ Hid (Row wx hb 65 [.int .i64 (I : Nat), .string QX, .int .i64 (C : Nat), .slice none 0 0, .int .i64 0] ∧ Rdr wx g 148 [] a n c b (aS b) ∧ Kept g g W4 wx))
    case first =>
      go_region_with (first
        | (go_at_call 84; refine (question_at g a n c b (s5 b 32768) I _ (by exact (R4.out.alloc _).drew) (by exact V4.out.kept ((Kept.refl g g _).alloc _).drew hg0) hn hg0).mono ?_; rw [HQX.out]; rintro e wq ⟨rfl, r, k, vv⟩; have RQ := hide r; have KQ := hide (((Kept.refl g g W4).alloc _).trans k.of_drew); have u := T4.out.kept KQ.out (by omega) (by omega); have u1 : wq.cell? ⟨hh, 1, none⟩ = some (.int .i64 (F : Nat)) := u.cell 1; have ul := u.lt; have y : Row wq (hh + 1) 65 [.int .i64 0, .string ⟨#[]⟩, .int .i64 0, .slice none 0 0, .int .i64 0] := (by rw [← hs4]; exact (Row.new W4 #[.int .i64 0, .string ⟨#[]⟩, .int .i64 0, .slice none 0 0, .int .i64 0] 65).kept k.of_drew (by omega) (by omega)); have YQ := hide y; have y0 : wq.cell? ⟨hh + 1, 0, none⟩ = some (.int .i64 0) := y.cell 0; have y1 : wq.cell? ⟨hh + 1, 1, none⟩ = some (.string ⟨#[]⟩) := y.cell 1; have y2 : wq.cell? ⟨hh + 1, 2, none⟩ = some (.int .i64 0) := y.cell 2; have y3 : wq.cell? ⟨hh + 1, 3, none⟩ = some (.slice none 0 0) := y.cell 3; have y4 : wq.cell? ⟨hh + 1, 4, none⟩ = some (.int .i64 0) := y.cell 4; have z0 := y.frozen 0; have z1 := y.frozen 1; have z2 := y.frozen 2; have z3 := y.frozen 3; have z4 := y.frozen 4; have yl := y.lt; clear r k vv u y)
        | (go_at_call 84; refine (question_at g a n c b (s5 b 32768) I _ (by exact R4.out.drew) (by exact V4.out) hn hg0).mono ?_; rw [HQX.out]; rintro e wq ⟨rfl, r, k, vv⟩; have RQ := hide r; have KQ := hide k.of_drew; have u := T4.out.kept KQ.out (by omega) (by omega); have u1 : wq.cell? ⟨hh, 1, none⟩ = some (.int .i64 (F : Nat)) := u.cell 1; have ul := u.lt; clear r k vv u))
      all_goals (go_wp2_with fail)
      all_goals go_meet
      all_goals first
        | (have YQ0 := YQ; exact ⟨hh + 1, rfl, by omega, by simp [World.setCell]; omega, YQ.out.set5 (.int .i64 (I : Nat)) (.string QX) (.int .i64 (C : Nat)) (.slice none 0 0) (.int .i64 0), RQ.out.away YQ.out (by decide) (by omega) (fun x o e h0 => HSB.out x o e h0 _ (by omega)) (kset5 _ _ _ _ _ _ _), KQ.out.newk (kset5 _ _ _ _ _ _ _) (by omega)⟩)
        | exact ⟨wq.heap.size, rfl, by omega, by simp, Row.new wq _ 65, RQ.out.alloc _, KQ.out.alloc _⟩
    case rest =>
      obtain ⟨hb, rfl, hb1, hb2, HC⟩ := hcut
      obtain ⟨p5, r5, k5⟩ := HC.out
      have u5 := T4.out.kept k5 (by omega) (by omega)
      have d1 : wc.cell? ⟨hb, 1, none⟩ = some (.string QX) := p5.cell 1
      have d2 : wc.cell? ⟨hb, 2, none⟩ = some (.int .i64 (C : Nat)) := p5.cell 2
      have d3 : wc.cell? ⟨hh, 2, none⟩ = some (.int .i64 (NN : Nat)) := u5.cell 2
      have P5 := hide p5
      have R5 := hide r5
      have K5 := hide k5
      have Z5 := hide (Z4.out.kept k5 (by omega) (by omega))
      have B5 : Hid (Below w.heap.size w wc) := BW4.out.trans (k5.below (by omega) (by omega) (by omega))
      have V5 := hide (V4.out.kept k5 hg0)
      clear HC p5 r5 k5 u5 K4 R4 T4 V4 BW4 Z4
      by_cases hC0 : C = 0
      · have d0 : ((C : Int) == 0) = true := by simp [hC0]
        have HA := hide (addrs_at g a n c b (aS b) (aN b) NN wc R5.out V5.out hn hg0 (mn_byte S0.out.byte _) (by rw [HNN.out]; exact nu_lt S0.out.byte _))
        obtain ⟨T, hT⟩ : ∃ T, T = rloop b NN (aS b, aN b, [], 1048576) := ⟨_, rfl⟩
        rw [← hT] at HA
        obtain ⟨TT, hTT⟩ : ∃ TT : Nat, TT = if T.2.2.1 = [] then 0 else T.2.2.2 := ⟨_, rfl⟩
        rw [← hTT] at HA
        have HQN : Hid (strN (aN b) = QX) := HQX.out
        rw [HQN.out] at HA
        have HL : Hid (aL b = T) := by show _ = _; unfold aL; rw [if_pos (by rw [← HF.out, ← HCC.out]; exact hC0), ← HNN.out, hT]
        have HTT := hide hTT
        clear hTT hT
        go_wp2_with fail
        refine HA.out.mono ?_
        rintro e w6 ⟨v6, rfl, o6, r6, k6, vv6⟩
        obtain ⟨va, vc, rfl⟩ := o6.shape
        have p6 := P5.out.kept k6 (by omega) (by omega)
        have y3 : w6.cell? ⟨hb, 3, none⟩ = some (.slice none 0 0) := p6.cell 3
        have y4 : w6.cell? ⟨hb, 4, none⟩ = some (.int .i64 0) := p6.cell 4
        have y0 : w6.cell? ⟨hb, 0, none⟩ = some (.int .i64 (I : Nat)) := p6.cell 0
        have y1 : w6.cell? ⟨hb, 1, none⟩ = some (.string QX) := p6.cell 1
        have y2 : w6.cell? ⟨hb, 2, none⟩ = some (.int .i64 (C : Nat)) := p6.cell 2
        have z3 := p6.frozen 3
        have z4 := p6.frozen 4
        have hl6 := p6.lt
        have q6 := Z5.out.kept k6 (by omega) (by omega)
        have x0 : w6.cell? ⟨w.heap.size, 0, none⟩ = some (.int .i64 0) := q6.cell 0
        have x1 : w6.cell? ⟨w.heap.size, 1, none⟩ = some (.string ⟨#[]⟩) := q6.cell 1
        have x2 : w6.cell? ⟨w.heap.size, 2, none⟩ = some (.int .i64 0) := q6.cell 2
        have x3 : w6.cell? ⟨w.heap.size, 3, none⟩ = some (.slice none 0 0) := q6.cell 3
        have x4 : w6.cell? ⟨w.heap.size, 4, none⟩ = some (.int .i64 0) := q6.cell 4
        have u0 := q6.frozen 0
        have u1 := q6.frozen 1
        have u2 := q6.frozen 2
        have u3 := q6.frozen 3
        have u4 := q6.frozen 4
        have hl7 := q6.lt
        have hne1 : g ≠ hb := by omega
        have hne2 : w.heap.size ≠ hb := by omega
        have hne3 : hb ≠ w.heap.size := by omega
        have Q6 := hide q6
        have P6 := hide p6
        have O6 := hide o6
        have K6 := hide k6
        have B6 : Hid (Below w.heap.size w w6) := B5.out.trans (k6.below (by omega) (by omega) (by have := B5.out.size; omega))
        obtain ⟨⟨er, rg6, if6⟩, _⟩ := r6
        have cg : w6.cell? ⟨g, 2, none⟩ = some er := rg6.cell 2
        have I6 := hide if6
        have G6 := hide rg6
        clear HA p6 q6 o6 k6 vv6 rg6 d1 d2 d3
        obtain ⟨o7, z7, b7, f7⟩ := two_set (x := .slice va T.2.2.1.length vc) (y := .int .i64 (TT : Nat)) P6.out O6.out (by have := B5.out.size; omega) Q6.out (by omega) B6.out if6
        have O7 := hide o7
        have Z7 := hide z7
        have B7 := hide b7
        have F7 := hide f7
        clear o7 z7 b7 f7
        by_cases hok : T.1.2 = .ok
        · obtain rfl := if6.nil hok
          have FIN := hide (fin_ok w ((w6.setCell ⟨hb, 3, none⟩ (.slice va T.2.2.1.length vc)).setCell ⟨hb, 4, none⟩ (.int .i64 (TT : Nat))) (A := ans b) (id := I) (cd := 0) (tl := TT) (nm := aN b) (QX := QX) (l := T.2.2.1) (v := .slice va T.2.2.1.length vc) (by unfold ans; rw [HL.out, if_pos hok, HI.out, HTT.out, ← HF.out, ← HCC.out, hC0]) HQN.out O7.out Z7.out B7.out)
          rw [show ((0 : Nat) : Int) = 0 from rfl] at FIN
          clear if6
          go_wp2_with fail
          refine bodyPost_ret (res_cell_tmp rfl _ _ w.heap.size 65 #[.int .i64 (I : Nat), .string QX, .int .i64 0, .slice va T.2.2.1.length vc, .int .i64 (TT : Nat)] (0, 0) _ rfl FIN.out.2 Tryz.underlying65 rfl info43) rfl ?_
          exact FIN.out.1
        · obtain ⟨eb, rfl⟩ := if6.ptr hok
          have FIN := hide (fin_bad w ((w6.setCell ⟨hb, 3, none⟩ (.slice va T.2.2.1.length vc)).setCell ⟨hb, 4, none⟩ (.int .i64 (TT : Nat))) (A := ans b) (E := T.1.2) (by unfold ans; rw [HL.out, if_neg hok]) F7.out Z7.out B7.out)
          clear if6
          go_wp2_with fail
          go_region
          all_goals go_wp2_with fail
          refine bodyPost_ret (res_cell_tmp rfl _ _ w.heap.size 65 #[.int .i64 0, .string ⟨#[]⟩, .int .i64 0, .slice none 0 0, .int .i64 0] (0, 0) _ rfl FIN.out.2 Tryz.underlying65 rfl info43) rfl ?_
          exact FIN.out.1
      · have d0 : ((C : Int) == 0) = false := by simp; omega
        have HQN : Hid (strN (aN b) = QX) := HQX.out
        have HL : Hid (aL b = (aS b, aN b, [], 0)) := by show _ = _; unfold aL; rw [if_neg (by rw [← HF.out, ← HCC.out]; exact hC0)]
        have y3 : wc.cell? ⟨hb, 3, none⟩ = some (.slice none 0 0) := P5.out.cell 3
        have y4 : wc.cell? ⟨hb, 4, none⟩ = some (.int .i64 0) := P5.out.cell 4
        have y0 : wc.cell? ⟨hb, 0, none⟩ = some (.int .i64 (I : Nat)) := P5.out.cell 0
        have q6 := Z5.out
        have x0 : wc.cell? ⟨w.heap.size, 0, none⟩ = some (.int .i64 0) := q6.cell 0
        have x1 : wc.cell? ⟨w.heap.size, 1, none⟩ = some (.string ⟨#[]⟩) := q6.cell 1
        have x2 : wc.cell? ⟨w.heap.size, 2, none⟩ = some (.int .i64 0) := q6.cell 2
        have x3 : wc.cell? ⟨w.heap.size, 3, none⟩ = some (.slice none 0 0) := q6.cell 3
        have x4 : wc.cell? ⟨w.heap.size, 4, none⟩ = some (.int .i64 0) := q6.cell 4
        have u0 := q6.frozen 0
        have u1 := q6.frozen 1
        have u2 := q6.frozen 2
        have u3 := q6.frozen 3
        have u4 := q6.frozen 4
        have hl7 := q6.lt
        obtain ⟨⟨er, rg6, if6⟩, _⟩ := R5.out
        have cg : wc.cell? ⟨g, 2, none⟩ = some er := rg6.cell 2
        have Q6 := hide q6
        clear q6 rg6 d3
        by_cases hok : (aS b).2 = .ok
        · obtain rfl := if6.nil hok
          have FIN := hide (fin_ok w wc (A := ans b) (id := I) (cd := C) (tl := 0) (nm := aN b) (QX := QX) (l := []) (v := .slice none 0 0) (by unfold ans; rw [HL.out, if_pos hok, HI.out, ← HF.out, ← HCC.out]; rfl) HQN.out (OwnA.nil _ _) Q6.out B5.out)
          rw [show ((0 : Nat) : Int) = 0 from rfl] at FIN
          clear if6
          go_wp2_with fail
          refine bodyPost_ret (res_cell_tmp rfl _ _ w.heap.size 65 #[.int .i64 (I : Nat), .string QX, .int .i64 (C : Nat), .slice none 0 0, .int .i64 0] (0, 0) _ rfl FIN.out.2 Tryz.underlying65 rfl info43) rfl ?_
          exact FIN.out.1
        · obtain ⟨eb, rfl⟩ := if6.ptr hok
          have FIN := hide (fin_bad w wc (A := ans b) (E := (aS b).2) (by unfold ans; rw [HL.out, if_neg hok]) if6 Q6.out B5.out)
          clear if6
          go_wp2_with fail
          go_region
          all_goals go_wp2_with fail
          refine bodyPost_ret (res_cell_tmp rfl _ _ w.heap.size 65 #[.int .i64 0, .string ⟨#[]⟩, .int .i64 0, .slice none 0 0, .int .i64 0] (0, 0) _ rfl FIN.out.2 Tryz.underlying65 rfl info43) rfl ?_
          exact FIN.out.1
end Go.Proofs.YtabkelhipmijfaaGreatDoor
