/-
  Question; conditions as each theorem has them.
-/
import Derived.Test.YtelfikbahcckaaaDoorMD
import Derived.Test.YtelfikbahcckaaaDoorMB
import Derived.Test.YtelfikbahcckaaaDoorN3
set_option linter.unusedSimpArgs false
set_option linter.unusedVariables false
namespace Go.Proofs.YtelfikbahcckaaaDoor
open Go.RowKit
/-- What Question tells. -/
def IsQus (w : World) (A : (Nat × List Nat) × Er) (e : Ending) (w' : World) : Prop := ∃ er, e = .returned (.tuple #[.agg #[.int .i64 (A.1.1 : Nat), .string (strN A.1.2)], er]) ∧ IsF w' A.2 er ∧ Below w.heap.size w w'
theorem kset2q (w : World) (hb : Nat) (x y : Value) : Kept hb hb w ((w.setCell ⟨hb, 0, none⟩ x).setCell ⟨hb, 1, none⟩ y) := ((Kept.refl hb hb w).set 0 _).set 1 _
theorem Row.set2q {w : World} {hb : Nat} {ty : TypeId} {y0 y1 : Value} (h : Row w hb ty [y0, y1]) (x0 x1 : Value) : Row ((w.setCell ⟨hb, 0, none⟩ x0).setCell ⟨hb, 1, none⟩ x1) hb ty [x0, x1] := by
  simpa using (h.set 0 x0).set 1 x1
theorem finq_ok (w w7 : World) {A : (Nat × List Nat) × Er} {id : Nat} {nm : List Nat} {QX : ByteArray} (hA : A = ((id, nm), .ok)) (hq : strN nm = QX) (hz : Row w7 w.heap.size 40 [.int .i64 0, .string ⟨#[]⟩]) (hb : Below w.heap.size w w7) :
    IsQus w A (.returned (.tuple #[.agg #[.int .i64 (id : Nat), .string QX], .nilIface])) ((w7.setCell ⟨w.heap.size, 0, none⟩ (.int .i64 (id : Nat))).setCell ⟨w.heap.size, 1, none⟩ (.string QX)) ∧ Row ((w7.setCell ⟨w.heap.size, 0, none⟩ (.int .i64 (id : Nat))).setCell ⟨w.heap.size, 1, none⟩ (.string QX)) w.heap.size 40 [.int .i64 (id : Nat), .string QX] := by
  have k := kset2q w7 w.heap.size (.int .i64 (id : Nat)) (.string QX)
  subst hA hq
  exact ⟨⟨_, rfl, rfl, hb.trans (k.below (Nat.le_refl _) (Nat.le_refl _) hb.size)⟩, hz.set2q _ _⟩
theorem finq_bad (w w7 : World) {A : (Nat × List Nat) × Er} {E : Er} {er : Value} (hA : A = ((0, []), E)) (hi : IsF w7 E er) (hz : Row w7 w.heap.size 40 [.int .i64 0, .string ⟨#[]⟩]) (hb : Below w.heap.size w w7) :
    IsQus w A (.returned (.tuple #[.agg #[.int .i64 0, .string ⟨#[]⟩], er])) ((w7.setCell ⟨w.heap.size, 0, none⟩ (.int .i64 0)).setCell ⟨w.heap.size, 1, none⟩ (.string ⟨#[]⟩)).drew ∧ Row ((w7.setCell ⟨w.heap.size, 0, none⟩ (.int .i64 0)).setCell ⟨w.heap.size, 1, none⟩ (.string ⟨#[]⟩)).drew w.heap.size 40 [.int .i64 0, .string ⟨#[]⟩] := by
  have k := kset2q w7 w.heap.size (.int .i64 0) (.string ⟨#[]⟩)
  have r := hz.set2q (.int .i64 0) (.string ⟨#[]⟩)
  obtain ⟨W8, hW8⟩ : ∃ W, W = ((w7.setCell ⟨w.heap.size, 0, none⟩ (.int .i64 0)).setCell ⟨w.heap.size, 1, none⟩ (.string ⟨#[]⟩)) := ⟨_, rfl⟩
  rw [← hW8] at k r ⊢
  have hi8 : IsF W8 E er := hi.kept hz (by decide) k
  have hi9 : IsF W8.drew E er := hi8.keep fun _ _ _ => rfl
  subst hA
  exact ⟨⟨_, rfl, hi9, (hb.trans (k.below (Nat.le_refl _) (Nat.le_refl _) hb.size)).drew⟩, r⟩
set_option maxRecDepth 100000 in
set_option maxHeartbeats 4000000 in
theorem question_tells (a : Option Addr) (n c : Nat) (b : List Nat) (w : World) (h : Src w a n c b) (hV : Vars w) (hn : n ≤ 140737488351232) :
    Calls Tryd.prog 18 #[.slice a n c] w (IsQus w (qus b)) := by
  have HSB : Hid (∀ x o, a = some ⟨x, o, none⟩ → 0 < n → ∀ g', w.heap.size ≤ g' → x ≠ g') := fun x o e h0 g' hg' => by have := h.lt h0 e; omega
  have h0w : 0 < w.heap.size := by obtain ⟨m, hm⟩ := hV; exact lt_of_cell (a := ⟨0, 0, none⟩) hm
  obtain ⟨W0, hW0⟩ : ∃ W0, W0 = w.alloc (.cells #[.int .i64 0, .string ⟨#[]⟩] 40) := ⟨_, rfl⟩
  have b0 : Below w.heap.size w W0 := by rw [hW0]; exact (Below.refl _ _).alloc (Nat.le_refl _) _
  have hs0 : W0.heap.size = w.heap.size + 1 := by rw [hW0]; simp
  have T0 : Hid (Row W0 w.heap.size 40 [.int .i64 0, .string ⟨#[]⟩]) := by show Row _ _ _ _; rw [hW0]; exact Row.new w _ 40
  have HO := hide (open_at a n c b W0 (h.below b0))
  have HW0 := hide hW0.symm
  have S0 := hide (h.below b0)
  have V0 := hide (hV.below b0)
  have B0 := hide b0
  clear h hV hW0 b0
  go_enter Tryd.func18, Tryd.ntmps18
  go_wp2_with fail
  rw [HW0.out]
  refine HO.out.mono ?_
  rintro e w1 ⟨v, rfl, i1, b1⟩
  obtain ⟨W2, hW2⟩ : ∃ W2, W2 = w1.alloc (.cells #[.slice a n c, .int .i64 0, v] 79) := ⟨_, rfl⟩
  obtain ⟨g, hg⟩ : ∃ g, g = w1.heap.size := ⟨_, rfl⟩
  have b2 : Below w1.heap.size w1 W2 := by rw [hW2]; exact (Below.refl _ _).alloc (Nat.le_refl _) _
  have hopn : (opn b).1 = 0 := by unfold opn; split <;> rfl
  have R2 : Hid (Rdr W2 g 79 [] a n c b (opn b)) := ⟨⟨v, by rw [hW2, hg, hopn]; exact Row.new w1 _ 79, i1.below b2⟩, (S0.out.below b1).below b2, (S0.out.below b1).off (by omega), by decide, by rw [hopn]; decide⟩
  have B2 : Hid (Below W0.heap.size W0 W2) := b1.trans (b2.mono b1.size)
  have V2 := hide ((V0.out.below b1).below b2)
  have hs1 := b1.size
  have HH := hide (head_at g a n c b 0 W2 R2.out (by omega))
  rw [show ((0 : Nat) : Int) = 0 from rfl] at HH
  have HW2 := hide hW2.symm
  have HG := hide hg.symm
  obtain ⟨I, hI⟩ : ∃ I, I = hId b := ⟨_, rfl⟩
  obtain ⟨F, hF⟩ : ∃ F, F = hFl b := ⟨_, rfl⟩
  obtain ⟨NN, hNN⟩ : ∃ NN, NN = hAn b 0 := ⟨_, rfl⟩
  rw [← hI, ← hF, ← hNN] at HH
  have HI := hide hI
  have hv : v = .nilIface ∨ ∃ x, v = .iface 87 (.pointer (some ⟨x, 0, none⟩)) := by
    by_cases ho : (opn b).2 = .ok
    · exact Or.inl (i1.nil ho)
    · exact Or.inr (i1.ptr ho)
  clear i1 b1 b2 hW2 hg HO hI hF hNN
  rcases hv with rfl | ⟨x, rfl⟩
  all_goals (
    go_wp2_with fail
    rw [HW2.out]
    rw [HG.out]
    refine HH.out.mono ?_
    rintro e w3 ⟨rfl, r3, k3⟩
    obtain ⟨W4, hW4⟩ : ∃ W4, W4 = w3.alloc (.cells #[.int .i64 (I : Nat), .int .i64 (F : Nat), .int .i64 (NN : Nat)] 82) := ⟨_, rfl⟩
    obtain ⟨hh, hhh⟩ : ∃ hh, hh = w3.heap.size := ⟨_, rfl⟩
    have t4 : Row W4 hh 82 [.int .i64 (I : Nat), .int .i64 (F : Nat), .int .i64 (NN : Nat)] := by rw [hW4, hhh]; exact Row.new w3 _ 82
    have R4 : Hid (Rdr W4 g 79 [] a n c b (s5 b 0)) := by rw [hW4]; exact r3.alloc _
    have K4 : Hid (Kept g g W2 W4) := by rw [hW4]; exact k3.alloc _
    have V4 : Hid (Vars W4) := V2.out.kept K4.out (by have := HG.out; omega)
    have hs4 : W4.heap.size = hh + 1 := by rw [hW4, hhh]; simp
    have hg0 : 0 < g := by have := HG.out; omega
    have hgh : g < hh := by rw [hhh]; have := r3.block; exact this
    have c0 : W4.cell? ⟨hh, 0, none⟩ = some (.int .i64 (I : Nat)) := t4.cell 0
    have HW4 := hide hW4.symm
    have HHH := hide hhh.symm
    obtain ⟨QX, hQX⟩ : ∃ QX, QX = strN (mn b (s5 b 0)).1 := ⟨_, rfl⟩
    have HQX := hide hQX.symm
    have Z4 : Hid (Row W4 w.heap.size 40 [.int .i64 0, .string ⟨#[]⟩]) := (T0.out.below B2.out (by omega)).kept K4.out (by have := HG.out; omega) (by have := HG.out; omega)
    have BW4 : Hid (Below w.heap.size w W4) := (B0.out.trans (B2.out.mono (by omega))).trans (K4.out.below (by have := HG.out; omega) (by have := HG.out; omega) (by have := B2.out.size; omega))
    have hrg : w.heap.size < g := by have := HG.out; omega
    have HQ := hide (question_at g a n c b (s5 b 0) I W4 R4.out V4.out hn hg0)
    rw [HQX.out] at HQ
    clear r3 k3 hW4 hhh t4 hQX HH
    go_wp2_with fail
    rw [HW4.out, HHH.out]
    refine HQ.out.mono ?_
    rintro e w5 ⟨rfl, r5, k5, vv5⟩
    obtain ⟨W6, hW6⟩ : ∃ W6, W6 = w5.alloc (.cells #[.int .i64 (I : Nat), .string QX] 40) := ⟨_, rfl⟩
    have r6 : Rdr W6 g 79 [] a n c b (q2 b (s5 b 0)) := by rw [hW6]; exact r5.alloc _
    have k6 : Kept g g W4 W6 := by rw [hW6]; exact k5.alloc _
    have hl5 : w5.heap.size < W6.heap.size := by rw [hW6]; simp
    have p6 : Row W6 w5.heap.size 40 [.int .i64 (I : Nat), .string QX] := by rw [hW6]; exact Row.new w5 _ 40
    have y0 : W6.cell? ⟨w5.heap.size, 0, none⟩ = some (.int .i64 (I : Nat)) := p6.cell 0
    have y1 : W6.cell? ⟨w5.heap.size, 1, none⟩ = some (.string QX) := p6.cell 1
    have q6 := Z4.out.kept k6 (by omega) (by omega)
    have x0 : W6.cell? ⟨w.heap.size, 0, none⟩ = some (.int .i64 0) := q6.cell 0
    have x1 : W6.cell? ⟨w.heap.size, 1, none⟩ = some (.string ⟨#[]⟩) := q6.cell 1
    have u0 := q6.frozen 0
    have u1 := q6.frozen 1
    have hl7 := q6.lt
    have Q6 := hide q6
    have B6 : Hid (Below w.heap.size w W6) := BW4.out.trans (k6.below (by omega) (by omega) (by have := BW4.out.size; omega))
    obtain ⟨⟨er, rg6, if6⟩, _⟩ := r6
    have cg : W6.cell? ⟨g, 2, none⟩ = some er := rg6.cell 2
    have HW6 := hide hW6.symm
    clear hW6 p6 q6 rg6 r5 k5 k6 vv5 HQ
    by_cases hok : (q2 b (s5 b 0)).2 = .ok
    · obtain rfl := if6.nil hok
      have FIN := hide (finq_ok w W6 (A := qus b) (id := I) (nm := (mn b (s5 b 0)).1) (QX := QX) (by unfold qus; rw [if_pos hok, HI.out]) HQX.out Q6.out B6.out)
      clear if6
      go_wp2_with (first | rw [HW6.out])
      refine bodyPost_ret (res_cell_tmp rfl _ _ w.heap.size 40 #[.int .i64 (I : Nat), .string QX] (0, 0) _ rfl FIN.out.2 Tryd.underlying40 rfl info40) rfl ?_
      exact FIN.out.1
    · obtain ⟨eb, rfl⟩ := if6.ptr hok
      have FIN := hide (finq_bad w W6 (A := qus b) (E := (q2 b (s5 b 0)).2) (by unfold qus; rw [if_neg hok]) if6 Q6.out B6.out)
      clear if6
      go_wp2_with (first | rw [HW6.out])
      go_region
      all_goals go_wp2_with fail
      refine bodyPost_ret (res_cell_tmp rfl _ _ w.heap.size 40 #[.int .i64 0, .string ⟨#[]⟩] (0, 0) _ rfl FIN.out.2 Tryd.underlying40 rfl info40) rfl ?_
      exact FIN.out.1)
end Go.Proofs.YtelfikbahcckaaaDoor
