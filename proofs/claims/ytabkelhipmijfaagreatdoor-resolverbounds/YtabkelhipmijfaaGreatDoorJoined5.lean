/-
  The reader of messages: questions; The reader of messages: seconds; conditions as each theorem has them.
-/
import Derived.Test.YtabkelhipmijfaaGreatDoorJoinedMB
import Derived.Test.YtabkelhipmijfaaGreatDoorJoined4
set_option linter.unusedSimpArgs false
set_option linter.unusedVariables false
namespace Go.Proofs.YtabkelhipmijfaaGreatDoor
open Go.RowKit
theorem info40 : (Tryz.prog.info? 57).map (·.size) = some 2 := by kernel_rfl
theorem Rdr.row2 {w : World} {g : Nat} {ty : TypeId} {R : List Value} {a : Option Addr} {n c : Nat} {b : List Nat} {s : Sr} (h : Rdr w g ty R a n c b s) {hb : Nat} {tz : TypeId} {C : List Value} (hr : Row w hb tz C) (hne : tz ≠ 158) (hg : hb ≠ g) (hx : ∀ x o, a = some ⟨x, o, none⟩ → 0 < n → x ≠ hb) (x0 x1 : Value) :
    Rdr ((w.setCell ⟨hb, 0, none⟩ x0).setCell ⟨hb, 1, none⟩ x1) g ty R a n c b s :=
  (h.other hr hne hg hx 0 x0).other (hr.set 0 x0) hne hg hx 1 x1
theorem Vars.setc2 {w : World} (h : Vars w) {x : Nat} (hx : 0 < x) (u v : Value) : Vars ((w.setCell ⟨x, 0, none⟩ u).setCell ⟨x, 1, none⟩ v) := by
  have k : Kept x x w ((w.setCell ⟨x, 0, none⟩ u).setCell ⟨x, 1, none⟩ v) := ((Kept.refl _ _ _).set 0 _).set 1 _
  exact h.kept k hx
set_option maxRecDepth 100000 in
set_option maxHeartbeats 4000000 in
theorem question_at (g : Nat) (a : Option Addr) (n c : Nat) (b : List Nat) (s : Sr) (id : Nat) (w : World) (h : Rdr w g 148 [] a n c b s) (hV : Vars w) (hn : n ≤ 140737488351232) (hg0 : 0 < g) :
    Calls Tryz.prog 84 #[.pointer (some ⟨g, 0, none⟩), .int .i64 (id : Nat)] w fun e w' => e = .returned (.agg #[.int .i64 (id : Nat), .string (strN (mn b s).1)]) ∧ Rdr w' g 148 [] a n c b (q2 b s) ∧ Kept g g w w' ∧ Vars w' := by
  have hgs := h.block
  have HSB : Hid (∀ x o, a = some ⟨x, o, none⟩ → 0 < n → x < w.heap.size) := fun x o e h0 => h.src.lt h0 e
  obtain ⟨W0, hW0⟩ : ∃ W0, W0 = w.alloc (.cells #[.int .i64 0, .string ⟨#[]⟩] 57) := ⟨_, rfl⟩
  have R0 : Rdr W0 g 148 [] a n c b s := by rw [hW0]; exact h.alloc _
  have K0 : Hid (Kept g g w W0) := by rw [hW0]; exact (Kept.refl _ _ _).alloc _
  have hs0 : W0.heap.size = w.heap.size + 1 := by rw [hW0]; simp
  have T0 : Hid (Row W0 w.heap.size 57 [.int .i64 0, .string ⟨#[]⟩]) := by rw [hW0]; exact Row.new w _ 57
  have V0 := hV.kept K0.out hg0
  have HV0 := hide V0
  have HW0 := hide hW0.symm
  obtain ⟨X, hX⟩ : ∃ X, X = strN (mn b s).1 := ⟨_, rfl⟩
  have HNM := hide (mname_at g a n c b s W0 R0 V0 hn hg0)
  rw [← hX] at HNM ⊢
  obtain ⟨M, hM⟩ : ∃ M, M = (mn b s).2.1 := ⟨_, rfl⟩
  have HM := hide hM
  clear h hW0 R0 V0 hX hV hM
  go_enter Tryz.func84, Tryz.ntmps84
  go_wp2_with fail
  rw [HW0.out]
  refine HNM.out.mono ?_
  rintro e w1 ⟨rfl, r1, k1, v1⟩
  have hs1 := k1.size
  obtain ⟨W2, hW2⟩ : ∃ W2, W2 = w1.alloc (.cells #[.int .i64 (id : Nat), .string X] 57) := ⟨_, rfl⟩
  obtain ⟨hb, hhb⟩ : ∃ hb, hb = w1.heap.size := ⟨_, rfl⟩
  have RW : Hid (Row W2 hb 57 [.int .i64 (id : Nat), .string X]) := by show Row _ _ _ _; rw [hW2, hhb]; exact Row.new w1 _ 57
  have RD : Hid (Rdr W2 g 148 [] a n c b (mn b s).2) := by rw [hW2]; exact r1.alloc _
  have KP : Hid (Kept g g W0 W2) := by rw [hW2]; exact k1.alloc _
  have hb1 : w.heap.size < hb := by omega
  have c1 : W2.cell? ⟨g, 1, none⟩ = some (.int .i64 (M : Nat)) := by obtain ⟨⟨v, p1, _⟩, _⟩ := RD.out; rw [HM.out]; exact p1.cell 1
  have hgs2 := RD.out.block
  have HW2 := hide hW2.symm
  have HHB := hide hhb.symm
  have HN1 := hide (number_at g 148 [] a n c b (mn b s).2 W2 RD.out)
  obtain ⟨V, hVV⟩ : ∃ V, V = nu b (mn b s).2 := ⟨_, rfl⟩
  rw [← hVV] at HN1
  have HVV := hide hVV
  have c1' : (w1.alloc (.cells #[.int .i64 (id : Nat), .string X] 57)).cell? ⟨g, 1, none⟩ = some (.int .i64 (M : Nat)) := by rw [← hW2]; exact c1
  clear r1 k1 v1 hW2 hhb hVV HNM
  go_wp2_with fail
  rw [HW2.out]
  rw [HHB.out]
  refine HN1.out.mono ?_
  rintro e w4 ⟨rfl, r4, k4⟩
  have R4 := hide r4
  have RW4 := hide (RW.out.kept k4 (by omega) (by omega))
  have KP4 := hide (KP.out.trans k4)
  clear r4 k4 c1 c1'
  by_cases hq : V = 1
  · have hqk : ((V : Int) != 1) = false := by simp; omega
    have H2 : Hid (tk b 2 (mn b s).2 = q1 b s) := by show _ = _; unfold q1 chk1; rw [if_pos (by rw [← HVV.out]; simp [hq])]
    rw [H2.out] at R4
    clear hq
    have HNB := hide (number_at g 148 [] a n c b (q1 b s) w4 R4.out)
    obtain ⟨U, hU⟩ : ∃ U, U = nu b (q1 b s) := ⟨_, rfl⟩
    rw [← hU] at HNB
    have HUU := hide hU
    clear hU
    go_wp2_with fail
    refine HNB.out.mono ?_
    rintro e w6 ⟨rfl, r6, k6⟩
    have R6 := hide r6
    have RW6 := hide (RW4.out.kept k6 (by omega) (by omega))
    have KP6 := hide (KP4.out.trans k6)
    clear r6 k6
    by_cases hv1 : U = 1
    · have hv : ((U : Int) != 1) = false := by simp; omega
      have H3 : Hid (tk b 2 (q1 b s) = q2 b s) := by show _ = _; unfold q2 chk1; rw [if_pos (by rw [← HUU.out]; simp [hv1])]
      rw [H3.out] at R6
      clear hv1
      have p8 := RW6.out
      have q8 := T0.out.kept KP6.out (by omega) (by omega)
      have Q8 := hide q8
      have a0 : w6.cell? ⟨hb, 0, none⟩ = some (.int .i64 (id : Nat)) := p8.cell 0
      have a1 : w6.cell? ⟨hb, 1, none⟩ = some (.string X) := p8.cell 1
      have b0 : w6.cell? ⟨w.heap.size, 0, none⟩ = some (.int .i64 0) := q8.cell 0
      have b1 : w6.cell? ⟨w.heap.size, 1, none⟩ = some (.string ⟨#[]⟩) := q8.cell 1
      have e0 := q8.frozen 0
      have e1 := q8.frozen 1
      have lq := q8.lt
      have lp := p8.lt
      have HROW : Hid (Row ((w6.setCell ⟨w.heap.size, 0, none⟩ (.int .i64 (id : Nat))).setCell ⟨w.heap.size, 1, none⟩ (.string X)) w.heap.size 57 [.int .i64 (id : Nat), .string X]) := by show Row _ _ _ _; simpa using (q8.set 0 (.int .i64 (id : Nat))).set 1 (.string X)
      clear p8 q8
      go_wp2_with fail
      refine bodyPost_ret (results_cell_row rfl _ _ w.heap.size 57 #[.int .i64 (id : Nat), .string X] (0, 0) _ rfl HROW.out Tryz.underlying57 rfl info40) rfl ⟨rfl, R6.out.row2 Q8.out (by decide) (by omega) (fun x o e h0 => by have := HSB.out x o e h0; omega) _ _, ?_⟩
      have kk := ((K0.out.trans KP6.out).newset (Nat.le_refl _) 0 (.int .i64 (id : Nat))).newset (Nat.le_refl _) 1 (.string X)
      exact ⟨kk, (HV0.out.kept KP6.out hg0).setc2 (by omega) _ _⟩
    · have hv : ((U : Int) != 1) = true := by simp; omega
      have HST4 := hide (stop_at g 148 [] a n c b (tk b 2 (q1 b s)) (M : Nat) M 101 w6 R6.out (fun _ => rfl))
      rw [show ((101 : Nat) : Int) = 101 from rfl] at HST4
      have H3 : Hid (stp M 101 (tk b 2 (q1 b s)) = q2 b s) := by show _ = _; unfold q2 chk1; rw [if_neg (by rw [← HUU.out]; simp [hv1]), HM.out]
      rw [H3.out] at HST4
      clear hv1
      go_wp2_with fail
      refine HST4.out.mono ?_
      rintro e w7 ⟨rfl, r7, k7⟩
      have R7 := hide r7
      have RW7 := hide (RW6.out.kept k7 (by omega) (by omega))
      have KP7 := hide (KP6.out.trans k7)
      clear r7 k7
      have p8 := RW7.out
      have q8 := T0.out.kept KP7.out (by omega) (by omega)
      have Q8 := hide q8
      have a0 : w7.cell? ⟨hb, 0, none⟩ = some (.int .i64 (id : Nat)) := p8.cell 0
      have a1 : w7.cell? ⟨hb, 1, none⟩ = some (.string X) := p8.cell 1
      have b0 : w7.cell? ⟨w.heap.size, 0, none⟩ = some (.int .i64 0) := q8.cell 0
      have b1 : w7.cell? ⟨w.heap.size, 1, none⟩ = some (.string ⟨#[]⟩) := q8.cell 1
      have e0 := q8.frozen 0
      have e1 := q8.frozen 1
      have lq := q8.lt
      have lp := p8.lt
      have HROW : Hid (Row ((w7.setCell ⟨w.heap.size, 0, none⟩ (.int .i64 (id : Nat))).setCell ⟨w.heap.size, 1, none⟩ (.string X)) w.heap.size 57 [.int .i64 (id : Nat), .string X]) := by show Row _ _ _ _; simpa using (q8.set 0 (.int .i64 (id : Nat))).set 1 (.string X)
      clear p8 q8
      go_wp2_with fail
      refine bodyPost_ret (results_cell_row rfl _ _ w.heap.size 57 #[.int .i64 (id : Nat), .string X] (0, 0) _ rfl HROW.out Tryz.underlying57 rfl info40) rfl ⟨rfl, R7.out.row2 Q8.out (by decide) (by omega) (fun x o e h0 => by have := HSB.out x o e h0; omega) _ _, ?_⟩
      have kk := ((K0.out.trans KP7.out).newset (Nat.le_refl _) 0 (.int .i64 (id : Nat))).newset (Nat.le_refl _) 1 (.string X)
      exact ⟨kk, (HV0.out.kept KP7.out hg0).setc2 (by omega) _ _⟩
  · have hqk : ((V : Int) != 1) = true := by simp; omega
    have HST := hide (stop_at g 148 [] a n c b (tk b 2 (mn b s).2) (M : Nat) M 101 w4 R4.out (fun _ => rfl))
    rw [show ((101 : Nat) : Int) = 101 from rfl] at HST
    have H2 : Hid (stp M 101 (tk b 2 (mn b s).2) = q1 b s) := by show _ = _; unfold q1 chk1; rw [if_neg (by rw [← HVV.out]; simp [hq]), HM.out]
    rw [H2.out] at HST
    clear hq
    go_wp2_with fail
    refine HST.out.mono ?_
    rintro e w5 ⟨rfl, r5, k5⟩
    have R5 := hide r5
    have RW5 := hide (RW4.out.kept k5 (by omega) (by omega))
    have KP5 := hide (KP4.out.trans k5)
    clear r5 k5
    have HNB := hide (number_at g 148 [] a n c b (q1 b s) w5 R5.out)
    obtain ⟨U, hU⟩ : ∃ U, U = nu b (q1 b s) := ⟨_, rfl⟩
    rw [← hU] at HNB
    have HUU := hide hU
    clear hU
    go_wp2_with fail
    refine HNB.out.mono ?_
    rintro e w6 ⟨rfl, r6, k6⟩
    have R6 := hide r6
    have RW6 := hide (RW5.out.kept k6 (by omega) (by omega))
    have KP6 := hide (KP5.out.trans k6)
    clear r6 k6
    by_cases hv1 : U = 1
    · have hv : ((U : Int) != 1) = false := by simp; omega
      have H3 : Hid (tk b 2 (q1 b s) = q2 b s) := by show _ = _; unfold q2 chk1; rw [if_pos (by rw [← HUU.out]; simp [hv1])]
      rw [H3.out] at R6
      clear hv1
      have p8 := RW6.out
      have q8 := T0.out.kept KP6.out (by omega) (by omega)
      have Q8 := hide q8
      have a0 : w6.cell? ⟨hb, 0, none⟩ = some (.int .i64 (id : Nat)) := p8.cell 0
      have a1 : w6.cell? ⟨hb, 1, none⟩ = some (.string X) := p8.cell 1
      have b0 : w6.cell? ⟨w.heap.size, 0, none⟩ = some (.int .i64 0) := q8.cell 0
      have b1 : w6.cell? ⟨w.heap.size, 1, none⟩ = some (.string ⟨#[]⟩) := q8.cell 1
      have e0 := q8.frozen 0
      have e1 := q8.frozen 1
      have lq := q8.lt
      have lp := p8.lt
      have HROW : Hid (Row ((w6.setCell ⟨w.heap.size, 0, none⟩ (.int .i64 (id : Nat))).setCell ⟨w.heap.size, 1, none⟩ (.string X)) w.heap.size 57 [.int .i64 (id : Nat), .string X]) := by show Row _ _ _ _; simpa using (q8.set 0 (.int .i64 (id : Nat))).set 1 (.string X)
      clear p8 q8
      go_wp2_with fail
      refine bodyPost_ret (results_cell_row rfl _ _ w.heap.size 57 #[.int .i64 (id : Nat), .string X] (0, 0) _ rfl HROW.out Tryz.underlying57 rfl info40) rfl ⟨rfl, R6.out.row2 Q8.out (by decide) (by omega) (fun x o e h0 => by have := HSB.out x o e h0; omega) _ _, ?_⟩
      have kk := ((K0.out.trans KP6.out).newset (Nat.le_refl _) 0 (.int .i64 (id : Nat))).newset (Nat.le_refl _) 1 (.string X)
      exact ⟨kk, (HV0.out.kept KP6.out hg0).setc2 (by omega) _ _⟩
    · have hv : ((U : Int) != 1) = true := by simp; omega
      have HST4 := hide (stop_at g 148 [] a n c b (tk b 2 (q1 b s)) (M : Nat) M 101 w6 R6.out (fun _ => rfl))
      rw [show ((101 : Nat) : Int) = 101 from rfl] at HST4
      have H3 : Hid (stp M 101 (tk b 2 (q1 b s)) = q2 b s) := by show _ = _; unfold q2 chk1; rw [if_neg (by rw [← HUU.out]; simp [hv1]), HM.out]
      rw [H3.out] at HST4
      clear hv1
      go_wp2_with fail
      refine HST4.out.mono ?_
      rintro e w7 ⟨rfl, r7, k7⟩
      have R7 := hide r7
      have RW7 := hide (RW6.out.kept k7 (by omega) (by omega))
      have KP7 := hide (KP6.out.trans k7)
      clear r7 k7
      have p8 := RW7.out
      have q8 := T0.out.kept KP7.out (by omega) (by omega)
      have Q8 := hide q8
      have a0 : w7.cell? ⟨hb, 0, none⟩ = some (.int .i64 (id : Nat)) := p8.cell 0
      have a1 : w7.cell? ⟨hb, 1, none⟩ = some (.string X) := p8.cell 1
      have b0 : w7.cell? ⟨w.heap.size, 0, none⟩ = some (.int .i64 0) := q8.cell 0
      have b1 : w7.cell? ⟨w.heap.size, 1, none⟩ = some (.string ⟨#[]⟩) := q8.cell 1
      have e0 := q8.frozen 0
      have e1 := q8.frozen 1
      have lq := q8.lt
      have lp := p8.lt
      have HROW : Hid (Row ((w7.setCell ⟨w.heap.size, 0, none⟩ (.int .i64 (id : Nat))).setCell ⟨w.heap.size, 1, none⟩ (.string X)) w.heap.size 57 [.int .i64 (id : Nat), .string X]) := by show Row _ _ _ _; simpa using (q8.set 0 (.int .i64 (id : Nat))).set 1 (.string X)
      clear p8 q8
      go_wp2_with fail
      refine bodyPost_ret (results_cell_row rfl _ _ w.heap.size 57 #[.int .i64 (id : Nat), .string X] (0, 0) _ rfl HROW.out Tryz.underlying57 rfl info40) rfl ⟨rfl, R7.out.row2 Q8.out (by decide) (by omega) (fun x o e h0 => by have := HSB.out x o e h0; omega) _ _, ?_⟩
      have kk := ((K0.out.trans KP7.out).newset (Nat.le_refl _) 0 (.int .i64 (id : Nat))).newset (Nat.le_refl _) 1 (.string X)
      exact ⟨kk, (HV0.out.kept KP7.out hg0).setc2 (by omega) _ _⟩
end Go.Proofs.YtabkelhipmijfaaGreatDoor

set_option linter.unusedSimpArgs false
set_option linter.unusedVariables false
namespace Go.Proofs.YtabkelhipmijfaaGreatDoor
open Go.RowKit
theorem or16_i64 (a b : Nat) (ha : a < 65536) (hb : b < 65536) : bits .or .i64 ((a : Int) * 65536) (b : Int) = ((a * 65536 + b : Nat) : Int) := by
  have e : (a : Int) * 65536 = ((a * 65536 : Nat) : Int) := by omega
  rw [e]
  have ho : (a * 65536) ||| b = a * 65536 + b := by
    have := Nat.two_pow_add_eq_or_of_lt (i := 16) (b := b) hb a
    rw [show (2 : Nat) ^ 16 * a = a * 65536 by omega] at this
    exact this.symm
  have h1 : (BitVec.ofInt 64 ((a * 65536 : Nat) : Int)).toNat = a * 65536 := by
    rw [BitVec.ofInt_natCast, BitVec.toNat_ofNat]; exact Nat.mod_eq_of_lt (by omega)
  have h2 : (BitVec.ofInt 64 (b : Int)).toNat = b := by
    rw [BitVec.ofInt_natCast, BitVec.toNat_ofNat]; exact Nat.mod_eq_of_lt (by omega)
  show IntKind.i64.wrap ((BitVec.ofInt 64 ((a * 65536 : Nat) : Int) ||| BitVec.ofInt 64 (b : Int)).toNat : Int) = _
  rw [BitVec.toNat_or, h1, h2, IntKind.wrap_i64, ho]
  omega
theorem and15 (h : Nat) (hh : h < 65536) : h &&& 32768 = if 32768 ≤ h then 32768 else 0 := by
  have t : h.testBit 15 = decide (32768 ≤ h) := by
    rw [Nat.testBit_eq_decide_div_mod_eq, show (2 : Nat) ^ 15 = 32768 from rfl]
    apply decide_eq_decide.2
    omega
  apply Nat.eq_of_testBit_eq
  intro i
  rw [Nat.testBit_and, show (32768 : Nat) = 2 ^ 15 from rfl, Nat.testBit_two_pow]
  by_cases hi : 15 = i
  · subst hi
    rw [t]
    split
    · rename_i hb
      rw [show (2 : Nat) ^ 15 = 32768 from rfl] at hb
      simp [hb]
      decide
    · rename_i hb
      rw [show (2 : Nat) ^ 15 = 32768 from rfl] at hb
      simp [hb]
  · have e : Nat.testBit (2 ^ 15) i = false := by rw [Nat.testBit_two_pow]; simp [hi]
    split
    · rw [e]; simp [hi]
    · simp [hi]
set_option maxRecDepth 100000 in
set_option maxHeartbeats 2000000 in
theorem seconds_at (g : Nat) (a : Option Addr) (n c : Nat) (b : List Nat) (s : Sr) (w : World) (h : Rdr w g 148 [] a n c b s) :
    Calls Tryz.prog 119 #[.pointer (some ⟨g, 0, none⟩)] w fun e w' => e = .returned (.int .i64 (secs (nu b s) (nu b (tk b 2 s)) : Nat)) ∧ Rdr w' g 148 [] a n c b (tk b 2 (tk b 2 s)) ∧ Kept g g w w' := by
  have HBY := h.src.byte
  have hgs := h.block
  have hH := nu_lt HBY s
  have hL := nu_lt HBY (tk b 2 s)
  have HN := hide (number_at g 148 [] a n c b s w.drew h.drew)
  obtain ⟨H, hHH⟩ : ∃ H, H = nu b s := ⟨_, rfl⟩
  obtain ⟨L, hLL⟩ : ∃ L, L = nu b (tk b 2 s) := ⟨_, rfl⟩
  rw [← hHH] at HN hH ⊢
  have HLL : Hid (nu b (tk b 2 s) = L) := hLL.symm
  rw [← hLL] at hL ⊢
  have hor := or16_i64 H L hH hL
  have han := and_i64 H 32768 hH (by omega)
  rw [and15 H hH, show ((32768 : Nat) : Int) = 32768 from rfl] at han
  clear h HBY hHH hLL
  by_cases hb : 32768 ≤ H
  · rw [if_pos hb, show ((32768 : Nat) : Int) = 32768 from rfl] at han
    have HS : Hid (secs H L = 0) := by show _ = _; unfold secs; rw [if_pos hb]
    clear hb
    go_enter Tryz.func119, Tryz.ntmps119
    go_wp2_with fail
    go_region_with (first
      | (go_at_call 106; refine HN2.out.mono ?_; rintro e w2 ⟨rfl, r2, k2⟩; have R2 := hide r2; have K2 := hide (K1.out.trans k2); clear r2 k2)
      | (go_at_call 106; refine HN.out.mono ?_; rintro e w1 ⟨rfl, r1, k1⟩; have HN2 := hide (number_at g 148 [] a n c b (tk b 2 s) w1 r1); rw [HLL.out] at HN2; have K1 := hide k1.of_drew; clear r1 k1))
    all_goals (try go_wp2_with fail)
    all_goals go_ret
    all_goals exact ⟨by rw [HS.out]; rfl, R2.out, K2.out⟩
  · rw [if_neg hb, show ((0 : Nat) : Int) = 0 from rfl] at han
    have HS : Hid (secs H L = H * 65536 + L) := by show _ = _; unfold secs; rw [if_neg hb]
    clear hb
    go_enter Tryz.func119, Tryz.ntmps119
    go_wp2_with fail
    go_region_with (first
      | (go_at_call 106; refine HN2.out.mono ?_; rintro e w2 ⟨rfl, r2, k2⟩; have R2 := hide r2; have K2 := hide (K1.out.trans k2); clear r2 k2)
      | (go_at_call 106; refine HN.out.mono ?_; rintro e w1 ⟨rfl, r1, k1⟩; have HN2 := hide (number_at g 148 [] a n c b (tk b 2 s) w1 r1); rw [HLL.out] at HN2; have K1 := hide k1.of_drew; clear r1 k1))
    all_goals (try go_wp2_with fail)
    all_goals go_ret
    all_goals exact ⟨by rw [HS.out]; simp, R2.out, K2.out⟩
end Go.Proofs.YtabkelhipmijfaaGreatDoor
