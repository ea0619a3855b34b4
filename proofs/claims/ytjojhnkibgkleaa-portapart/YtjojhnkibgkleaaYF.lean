/-
  The reference ends a connection; conditions as each theorem has them.
-/
import Derived.Test.YtjojhnkibgkleaaYE
set_option linter.unusedSimpArgs false
set_option linter.unusedVariables false
set_option maxRecDepth 8000
namespace Go.Proofs.Ytjojhnkibgkleaa
open Go.RowKit Go.Lib

variable {w : World} {S : Nat → Prop} {y eb ec : Nat} {ea : Option Addr} {bv ov : Value} {Y : Nat → Nat} {V : Nat → Value} {E : Nat → Nat} {P : Pt}
/-- A whole endpoint is stored over another. -/
def putE (w1 : World) (eb i : Nat) (s : Int) (b : Bool) (p : Value) : World := (((((w1.setCell ⟨eb, i * 6, none⟩ (.int .i64 s)).setCell ⟨eb, i * 6 + 1, none⟩ (.int .i64 0)).setCell ⟨eb, i * 6 + 2, none⟩ (.bool b)).setCell ⟨eb, i * 6 + 3, none⟩ (.bool false)).setCell ⟨eb, i * 6 + 4, none⟩ (.bool false)).setCell ⟨eb, i * 6 + 5, none⟩ p
theorem putE_kept (w1 : World) (eb i : Nat) (s : Int) (b : Bool) (p : Value) : KeptS (fun j => j = eb) w1 (putE w1 eb i s b p) :=
  ((((((KeptS.refl (fun j => j = eb) w1).setCell rfl _).setCell rfl _).setCell rfl _).setCell rfl _).setCell rfl _).setCell rfl _
theorem fresh_put (h : IsRP w S y eb ec ea bv ov Y V E P) {i : Nat} (hi : i < P.L.length) (s : Int) (hs : 0 ≤ s ∧ s ≤ 3) {w1 : World} {yn : Nat} (hyn : w.heap.size ≤ yn) (hr : RR w1 yn P.sz [] (.slice none 0 0)) (hb : Below w.heap.size w w1) :
    IsRP (putE w1 eb i s false (.pointer (some ⟨yn, 0, none⟩))) (grow S w (putE w1 eb i s false (.pointer (some ⟨yn, 0, none⟩)))) y eb ec ea bv ov (fun j => if j = i then yn else Y j) (upd V i (.slice none 0 0)) E { P with L := P.L.set i (z s) } ∧ KeptS S w (putE w1 eb i s false (.pointer (some ⟨yn, 0, none⟩))) :=
  h.freshTurn hi hb hyn hr (putE_kept w1 eb i s false _) (((h.row (by omega)).2.1.keep (hb.block _ (h.row (by omega)).2.1.lt)).all hi (.pointer (some ⟨yn, 0, none⟩)) (z s)) (z_ok _ _ hs.1 hs.2) rfl
theorem fresh_r (h : IsRP w S y eb ec ea bv ov Y V E P) (s : Int) : Calls Try.prog 40 #[.pointer (some ⟨y, 0, none⟩), .int .i64 s] w fun x w' => ∃ yn, x = .returned (.agg #[.int .i64 s, .int .i64 0, .bool false, .bool false, .bool false, .pointer (some ⟨yn, 0, none⟩)]) ∧ w.heap.size ≤ yn ∧ RR w' yn P.sz [] (.slice none 0 0) ∧ Below w.heap.size w w' :=
  fresh_w y P.sz s w h.cells.2.1 h.ok.z1
theorem rgrow2 {a b c d : World} (h1 : a.heap.size ≤ b.heap.size) (h2 : b.heap.size ≤ c.heap.size) (h3 : c.heap.size ≤ d.heap.size) (h : IsRP d (grow (grow S b c) c d) y eb ec ea bv ov Y V E P) : IsRP d (grow S a d) y eb ec ea bv ov Y V E P :=
  h.wide (fun k hk => by
    rcases hk with (hk | hk) | hk
    · exact Or.inl hk
    · exact Or.inr ⟨Nat.le_trans h1 hk.1, Nat.lt_of_lt_of_le hk.2 h3⟩
    · exact Or.inr ⟨Nat.le_trans h1 (Nat.le_trans h2 hk.1), hk.2⟩) (fun k hk => by
    rcases hk with hk | hk
    · exact h.lt k (Or.inl (Or.inl hk))
    · exact hk.2)
/-- A box of an endpoint that was loaded. -/
abbrev boxE (w : World) (st : Int) (x1 : Int) (x2 x3 x4 : Bool) (p : Value) : World := w.alloc (.cells #[.int .i64 st, .int .i64 x1, .bool x2, .bool x3, .bool x4, p] 92)
theorem boxE_below (w : World) (st : Int) (x1 : Int) (x2 x3 x4 : Bool) (p : Value) : Below w.heap.size w (boxE w st x1 x2 x3 x4 p) := (Below.refl w.heap.size w).alloc (Nat.le_refl _) _
set_option maxRecDepth 100000 in
set_option maxHeartbeats 1000000 in
theorem close_r (h : IsRP w S y eb ec ea bv ov Y V E P) (e : Int) (hlen : P.ou.length ≤ 1900000000000) : Calls Try.prog 61 #[.pointer (some ⟨y, 0, none⟩), .int .i64 e] w fun x w' => x = .returned (.int .i64 (closeC P e)) ∧ RPort w' (grow S w w') y (closeP P e) ∧ KeptS S w w' := by
  have HS := hide (stream_r h e)
  have H0 := hide h
  cases hs : str_ P e
  · have h1 : closeC P e = 2 := by simp [closeC, hs]
    have h2 : closeP P e = P := by simp [closeP, h1]
    rw [h1, h2]
    rw [hs] at HS
    clear hs h h1 h2
    go_enter Try.func61, Try.ntmps61
    go_wp2_with fail
    refine HS.out.mono ?_
    rintro x w1 ⟨rfl, rfl⟩
    go_wp2_with fail
    go_ret
    exact ⟨rfl, H0.out.stay (Below.refl _ _)⟩
  · obtain ⟨i, rfl, hi⟩ := str_nat hs
    rw [hs] at HS
    obtain ⟨q2, ⟨c0, c1, c2, c3, c4, c5⟩, fr, hc1, hc2, hn⟩ := h.end_ hi
    unfold rp at c5
    by_cases h0 : (at0 P.L i).st = 0
    · have h1 : closeC P i = 150 := by simp [closeC, hs, h0]
      have h2 : closeP P i = P := by simp [closeP, h1]
      rw [h1, h2]
      rw [h0] at c0
      obtain ⟨x1, hx1⟩ : ∃ x1, x1 = (at0 P.L i).room := ⟨_, rfl⟩
      obtain ⟨x2, hx2⟩ : ∃ x2, x2 = (at0 P.L i).nw := ⟨_, rfl⟩
      obtain ⟨x3, hx3⟩ : ∃ x3, x3 = (at0 P.L i).oth := ⟨_, rfl⟩
      obtain ⟨x4, hx4⟩ : ∃ x4, x4 = (at0 P.L i).ths := ⟨_, rfl⟩
      rw [← hx1] at c1
      rw [← hx2] at c2
      rw [← hx3] at c3
      rw [← hx4] at c4
      clear fr hs h h0 h1 h2 hx1 hx2 hx3 hx4
      go_enter Try.func61, Try.ntmps61
      go_wp2_with fail
      refine HS.out.mono ?_
      rintro x w1 ⟨rfl, rfl⟩
      go_wp2_with fail
      go_ret
      exact ⟨rfl, H0.out.stay (boxE_below w 0 x1 x2 x3 x4 _)⟩
    · have h1 : closeC P i = 0 := by simp [closeC, hs, h0]
      have h2 : closeP P i = { P with L := P.L.set i (z 0), ou := closeO P i } := by simp [closeP, h1]
      rw [h1, h2]
      unfold closeO
      rw [Int.toNat_natCast]
      obtain ⟨s0, hs0⟩ : ∃ s0, s0 = (at0 P.L i).st := ⟨_, rfl⟩
      obtain ⟨x1, hx1⟩ : ∃ x1, x1 = (at0 P.L i).room := ⟨_, rfl⟩
      obtain ⟨x2, hx2⟩ : ∃ x2, x2 = (at0 P.L i).nw := ⟨_, rfl⟩
      obtain ⟨x3, hx3⟩ : ∃ x3, x3 = (at0 P.L i).oth := ⟨_, rfl⟩
      obtain ⟨x4, hx4⟩ : ∃ x4, x4 = (at0 P.L i).ths := ⟨_, rfl⟩
      have hov : overE (at0 P.L i) = (decide (s0 = 3) || (x3 && x4)) := by rw [hs0, hx3, hx4]; rfl
      rw [hov]
      rw [← hs0] at c0 h0
      rw [← hx1] at c1
      rw [← hx2] at c2
      rw [← hx3] at c3
      rw [← hx4] at c4
      clear fr hs h h1 h2 hov hs0 hx3 hx4 hx1 hx2
      have hea := (H0.out.row (by omega)).1
      have hz := hide H0.out.ok.z1
      by_cases h3 : s0 = 3
      · subst h3
        clear h0
        rw [if_pos (by simp)]
        have B2 := hide (boxE_below w 3 x1 x2 x3 x4 (.pointer (some ⟨Y i, 0, none⟩)))
        have H2 := hide (H0.out.below B2.out)
        have HBB := hide (fun (w4 : World) (hb : Below (boxE w 3 x1 x2 x3 x4 (.pointer (some ⟨Y i, 0, none⟩))).heap.size (boxE w 3 x1 x2 x3 x4 (.pointer (some ⟨Y i, 0, none⟩))) w4) => hb)
        have z1 := H2.out.cells.2.1
        have z2 := H2.out.cells.2.2.1
        rw [hea] at z2
        clear hea
        go_enter Try.func61, Try.ntmps61
        go_wp2_with fail
        refine HS.out.mono ?_
        rintro x w1 ⟨rfl, rfl⟩
        go_wp2_with fail
        go_region_with (go_at_call 40; refine (fresh_w y P.sz 0 _ ?_ hz.out).mono ?_; exact z1; rintro x w4 ⟨yn, rfl, hyn, hr, k1⟩; have hb := HBB.out w4 ((Below.refl _ _).drew.trans k1); obtain ⟨q3, -, fr, -, -, -⟩ := (H2.out.below hb).end_ hi; obtain ⟨e0, e1, e2, e3, e4, e5⟩ := ((H2.out.below hb).row (show 0 < P.L.length by omega)).2.1.at_ hi; have f0 := fr (i * 6); have f1 := fr (i * 6 + 1); have f2 := fr (i * 6 + 2); have f3 := fr (i * 6 + 3); have f4 := fr (i * 6 + 4); have f5 := fr (i * 6 + 5); have HP := hide (fresh_put H2.out hi 0 (by omega) hyn hr hb); clear hyn hr hb fr k1)
        all_goals
          go_wp2_with fail
          go_ret
          exact ⟨rfl, RPort.of (rgrow_from B2.out.size HP.out.1), (KeptS.of_below B2.out).trans HP.out.2 (fun _ => Or.inl)⟩
      · have hst3 : (s0 != 3) = true := by simp [h3]
        have hst0 : (s0 == 0) = false := by simp [h0]
        cases x3
        · cases x4
          · rw [if_neg (by simp [h3])]
            clear h3
            have B2 := hide (boxE_below w s0 x1 x2 false false (.pointer (some ⟨Y i, 0, none⟩)))
            have H1 := hide (H0.out.below B2.out)
            have hzz : (boxE w s0 x1 x2 false false (.pointer (some ⟨Y i, 0, none⟩))).heap.size = w.heap.size + 1 := by show (w.heap.push _).size = _; simp
            have z4 := H1.out.cells.2.2.2.2
            obtain ⟨av, cv, w3, a1, a2, a3, a4, a5, hP, hK⟩ := rout_step H1.out (ot 4 i emp) hlen (boxE w s0 x1 x2 false false (.pointer (some ⟨Y i, 0, none⟩))) (Below.refl _ _)
            have H2 := hide hP
            have K2 := hide hK
            clear hP hK
            have hrun := ap_run a1
            rw [a2, a3] at hrun
            simp only [otC, ot, emp] at hrun
            rw [hzz] at hrun
            have HRUN := hide hrun
            clear a1 a2 a3 hrun
            have HBB := hide (fun (w4 : World) (hb : Below (w3.setCell ⟨y, 4, none⟩ (.slice av (P.ou.length + 1) cv)).heap.size (w3.setCell ⟨y, 4, none⟩ (.slice av (P.ou.length + 1) cv)) w4) => hb)
            have z1 := H2.out.cells.2.1
            have z2 := H2.out.cells.2.2.1
            rw [hea] at z2
            clear hea
            go_enter Try.func61, Try.ntmps61
            go_wp2_with fail
            refine HS.out.mono ?_
            rintro x w1 ⟨rfl, rfl⟩
            go_wp2_with (at_builtin; refine wpList_app_run _ rfl _ _ 52 52 rfl _ _ rfl rfl HRUN.out ?_)
            go_region_with (go_at_call 40; refine (fresh_w y P.sz 0 _ ?_ hz.out).mono ?_; exact z1; rintro x w4 ⟨yn, rfl, hyn, hr, k1⟩; have hb := HBB.out w4 ((Below.refl _ _).drew.trans k1); obtain ⟨q3, -, fr, -, -, -⟩ := (H2.out.below hb).end_ hi; obtain ⟨e0, e1, e2, e3, e4, e5⟩ := ((H2.out.below hb).row (show 0 < P.L.length by omega)).2.1.at_ hi; have f0 := fr (i * 6); have f1 := fr (i * 6 + 1); have f2 := fr (i * 6 + 2); have f3 := fr (i * 6 + 3); have f4 := fr (i * 6 + 4); have f5 := fr (i * 6 + 5); have HP := hide (fresh_put H2.out hi 0 (by omega) hyn hr hb); clear hyn hr hb fr k1)
            all_goals
              go_wp2_with fail
              go_ret
              exact ⟨rfl, RPort.of (rgrow2 B2.out.size K2.out.size HP.out.2.size HP.out.1), (KeptS.of_below B2.out).trans (K2.out.grow2 HP.out.2) (fun _ => Or.inl)⟩
          · rw [if_neg (by simp [h3])]
            clear h3
            have B2 := hide (boxE_below w s0 x1 x2 false true (.pointer (some ⟨Y i, 0, none⟩)))
            have H1 := hide (H0.out.below B2.out)
            have hzz : (boxE w s0 x1 x2 false true (.pointer (some ⟨Y i, 0, none⟩))).heap.size = w.heap.size + 1 := by show (w.heap.push _).size = _; simp
            have z4 := H1.out.cells.2.2.2.2
            obtain ⟨av, cv, w3, a1, a2, a3, a4, a5, hP, hK⟩ := rout_step H1.out (ot 4 i emp) hlen (boxE w s0 x1 x2 false true (.pointer (some ⟨Y i, 0, none⟩))) (Below.refl _ _)
            have H2 := hide hP
            have K2 := hide hK
            clear hP hK
            have hrun := ap_run a1
            rw [a2, a3] at hrun
            simp only [otC, ot, emp] at hrun
            rw [hzz] at hrun
            have HRUN := hide hrun
            clear a1 a2 a3 hrun
            have HBB := hide (fun (w4 : World) (hb : Below (w3.setCell ⟨y, 4, none⟩ (.slice av (P.ou.length + 1) cv)).heap.size (w3.setCell ⟨y, 4, none⟩ (.slice av (P.ou.length + 1) cv)) w4) => hb)
            have z1 := H2.out.cells.2.1
            have z2 := H2.out.cells.2.2.1
            rw [hea] at z2
            clear hea
            go_enter Try.func61, Try.ntmps61
            go_wp2_with fail
            refine HS.out.mono ?_
            rintro x w1 ⟨rfl, rfl⟩
            go_wp2_with (at_builtin; refine wpList_app_run _ rfl _ _ 52 52 rfl _ _ rfl rfl HRUN.out ?_)
            go_region_with (go_at_call 40; refine (fresh_w y P.sz 0 _ ?_ hz.out).mono ?_; exact z1; rintro x w4 ⟨yn, rfl, hyn, hr, k1⟩; have hb := HBB.out w4 ((Below.refl _ _).drew.trans k1); obtain ⟨q3, -, fr, -, -, -⟩ := (H2.out.below hb).end_ hi; obtain ⟨e0, e1, e2, e3, e4, e5⟩ := ((H2.out.below hb).row (show 0 < P.L.length by omega)).2.1.at_ hi; have f0 := fr (i * 6); have f1 := fr (i * 6 + 1); have f2 := fr (i * 6 + 2); have f3 := fr (i * 6 + 3); have f4 := fr (i * 6 + 4); have f5 := fr (i * 6 + 5); have HP := hide (fresh_put H2.out hi 0 (by omega) hyn hr hb); clear hyn hr hb fr k1)
            all_goals
              go_wp2_with fail
              go_ret
              exact ⟨rfl, RPort.of (rgrow2 B2.out.size K2.out.size HP.out.2.size HP.out.1), (KeptS.of_below B2.out).trans (K2.out.grow2 HP.out.2) (fun _ => Or.inl)⟩
        · cases x4
          · rw [if_neg (by simp [h3])]
            clear h3
            have B2 := hide (boxE_below w s0 x1 x2 true false (.pointer (some ⟨Y i, 0, none⟩)))
            have H1 := hide (H0.out.below B2.out)
            have hzz : (boxE w s0 x1 x2 true false (.pointer (some ⟨Y i, 0, none⟩))).heap.size = w.heap.size + 1 := by show (w.heap.push _).size = _; simp
            have z4 := H1.out.cells.2.2.2.2
            obtain ⟨av, cv, w3, a1, a2, a3, a4, a5, hP, hK⟩ := rout_step H1.out (ot 4 i emp) hlen (boxE w s0 x1 x2 true false (.pointer (some ⟨Y i, 0, none⟩))) (Below.refl _ _)
            have H2 := hide hP
            have K2 := hide hK
            clear hP hK
            have hrun := ap_run a1
            rw [a2, a3] at hrun
            simp only [otC, ot, emp] at hrun
            rw [hzz] at hrun
            have HRUN := hide hrun
            clear a1 a2 a3 hrun
            have HBB := hide (fun (w4 : World) (hb : Below (w3.setCell ⟨y, 4, none⟩ (.slice av (P.ou.length + 1) cv)).heap.size (w3.setCell ⟨y, 4, none⟩ (.slice av (P.ou.length + 1) cv)) w4) => hb)
            have z1 := H2.out.cells.2.1
            have z2 := H2.out.cells.2.2.1
            rw [hea] at z2
            clear hea
            go_enter Try.func61, Try.ntmps61
            go_wp2_with fail
            refine HS.out.mono ?_
            rintro x w1 ⟨rfl, rfl⟩
            go_wp2_with (at_builtin; refine wpList_app_run _ rfl _ _ 52 52 rfl _ _ rfl rfl HRUN.out ?_)
            go_region_with (go_at_call 40; refine (fresh_w y P.sz 0 _ ?_ hz.out).mono ?_; exact z1; rintro x w4 ⟨yn, rfl, hyn, hr, k1⟩; have hb := HBB.out w4 ((Below.refl _ _).drew.trans k1); obtain ⟨q3, -, fr, -, -, -⟩ := (H2.out.below hb).end_ hi; obtain ⟨e0, e1, e2, e3, e4, e5⟩ := ((H2.out.below hb).row (show 0 < P.L.length by omega)).2.1.at_ hi; have f0 := fr (i * 6); have f1 := fr (i * 6 + 1); have f2 := fr (i * 6 + 2); have f3 := fr (i * 6 + 3); have f4 := fr (i * 6 + 4); have f5 := fr (i * 6 + 5); have HP := hide (fresh_put H2.out hi 0 (by omega) hyn hr hb); clear hyn hr hb fr k1)
            all_goals
              go_wp2_with fail
              go_ret
              exact ⟨rfl, RPort.of (rgrow2 B2.out.size K2.out.size HP.out.2.size HP.out.1), (KeptS.of_below B2.out).trans (K2.out.grow2 HP.out.2) (fun _ => Or.inl)⟩
          · rw [if_pos (by simp)]
            have B2 := hide (boxE_below w s0 x1 x2 true true (.pointer (some ⟨Y i, 0, none⟩)))
            have H2 := hide (H0.out.below B2.out)
            have HBB := hide (fun (w4 : World) (hb : Below (boxE w s0 x1 x2 true true (.pointer (some ⟨Y i, 0, none⟩))).heap.size (boxE w s0 x1 x2 true true (.pointer (some ⟨Y i, 0, none⟩))) w4) => hb)
            have z1 := H2.out.cells.2.1
            have z2 := H2.out.cells.2.2.1
            rw [hea] at z2
            clear hea
            go_enter Try.func61, Try.ntmps61
            go_wp2_with fail
            refine HS.out.mono ?_
            rintro x w1 ⟨rfl, rfl⟩
            go_wp2_with fail
            go_region_with (go_at_call 40; refine (fresh_w y P.sz 0 _ ?_ hz.out).mono ?_; exact z1; rintro x w4 ⟨yn, rfl, hyn, hr, k1⟩; have hb := HBB.out w4 ((Below.refl _ _).drew.trans k1); obtain ⟨q3, -, fr, -, -, -⟩ := (H2.out.below hb).end_ hi; obtain ⟨e0, e1, e2, e3, e4, e5⟩ := ((H2.out.below hb).row (show 0 < P.L.length by omega)).2.1.at_ hi; have f0 := fr (i * 6); have f1 := fr (i * 6 + 1); have f2 := fr (i * 6 + 2); have f3 := fr (i * 6 + 3); have f4 := fr (i * 6 + 4); have f5 := fr (i * 6 + 5); have HP := hide (fresh_put H2.out hi 0 (by omega) hyn hr hb); clear hyn hr hb fr k1)
            all_goals
              go_wp2_with fail
              go_ret
              exact ⟨rfl, RPort.of (rgrow_from B2.out.size HP.out.1), (KeptS.of_below B2.out).trans HP.out.2 (fun _ => Or.inl)⟩

end Go.Proofs.Ytjojhnkibgkleaa
