/-
  The reference takes an event in, kind by kind (an end, a break, a dialled one); conditions as each theorem has them.
-/
import Derived.Test.YtjojhnkibgkleaaYI
set_option linter.unusedSimpArgs false
set_option linter.unusedVariables false
set_option maxRecDepth 8000
namespace Go.Proofs.Ytjojhnkibgkleaa
open Go.RowKit Go.Lib

variable {w : World} {S : Nat → Prop} {y eb ec : Nat} {ea : Option Addr} {bv ov : Value} {Y : Nat → Nat} {V : Nat → Value} {E : Nat → Nat} {P : Pt}
theorem srv_s {P : Pt} (h : P.Ok) {e : Int} (hs : srv P e = true) : str_ P e = true := by
  have h2 := srv_str h e
  rw [hs] at h2
  cases hq : str_ P e
  · rw [hq] at h2; simp at h2
  · rfl
theorem str_s {P : Pt} (h : P.Ok) {e : Int} (hs : str_ P e = true) : str_ P e = true := hs
set_option maxRecDepth 100000 in
set_option maxHeartbeats 1000000 in
theorem event3_r (h : IsRP w S y eb ec ea bv ov Y V E P) (e N : Int) (d : ByteArray) (ra : Option Addr) (rn rc : Nat) : EvR w S y P 3 e N d ra rn rc := by
  unfold EvR
  have hbx := ev_below w (.int .i64 3) (.int .i64 e) (.int .i64 N) (.string d) (.slice ra rn rc)
  have HBX := hide hbx
  have h1 := h.below hbx
  have HS := hide (stream_r h1 e)
  have H0 := hide h
  have H1 := hide h1
  have hif : isF P 3 e N d = str_ P e := by simp [isF]
  cases hs : str_ P e
  · obtain ⟨n1, n2, n3⟩ := ev_bad (P := P) (k := 3) (e := e) (N := N) (d := d) (by rw [hif, hs])
    rw [n1, n2, n3]
    rw [hs] at HS
    clear hs h h1 n1 n2 n3 hif hbx
    go_enter Try.func55, Try.ntmps55
    go_wp2_with fail
    refine HS.out.mono ?_
    rintro x w1 ⟨rfl, rfl⟩
    go_wp2_with fail
    go_ret2
    exact ⟨rfl, H0.out.stay HBX.out⟩
  · obtain ⟨i, rfl, hi⟩ := str_nat (str_s h.ok hs)
    rw [hs] at HS
    rw [hs] at hif
    obtain ⟨q2, ⟨c0, c1, c2, c3, c4, c5⟩, fr, hc1, hc2, hn⟩ := h1.end_ hi
    by_cases h0 : (at0 P.L i).st = 1
    · cases ho : (at0 P.L i).oth
      · obtain ⟨n1, n2, n3⟩ := ev_yes (P := P) (k := 3) (e := i) (N := N) (d := d) hif (by decide) (by simp [refu, h0, ho])
        rw [n1, n2, n3, Int.toNat_natCast]
        have hh : hap P.sz (at0 P.L i) 3 N d = { at0 P.L i with oth := true } := by simp [hap, h0, ho]
        have hN0 : hapN P.sz (at0 P.L i) 3 d = 0 := by simp [hapN]
        rw [hh, hN0]
        have z1 := h1.cells.2.1
        have hz := hide H0.out.ok.z1
        have HBB := hide (fun (w4 : World) (hb : Below (w.alloc (.cells #[.int .i64 3, .int .i64 i, .int .i64 N, .string d, .slice ra rn rc] 33)).heap.size (w.alloc (.cells #[.int .i64 3, .int .i64 i, .int .i64 N, .string d, .slice ra rn rc] 33)) w4) => hb)
        rw [h0] at c0
        rw [ho] at c3
        have f3 := fr (i * 6 + 3)
        have hx := h.ok.e i
        have HT := hide (h1.cellTurn hi (j := 3) (by omega) (.bool true) { at0 P.L i with oth := true } rfl rfl ⟨hx.q, hx.s0, hx.s3, hx.r0, hx.r1⟩)
        have HKK := hide ((KeptS.refl S (w.alloc (.cells #[.int .i64 3, .int .i64 i, .int .i64 N, .string d, .slice ra rn rc] 33))).setCell (p := ⟨eb, i * 6 + 3, none⟩) (h1.row (by omega)).2.2 (.bool true))
        clear fr hx h0 ho
        clear hs h h1 n1 n2 n3 hif hbx hh hN0
        go_enter Try.func55, Try.ntmps55
        go_wp2_with fail
        refine HS.out.mono ?_
        rintro x w1 ⟨rfl, rfl⟩
        go_wp2_with fail
        go_ret2
        exact ⟨rfl, RPort.of HT.out.grow, (KeptS.of_below HBX.out).trans HKK.out (fun _ => Or.inl)⟩
      · obtain ⟨n1, n2, n3⟩ := ev_no (P := P) (k := 3) (e := i) (N := N) (d := d) hif (by decide) (c := 150) (by simp [refu, h0, ho]) (by decide)
        rw [n1, n2, n3]
        rw [h0] at c0
        rw [ho] at c3
        clear fr h0 ho
        clear hs h h1 n1 n2 n3 hif hbx
        go_enter Try.func55, Try.ntmps55
        go_wp2_with fail
        refine HS.out.mono ?_
        rintro x w1 ⟨rfl, rfl⟩
        go_wp2_with fail
        go_ret2
        exact ⟨rfl, H0.out.stay HBX.out⟩
    · obtain ⟨n1, n2, n3⟩ := ev_no (P := P) (k := 3) (e := i) (N := N) (d := d) hif (by decide) (c := 150) (by simp [refu, h0]) (by decide)
      rw [n1, n2, n3]
      obtain ⟨s0, hs0⟩ : ∃ s0, s0 = (at0 P.L i).st := ⟨_, rfl⟩
      rw [← hs0] at c0 h0
      have hst : (s0 != 1) = true := by simp [h0]
      clear fr hs0
      clear hs h h1 n1 n2 n3 hif hbx
      go_enter Try.func55, Try.ntmps55
      go_wp2_with fail
      refine HS.out.mono ?_
      rintro x w1 ⟨rfl, rfl⟩
      go_wp2_with fail
      go_ret2
      exact ⟨rfl, H0.out.stay HBX.out⟩
set_option maxRecDepth 100000 in
set_option maxHeartbeats 1000000 in
theorem event4_r (h : IsRP w S y eb ec ea bv ov Y V E P) (e N : Int) (d : ByteArray) (ra : Option Addr) (rn rc : Nat) : EvR w S y P 4 e N d ra rn rc := by
  unfold EvR
  have hbx := ev_below w (.int .i64 4) (.int .i64 e) (.int .i64 N) (.string d) (.slice ra rn rc)
  have HBX := hide hbx
  have h1 := h.below hbx
  have HS := hide (stream_r h1 e)
  have H0 := hide h
  have H1 := hide h1
  have hif : isF P 4 e N d = str_ P e := by simp [isF]
  cases hs : str_ P e
  · obtain ⟨n1, n2, n3⟩ := ev_bad (P := P) (k := 4) (e := e) (N := N) (d := d) (by rw [hif, hs])
    rw [n1, n2, n3]
    rw [hs] at HS
    clear hs h h1 n1 n2 n3 hif hbx
    go_enter Try.func55, Try.ntmps55
    go_wp2_with fail
    refine HS.out.mono ?_
    rintro x w1 ⟨rfl, rfl⟩
    go_wp2_with fail
    go_ret2
    exact ⟨rfl, H0.out.stay HBX.out⟩
  · obtain ⟨i, rfl, hi⟩ := str_nat (str_s h.ok hs)
    rw [hs] at HS
    rw [hs] at hif
    obtain ⟨q2, ⟨c0, c1, c2, c3, c4, c5⟩, fr, hc1, hc2, hn⟩ := h1.end_ hi
    by_cases h0 : (at0 P.L i).st = 1
    · cases hnw : (at0 P.L i).nw
      · obtain ⟨n1, n2, n3⟩ := ev_yes (P := P) (k := 4) (e := i) (N := N) (d := d) hif (by decide) (by simp [refu, h0, hnw])
        rw [n1, n2, n3, Int.toNat_natCast]
        have hh : hap P.sz (at0 P.L i) 4 N d = z 3 := by simp [hap, h0, hnw]
        have hN0 : hapN P.sz (at0 P.L i) 4 d = 0 := by simp [hapN]
        rw [hh, hN0]
        have z1 := h1.cells.2.1
        have hz := hide H0.out.ok.z1
        have HBB := hide (fun (w4 : World) (hb : Below (w.alloc (.cells #[.int .i64 4, .int .i64 i, .int .i64 N, .string d, .slice ra rn rc] 33)).heap.size (w.alloc (.cells #[.int .i64 4, .int .i64 i, .int .i64 N, .string d, .slice ra rn rc] 33)) w4) => hb)
        rw [h0] at c0
        rw [hnw] at c2
        clear fr hnw h0
        clear hs h h1 n1 n2 n3 hif hbx hh hN0
        go_enter Try.func55, Try.ntmps55
        go_wp2_with fail
        refine HS.out.mono ?_
        rintro x w1 ⟨rfl, rfl⟩
        go_wp2_with fail
        go_region_with (go_at_call 40; refine (fresh_w y P.sz 3 _ ?_ hz.out).mono ?_; exact z1; rintro x w4 ⟨yn, rfl, hyn, hr, k1⟩; have hb := HBB.out w4 ((Below.refl _ _).drew.trans k1); obtain ⟨q3, -, fr, -, -, -⟩ := (H1.out.below hb).end_ hi; obtain ⟨e0, e1, e2, e3, e4, e5⟩ := ((H1.out.below hb).row (show 0 < P.L.length by omega)).2.1.at_ hi; have f0 := fr (i * 6); have f1 := fr (i * 6 + 1); have f2 := fr (i * 6 + 2); have f3 := fr (i * 6 + 3); have f4 := fr (i * 6 + 4); have f5 := fr (i * 6 + 5); have HPP := hide (fresh_put H1.out hi 3 (by omega) hyn hr hb); clear hyn hr hb fr k1)
        all_goals
          go_wp2_with fail
          go_ret2
          exact ⟨rfl, RPort.of (rgrow_from HBX.out.size HPP.out.1), (KeptS.of_below HBX.out).trans HPP.out.2 (fun _ => Or.inl)⟩
      · obtain ⟨n1, n2, n3⟩ := ev_yes (P := P) (k := 4) (e := i) (N := N) (d := d) hif (by decide) (by simp [refu, h0, hnw])
        rw [n1, n2, n3, Int.toNat_natCast]
        have hh : hap P.sz (at0 P.L i) 4 N d = z 0 := by simp [hap, h0, hnw]
        have hN0 : hapN P.sz (at0 P.L i) 4 d = 0 := by simp [hapN]
        rw [hh, hN0]
        have z1 := h1.cells.2.1
        have hz := hide H0.out.ok.z1
        have HBB := hide (fun (w4 : World) (hb : Below (w.alloc (.cells #[.int .i64 4, .int .i64 i, .int .i64 N, .string d, .slice ra rn rc] 33)).heap.size (w.alloc (.cells #[.int .i64 4, .int .i64 i, .int .i64 N, .string d, .slice ra rn rc] 33)) w4) => hb)
        rw [h0] at c0
        rw [hnw] at c2
        clear fr hnw h0
        clear hs h h1 n1 n2 n3 hif hbx hh hN0
        go_enter Try.func55, Try.ntmps55
        go_wp2_with fail
        refine HS.out.mono ?_
        rintro x w1 ⟨rfl, rfl⟩
        go_wp2_with fail
        go_region_with (go_at_call 40; refine (fresh_w y P.sz 0 _ ?_ hz.out).mono ?_; exact z1; rintro x w4 ⟨yn, rfl, hyn, hr, k1⟩; have hb := HBB.out w4 ((Below.refl _ _).drew.trans k1); obtain ⟨q3, -, fr, -, -, -⟩ := (H1.out.below hb).end_ hi; obtain ⟨e0, e1, e2, e3, e4, e5⟩ := ((H1.out.below hb).row (show 0 < P.L.length by omega)).2.1.at_ hi; have f0 := fr (i * 6); have f1 := fr (i * 6 + 1); have f2 := fr (i * 6 + 2); have f3 := fr (i * 6 + 3); have f4 := fr (i * 6 + 4); have f5 := fr (i * 6 + 5); have HPP := hide (fresh_put H1.out hi 0 (by omega) hyn hr hb); clear hyn hr hb fr k1)
        all_goals
          go_wp2_with fail
          go_ret2
          exact ⟨rfl, RPort.of (rgrow_from HBX.out.size HPP.out.1), (KeptS.of_below HBX.out).trans HPP.out.2 (fun _ => Or.inl)⟩
    · have n0 := h0
      by_cases h0 : (at0 P.L i).st = 2
      · cases hnw : (at0 P.L i).nw
        · obtain ⟨n1, n2, n3⟩ := ev_yes (P := P) (k := 4) (e := i) (N := N) (d := d) hif (by decide) (by simp [refu, h0, hnw])
          rw [n1, n2, n3, Int.toNat_natCast]
          have hh : hap P.sz (at0 P.L i) 4 N d = z 3 := by simp [hap, h0, hnw]
          have hN0 : hapN P.sz (at0 P.L i) 4 d = 0 := by simp [hapN]
          rw [hh, hN0]
          have z1 := h1.cells.2.1
          have hz := hide H0.out.ok.z1
          have HBB := hide (fun (w4 : World) (hb : Below (w.alloc (.cells #[.int .i64 4, .int .i64 i, .int .i64 N, .string d, .slice ra rn rc] 33)).heap.size (w.alloc (.cells #[.int .i64 4, .int .i64 i, .int .i64 N, .string d, .slice ra rn rc] 33)) w4) => hb)
          rw [h0] at c0
          rw [hnw] at c2
          clear n0 fr hnw h0
          clear hs h h1 n1 n2 n3 hif hbx hh hN0
          go_enter Try.func55, Try.ntmps55
          go_wp2_with fail
          refine HS.out.mono ?_
          rintro x w1 ⟨rfl, rfl⟩
          go_wp2_with fail
          go_region_with (go_at_call 40; refine (fresh_w y P.sz 3 _ ?_ hz.out).mono ?_; exact z1; rintro x w4 ⟨yn, rfl, hyn, hr, k1⟩; have hb := HBB.out w4 ((Below.refl _ _).drew.trans k1); obtain ⟨q3, -, fr, -, -, -⟩ := (H1.out.below hb).end_ hi; obtain ⟨e0, e1, e2, e3, e4, e5⟩ := ((H1.out.below hb).row (show 0 < P.L.length by omega)).2.1.at_ hi; have f0 := fr (i * 6); have f1 := fr (i * 6 + 1); have f2 := fr (i * 6 + 2); have f3 := fr (i * 6 + 3); have f4 := fr (i * 6 + 4); have f5 := fr (i * 6 + 5); have HPP := hide (fresh_put H1.out hi 3 (by omega) hyn hr hb); clear hyn hr hb fr k1)
          all_goals
            go_wp2_with fail
            go_ret2
            exact ⟨rfl, RPort.of (rgrow_from HBX.out.size HPP.out.1), (KeptS.of_below HBX.out).trans HPP.out.2 (fun _ => Or.inl)⟩
        · obtain ⟨n1, n2, n3⟩ := ev_yes (P := P) (k := 4) (e := i) (N := N) (d := d) hif (by decide) (by simp [refu, h0, hnw])
          rw [n1, n2, n3, Int.toNat_natCast]
          have hh : hap P.sz (at0 P.L i) 4 N d = z 0 := by simp [hap, h0, hnw]
          have hN0 : hapN P.sz (at0 P.L i) 4 d = 0 := by simp [hapN]
          rw [hh, hN0]
          have z1 := h1.cells.2.1
          have hz := hide H0.out.ok.z1
          have HBB := hide (fun (w4 : World) (hb : Below (w.alloc (.cells #[.int .i64 4, .int .i64 i, .int .i64 N, .string d, .slice ra rn rc] 33)).heap.size (w.alloc (.cells #[.int .i64 4, .int .i64 i, .int .i64 N, .string d, .slice ra rn rc] 33)) w4) => hb)
          rw [h0] at c0
          rw [hnw] at c2
          clear n0 fr hnw h0
          clear hs h h1 n1 n2 n3 hif hbx hh hN0
          go_enter Try.func55, Try.ntmps55
          go_wp2_with fail
          refine HS.out.mono ?_
          rintro x w1 ⟨rfl, rfl⟩
          go_wp2_with fail
          go_region_with (go_at_call 40; refine (fresh_w y P.sz 0 _ ?_ hz.out).mono ?_; exact z1; rintro x w4 ⟨yn, rfl, hyn, hr, k1⟩; have hb := HBB.out w4 ((Below.refl _ _).drew.trans k1); obtain ⟨q3, -, fr, -, -, -⟩ := (H1.out.below hb).end_ hi; obtain ⟨e0, e1, e2, e3, e4, e5⟩ := ((H1.out.below hb).row (show 0 < P.L.length by omega)).2.1.at_ hi; have f0 := fr (i * 6); have f1 := fr (i * 6 + 1); have f2 := fr (i * 6 + 2); have f3 := fr (i * 6 + 3); have f4 := fr (i * 6 + 4); have f5 := fr (i * 6 + 5); have HPP := hide (fresh_put H1.out hi 0 (by omega) hyn hr hb); clear hyn hr hb fr k1)
          all_goals
            go_wp2_with fail
            go_ret2
            exact ⟨rfl, RPort.of (rgrow_from HBX.out.size HPP.out.1), (KeptS.of_below HBX.out).trans HPP.out.2 (fun _ => Or.inl)⟩
      · obtain ⟨n1, n2, n3⟩ := ev_no (P := P) (k := 4) (e := i) (N := N) (d := d) hif (by decide) (c := 150) (by simp [refu, n0, h0]) (by decide)
        rw [n1, n2, n3]
        have hx := h.ok.e i
        have hs03 : (at0 P.L i).st = 0 ∨ (at0 P.L i).st = 3 := by have := hx.s0; have := hx.s3; omega
        clear fr hx
        clear hs h h1 n1 n2 n3 hif hbx
        rcases hs03 with hs | hs
        · rw [hs] at c0
          clear hs n0 h0
          go_enter Try.func55, Try.ntmps55
          go_wp2_with fail
          refine HS.out.mono ?_
          rintro x w1 ⟨rfl, rfl⟩
          go_wp2_with fail
          go_ret2
          exact ⟨rfl, H0.out.stay HBX.out⟩
        · rw [hs] at c0
          clear hs n0 h0
          go_enter Try.func55, Try.ntmps55
          go_wp2_with fail
          refine HS.out.mono ?_
          rintro x w1 ⟨rfl, rfl⟩
          go_wp2_with fail
          go_ret2
          exact ⟨rfl, H0.out.stay HBX.out⟩

end Go.Proofs.Ytjojhnkibgkleaa
