/-
  The reference takes an event in, kind by kind (one that was dialled); conditions as each theorem has them.
-/
import Derived.Test.YtjojhnkibgkleaaYJ
set_option linter.unusedSimpArgs false
set_option linter.unusedVariables false
set_option maxRecDepth 8000
namespace Go.Proofs.Ytjojhnkibgkleaa
open Go.RowKit Go.Lib

variable {w : World} {S : Nat → Prop} {y eb ec : Nat} {ea : Option Addr} {bv ov : Value} {Y : Nat → Nat} {V : Nat → Value} {E : Nat → Nat} {P : Pt}
set_option maxRecDepth 100000 in
set_option maxHeartbeats 1000000 in
theorem event6_r (h : IsRP w S y eb ec ea bv ov Y V E P) (e N : Int) (d : ByteArray) (ra : Option Addr) (rn rc : Nat) : EvR w S y P 6 e N d ra rn rc := by
  unfold EvR
  have hbx := ev_below w (.int .i64 6) (.int .i64 e) (.int .i64 N) (.string d) (.slice ra rn rc)
  have HBX := hide hbx
  have h1 := h.below hbx
  have HS := hide (server_r h1 e)
  have H0 := hide h
  have H1 := hide h1
  have hif : isF P 6 e N d = srv P e := by simp [isF]
  cases hs : srv P e
  · obtain ⟨n1, n2, n3⟩ := ev_bad (P := P) (k := 6) (e := e) (N := N) (d := d) (by rw [hif, hs])
    rw [n1, n2, n3]
    rw [hs] at HS
    clear hs h h1 n1 n2 n3 hif hbx
    go_enter Try.func55, Try.ntmps55
    go_wp2_with fail
    refine HS.out.mono ?_
    rintro x w1 ⟨rfl, rfl⟩
    go_wp2_with fail
    go_ret2
    exact ⟨rfl, H0.out.stay HBX.out⟩
  · obtain ⟨i, rfl, hi⟩ := str_nat (srv_s h.ok hs)
    rw [hs] at HS
    rw [hs] at hif
    obtain ⟨q2, ⟨c0, c1, c2, c3, c4, c5⟩, fr, hc1, hc2, hn⟩ := h1.end_ hi
    by_cases h0 : (at0 P.L i).st = 2
    · obtain ⟨n1, n2, n3⟩ := ev_yes (P := P) (k := 6) (e := i) (N := N) (d := d) hif (by decide) (by simp [refu, h0])
      rw [n1, n2, n3, Int.toNat_natCast]
      have hh : hap P.sz (at0 P.L i) 6 N d = z 1 := by simp [hap, h0]
      have hN0 : hapN P.sz (at0 P.L i) 6 d = 0 := by simp [hapN]
      rw [hh, hN0]
      have z1 := h1.cells.2.1
      have hz := hide H0.out.ok.z1
      have HBB := hide (fun (w4 : World) (hb : Below (w.alloc (.cells #[.int .i64 6, .int .i64 i, .int .i64 N, .string d, .slice ra rn rc] 33)).heap.size (w.alloc (.cells #[.int .i64 6, .int .i64 i, .int .i64 N, .string d, .slice ra rn rc] 33)) w4) => hb)
      rw [h0] at c0
      clear fr h0
      clear hs h h1 n1 n2 n3 hif hbx hh hN0
      go_enter Try.func55, Try.ntmps55
      go_wp2_with fail
      refine HS.out.mono ?_
      rintro x w1 ⟨rfl, rfl⟩
      go_wp2_with fail
      go_region_with (go_at_call 40; refine (fresh_w y P.sz 1 _ ?_ hz.out).mono ?_; exact z1; rintro x w4 ⟨yn, rfl, hyn, hr, k1⟩; have hb := HBB.out w4 ((Below.refl _ _).drew.trans k1); obtain ⟨q3, -, fr, -, -, -⟩ := (H1.out.below hb).end_ hi; obtain ⟨e0, e1, e2, e3, e4, e5⟩ := ((H1.out.below hb).row (show 0 < P.L.length by omega)).2.1.at_ hi; have f0 := fr (i * 6); have f1 := fr (i * 6 + 1); have f2 := fr (i * 6 + 2); have f3 := fr (i * 6 + 3); have f4 := fr (i * 6 + 4); have f5 := fr (i * 6 + 5); have HPP := hide (fresh_put H1.out hi 1 (by omega) hyn hr hb); have HB4 := hide hb; clear hyn hr hb fr k1)
      all_goals
        obtain ⟨W5, hW5⟩ : ∃ W5, W5 = putE w4 eb i 1 false (.pointer (some ⟨yn, 0, none⟩)) := ⟨_, rfl⟩
        have hW6 := hW5
        unfold putE at hW6
        rw [← hW6]
        rw [← hW5] at HPP
        have hwb : W5.heap[w.heap.size]? = (w.alloc (.cells #[.int .i64 6, .int .i64 i, .int .i64 N, .string d, .slice ra rn rc] 33)).heap[w.heap.size]? := by
          rw [hW5]
          have hs1 : w.heap.size < (w.alloc (.cells #[.int .i64 6, .int .i64 i, .int .i64 N, .string d, .slice ra rn rc] 33)).heap.size := by show _ < (w.heap.push _).size; simp
          refine ((putE_kept w4 eb i 1 false (.pointer (some ⟨yn, 0, none⟩))).block _ (Nat.lt_of_lt_of_le hs1 HB4.out.size) (fun e => ?_)).trans (HB4.out.block _ hs1)
          have := H0.out.lt _ (H0.out.row (show 0 < P.L.length by omega)).2.2
          omega
        have q0 : W5.cell? ⟨w.heap.size, 0, none⟩ = some (.int .i64 6) := (World.cell?_of_block hwb).trans (World.cell?_alloc_new w _ _ 0)
        clear hW5 hW6 hwb c0 c1 c2 c3 c4 c5 e0 e1 e2 e3 e4 e5 f0 f1 f2 f3 f4 f5 z1 q2 q3
        go_wp2_with fail
        go_ret2
        exact ⟨rfl, RPort.of (rgrow_from HBX.out.size HPP.out.1), (KeptS.of_below HBX.out).trans HPP.out.2 (fun _ => Or.inl)⟩
    · obtain ⟨n1, n2, n3⟩ := ev_no (P := P) (k := 6) (e := i) (N := N) (d := d) hif (by decide) (c := 150) (by simp [refu, h0]) (by decide)
      rw [n1, n2, n3]
      obtain ⟨s0, hs0⟩ : ∃ s0, s0 = (at0 P.L i).st := ⟨_, rfl⟩
      rw [← hs0] at c0 h0
      have hst : (s0 != 2) = true := by simp [h0]
      clear fr hs0
      clear hs h h1 n1 n2 n3 hif hbx
      go_enter Try.func55, Try.ntmps55
      go_wp2_with fail
      refine HS.out.mono ?_
      rintro x w1 ⟨rfl, rfl⟩
      go_wp2_with fail
      go_ret2
      exact ⟨rfl, H0.out.stay HBX.out⟩
set_option maxRecDepth 100000 in
set_option maxHeartbeats 1000000 in
theorem event7_r (h : IsRP w S y eb ec ea bv ov Y V E P) (e N : Int) (d : ByteArray) (ra : Option Addr) (rn rc : Nat) : EvR w S y P 7 e N d ra rn rc := by
  unfold EvR
  have hbx := ev_below w (.int .i64 7) (.int .i64 e) (.int .i64 N) (.string d) (.slice ra rn rc)
  have HBX := hide hbx
  have h1 := h.below hbx
  have HS := hide (server_r h1 e)
  have H0 := hide h
  have H1 := hide h1
  have hif : isF P 7 e N d = srv P e := by simp [isF]
  cases hs : srv P e
  · obtain ⟨n1, n2, n3⟩ := ev_bad (P := P) (k := 7) (e := e) (N := N) (d := d) (by rw [hif, hs])
    rw [n1, n2, n3]
    rw [hs] at HS
    clear hs h h1 n1 n2 n3 hif hbx
    go_enter Try.func55, Try.ntmps55
    go_wp2_with fail
    refine HS.out.mono ?_
    rintro x w1 ⟨rfl, rfl⟩
    go_wp2_with fail
    go_ret2
    exact ⟨rfl, H0.out.stay HBX.out⟩
  · obtain ⟨i, rfl, hi⟩ := str_nat (srv_s h.ok hs)
    rw [hs] at HS
    rw [hs] at hif
    obtain ⟨q2, ⟨c0, c1, c2, c3, c4, c5⟩, fr, hc1, hc2, hn⟩ := h1.end_ hi
    by_cases h0 : (at0 P.L i).st = 2
    · obtain ⟨n1, n2, n3⟩ := ev_yes (P := P) (k := 7) (e := i) (N := N) (d := d) hif (by decide) (by simp [refu, h0])
      rw [n1, n2, n3, Int.toNat_natCast]
      have hh : hap P.sz (at0 P.L i) 7 N d = z 3 := by simp [hap, h0]
      have hN0 : hapN P.sz (at0 P.L i) 7 d = 0 := by simp [hapN]
      rw [hh, hN0]
      have z1 := h1.cells.2.1
      have hz := hide H0.out.ok.z1
      have HBB := hide (fun (w4 : World) (hb : Below (w.alloc (.cells #[.int .i64 7, .int .i64 i, .int .i64 N, .string d, .slice ra rn rc] 33)).heap.size (w.alloc (.cells #[.int .i64 7, .int .i64 i, .int .i64 N, .string d, .slice ra rn rc] 33)) w4) => hb)
      rw [h0] at c0
      clear fr h0
      clear hs h h1 n1 n2 n3 hif hbx hh hN0
      go_enter Try.func55, Try.ntmps55
      go_wp2_with fail
      refine HS.out.mono ?_
      rintro x w1 ⟨rfl, rfl⟩
      go_wp2_with fail
      go_region_with (go_at_call 40; refine (fresh_w y P.sz 1 _ ?_ hz.out).mono ?_; exact z1; rintro x w4 ⟨yn, rfl, hyn, hr, k1⟩; have hb := HBB.out w4 ((Below.refl _ _).drew.trans k1); obtain ⟨q3, -, fr, -, -, -⟩ := (H1.out.below hb).end_ hi; obtain ⟨e0, e1, e2, e3, e4, e5⟩ := ((H1.out.below hb).row (show 0 < P.L.length by omega)).2.1.at_ hi; have f0 := fr (i * 6); have f1 := fr (i * 6 + 1); have f2 := fr (i * 6 + 2); have f3 := fr (i * 6 + 3); have f4 := fr (i * 6 + 4); have f5 := fr (i * 6 + 5); have HPP := hide (fresh_put H1.out hi 1 (by omega) hyn hr hb); have HB4 := hide hb; clear hyn hr hb fr k1)
      all_goals
        obtain ⟨W5, hW5⟩ : ∃ W5, W5 = putE w4 eb i 1 false (.pointer (some ⟨yn, 0, none⟩)) := ⟨_, rfl⟩
        have hW6 := hW5
        unfold putE at hW6
        rw [← hW6]
        rw [← hW5] at HPP
        have hwb : W5.heap[w.heap.size]? = (w.alloc (.cells #[.int .i64 7, .int .i64 i, .int .i64 N, .string d, .slice ra rn rc] 33)).heap[w.heap.size]? := by
          rw [hW5]
          have hs1 : w.heap.size < (w.alloc (.cells #[.int .i64 7, .int .i64 i, .int .i64 N, .string d, .slice ra rn rc] 33)).heap.size := by show _ < (w.heap.push _).size; simp
          refine ((putE_kept w4 eb i 1 false (.pointer (some ⟨yn, 0, none⟩))).block _ (Nat.lt_of_lt_of_le hs1 HB4.out.size) (fun e => ?_)).trans (HB4.out.block _ hs1)
          have := H0.out.lt _ (H0.out.row (show 0 < P.L.length by omega)).2.2
          omega
        have q0 : W5.cell? ⟨w.heap.size, 0, none⟩ = some (.int .i64 7) := (World.cell?_of_block hwb).trans (World.cell?_alloc_new w _ _ 0)
        clear hW5 hW6 hwb c0 c1 c2 c3 c4 c5 e0 e1 e2 e3 e4 e5 f0 f1 f2 f3 f4 f5 z1 q2 q3
        have hi2 : i < (P.L.set i (z 1)).length := by simpa using hi
        have H5 := hide HPP.out.1
        have z5 := H5.out.cells.2.1
        obtain ⟨q4, -, -, -, -, -⟩ := H5.out.end_ hi2
        simp only [List.length_set] at q4
        have HB5 := hide (fun (w8 : World) (hb : Below W5.heap.size W5 w8) => hb)
        go_wp2_with fail
        go_region_with (go_at_call 40; refine (fresh_w y P.sz 3 _ ?_ hz.out).mono ?_; exact z5; rintro x w8 ⟨yn2, rfl, hyn, hr, k1⟩; have hb := HB5.out w8 ((Below.refl _ _).drew.trans k1); obtain ⟨q3, -, fr, -, -, -⟩ := (H5.out.below hb).end_ hi2; obtain ⟨e0, e1, e2, e3, e4, e5⟩ := ((H5.out.below hb).row (show 0 < (P.L.set i (z 1)).length by omega)).2.1.at_ hi2; simp only [List.length_set] at q3; have f0 := fr (i * 6); have f1 := fr (i * 6 + 1); have f2 := fr (i * 6 + 2); have f3 := fr (i * 6 + 3); have f4 := fr (i * 6 + 4); have f5 := fr (i * 6 + 5); have HP8 := hide (fresh_put H5.out hi2 3 (by omega) hyn hr hb); clear hyn hr hb fr k1)
        all_goals
          go_wp2_with fail
          go_ret2
          have hp8 := HP8.out.1
          simp only [List.set_set] at hp8
          exact ⟨rfl, RPort.of (rgrow2 HBX.out.size HPP.out.2.size HP8.out.2.size hp8), (KeptS.of_below HBX.out).trans (HPP.out.2.grow2 HP8.out.2) (fun _ => Or.inl)⟩
    · obtain ⟨n1, n2, n3⟩ := ev_no (P := P) (k := 7) (e := i) (N := N) (d := d) hif (by decide) (c := 150) (by simp [refu, h0]) (by decide)
      rw [n1, n2, n3]
      obtain ⟨s0, hs0⟩ : ∃ s0, s0 = (at0 P.L i).st := ⟨_, rfl⟩
      rw [← hs0] at c0 h0
      have hst : (s0 != 2) = true := by simp [h0]
      clear fr hs0
      clear hs h h1 n1 n2 n3 hif hbx
      go_enter Try.func55, Try.ntmps55
      go_wp2_with fail
      refine HS.out.mono ?_
      rintro x w1 ⟨rfl, rfl⟩
      go_wp2_with fail
      go_ret2
      exact ⟨rfl, H0.out.stay HBX.out⟩

end Go.Proofs.Ytjojhnkibgkleaa
