/-
  The reference takes room in, and an event of no kind; conditions as each theorem has them.
-/
import Derived.Test.YtjojhnkibgkleaaYJ
set_option linter.unusedSimpArgs false
set_option linter.unusedVariables false
set_option maxRecDepth 8000
namespace Go.Proofs.Ytjojhnkibgkleaa
open Go.RowKit Go.Lib

variable {w : World} {S : Nat → Prop} {y eb ec : Nat} {ea : Option Addr} {bv ov : Value} {Y : Nat → Nat} {V : Nat → Value} {E : Nat → Nat} {P : Pt}
set_option maxRecDepth 100000 in
set_option maxHeartbeats 1000000 in
theorem event_none_r (h : IsRP w S y eb ec ea bv ov Y V E P) (k e N : Int) (d : ByteArray) (ra : Option Addr) (rn rc : Nat) (hk : k ≠ 1 ∧ k ≠ 2 ∧ k ≠ 3 ∧ k ≠ 4 ∧ k ≠ 5 ∧ k ≠ 6 ∧ k ≠ 7 ∧ k ≠ 8) : EvR w S y P k e N d ra rn rc := by
  unfold EvR
  obtain ⟨k1, k2, k3, k4, k5, k6, k7, k8⟩ := hk
  have hbx := ev_below w (.int .i64 k) (.int .i64 e) (.int .i64 N) (.string d) (.slice ra rn rc)
  have HBX := hide hbx
  have H0 := hide h
  have hif : isF P k e N d = false := by simp [isF, k1, k2, k3, k4, k5, k6, k7, k8]
  obtain ⟨n1, n2, n3⟩ := ev_bad (P := P) hif
  rw [n1, n2, n3]
  have e1 : (k == 1) = false := by simp [k1]
  have e2 : (k == 2) = false := by simp [k2]
  have e3 : (k == 3) = false := by simp [k3]
  have e4 : (k == 4) = false := by simp [k4]
  have e5 : (k == 5) = false := by simp [k5]
  have e6 : (k == 6) = false := by simp [k6]
  have e7 : (k == 7) = false := by simp [k7]
  have e8 : (k == 8) = false := by simp [k8]
  clear h n1 n2 n3 hif hbx k1 k2 k3 k4 k5 k6 k7 k8
  go_enter Try.func55, Try.ntmps55
  go_wp2_with fail
  go_ret2
  exact ⟨rfl, H0.out.stay HBX.out⟩
set_option maxRecDepth 100000 in
set_option maxHeartbeats 1000000 in
theorem event5_r (h : IsRP w S y eb ec ea bv ov Y V E P) (e N : Int) (hNm : N ≤ 9223372036854775807) (d : ByteArray) (ra : Option Addr) (rn rc : Nat) : EvR w S y P 5 e N d ra rn rc := by
  unfold EvR
  have hbx := ev_below w (.int .i64 5) (.int .i64 e) (.int .i64 N) (.string d) (.slice ra rn rc)
  have HBX := hide hbx
  have h1 := h.below hbx
  have HS := hide (stream_r h1 e)
  have H0 := hide h
  have H1 := hide h1
  have hif : isF P 5 e N d = (decide (0 ≤ N) && str_ P e) := by simp [isF]
  cases hs : str_ P e
  · obtain ⟨n1, n2, n3⟩ := ev_bad (P := P) (k := 5) (e := e) (N := N) (d := d) (by rw [hif, hs]; simp)
    rw [n1, n2, n3]
    rw [hs] at HS
    clear hs h h1 n1 n2 n3 hif hbx
    go_enter Try.func55, Try.ntmps55
    go_wp2_with fail
    refine HS.out.mono ?_
    rintro x w1 ⟨rfl, rfl⟩
    go_wp2_with fail
    go_ret2
    exact ⟨rfl, H0.out.stay HBX.out⟩
  · obtain ⟨i, rfl, hi⟩ := str_nat (str_s h.ok hs)
    rw [hs] at HS
    rw [hs, Bool.and_true] at hif
    by_cases hN : 0 ≤ N
    · have hif : isF P 5 i N d = true := by rw [hif]; simp [hN]
      obtain ⟨q2, ⟨c0, c1, c2, c3, c4, c5⟩, fr, hc1, hc2, hn⟩ := h1.end_ hi
      by_cases h0 : (at0 P.L i).st = 1
      · obtain ⟨n1, n2, n3⟩ := ev_yes (P := P) (k := 5) (e := i) (N := N) (d := d) hif (by decide) (by simp [refu, h0])
        rw [n1, n2, n3, Int.toNat_natCast]
        have hN0 : hapN P.sz (at0 P.L i) 5 d = 0 := by simp [hapN]
        have ho := h.ok.e i
        have r0 := ho.r0
        have r1 := ho.r1
        obtain ⟨rm, hrm⟩ : ∃ rm, rm = (at0 P.L i).room := ⟨_, rfl⟩
        obtain ⟨M, hM⟩ : ∃ M : Int, M = min N (1099511627776 - rm) := ⟨_, rfl⟩
        have hh : hap P.sz (at0 P.L i) 5 N d = { at0 P.L i with room := rm + M } := by rw [hM, hrm]; rfl
        rw [hh, hN0]
        rw [← hrm] at c1 r0 r1
        have hm : min N (1099511627776 - rm) = M := hM.symm
        have m0 : 0 ≤ M := by omega
        have m1 : rm + M ≤ 1099511627776 := by omega
        have f1 := fr (i * 6 + 1)
        rw [h0] at c0
        have HT := hide ((h1.below ((Below.refl _ _).drew)).cellTurn hi (j := 1) (by omega) (.int .i64 (rm + M)) { at0 P.L i with room := rm + M } rfl rfl ⟨ho.q, ho.s0, ho.s3, by show 0 ≤ rm + M; omega, m1⟩)
        have HKK := hide ((KeptS.of_below (S := S) ((Below.refl _ (w.alloc (.cells #[.int .i64 5, .int .i64 i, .int .i64 N, .string d, .slice ra rn rc] 33))).drew)).setCell (p := ⟨eb, i * 6 + 1, none⟩) (h1.row (by omega)).2.2 (.int .i64 (rm + M)))
        clear fr hM hrm h0 ho
        clear hs h h1 n1 n2 n3 hif hbx hh hN0
        go_enter Try.func55, Try.ntmps55
        go_wp2_with fail
        refine HS.out.mono ?_
        rintro x w1 ⟨rfl, rfl⟩
        go_wp2_with fail
        go_region
        all_goals
          go_wp2_with fail
          go_ret2
          exact ⟨rfl, RPort.of HT.out.grow, (KeptS.of_below HBX.out).trans HKK.out (fun _ => Or.inl)⟩
      · obtain ⟨n1, n2, n3⟩ := ev_no (P := P) (k := 5) (e := i) (N := N) (d := d) hif (by decide) (c := 150) (by simp [refu, h0]) (by decide)
        rw [n1, n2, n3]
        obtain ⟨s0, hs0⟩ : ∃ s0, s0 = (at0 P.L i).st := ⟨_, rfl⟩
        rw [← hs0] at c0 h0
        have hst : (s0 != 1) = true := by simp [h0]
        clear fr hs0
        clear hs h h1 n1 n2 n3 hif hbx
        go_enter Try.func55, Try.ntmps55
        go_wp2_with fail
        refine HS.out.mono ?_
        rintro x w1 ⟨rfl, rfl⟩
        go_wp2_with fail
        go_ret2
        exact ⟨rfl, H0.out.stay HBX.out⟩
    · obtain ⟨n1, n2, n3⟩ := ev_bad (P := P) (k := 5) (e := i) (N := N) (d := d) (by rw [hif]; simp [hN])
      rw [n1, n2, n3]
      clear hs h h1 n1 n2 n3 hif hbx
      go_enter Try.func55, Try.ntmps55
      go_wp2_with fail
      refine HS.out.mono ?_
      rintro x w1 ⟨rfl, rfl⟩
      go_wp2_with fail
      go_ret2
      exact ⟨rfl, H0.out.stay HBX.out⟩

end Go.Proofs.Ytjojhnkibgkleaa
