/-
  The reference takes an event in, kind by kind; conditions as each theorem has them.
-/
import Derived.Test.YtjojhnkibgkleaaYH
import Derived.Test.YtjojhnkibgkleaaG
set_option linter.unusedSimpArgs false
set_option linter.unusedVariables false
set_option maxRecDepth 8000
namespace Go.Proofs.Ytjojhnkibgkleaa
open Go.RowKit Go.Lib

variable {w : World} {S : Nat → Prop} {y eb ec : Nat} {ea : Option Addr} {bv ov : Value} {Y : Nat → Nat} {V : Nat → Value} {E : Nat → Nat} {P : Pt}
/-- What an event's call is to answer. -/
abbrev EvR (w : World) (S : Nat → Prop) (y : Nat) (P : Pt) (k e N : Int) (d : ByteArray) (ra : Option Addr) (rn rc : Nat) : Prop :=
  Calls Try.prog 55 #[.pointer (some ⟨y, 0, none⟩), .agg #[.int .i64 k, .int .i64 e, .int .i64 N, .string d, .slice ra rn rc]] w fun x w' => x = .returned (.tuple #[.int .i64 (evN P k e N d : Nat), .int .i64 (evC P k e N d)]) ∧ RPort w' (grow S w w') y (evP P k e N d) ∧ KeptS S w w'
theorem ev_bad {k e N : Int} {d : ByteArray} (h : isF P k e N d = false) : evN P k e N d = 0 ∧ evC P k e N d = 2 ∧ evP P k e N d = P := by
  simp [evN, evC, evP, h]
theorem ev_no {k e N : Int} {d : ByteArray} (h : isF P k e N d = true) (h8 : k ≠ 8) {c : Int} (hc : refu (at0 P.L e.toNat) k = c) (h0 : c ≠ 0) : evN P k e N d = 0 ∧ evC P k e N d = c ∧ evP P k e N d = P := by
  subst hc
  simp [evN, evC, evP, h, h8, h0]
theorem ev_yes {k e N : Int} {d : ByteArray} (h : isF P k e N d = true) (h8 : k ≠ 8) (hc : refu (at0 P.L e.toNat) k = 0) : evN P k e N d = hapN P.sz (at0 P.L e.toNat) k d ∧ evC P k e N d = 0 ∧ evP P k e N d = { P with L := P.L.set e.toNat (hap P.sz (at0 P.L e.toNat) k N d) } := by
  simp [evN, evC, evP, h, h8, hc]
theorem rgrow3 {a b c d : World} (h1 : a.heap.size ≤ b.heap.size) (h2 : b.heap.size ≤ c.heap.size) (h3 : c.heap.size ≤ d.heap.size) (h : IsRP d (grow S b c) y eb ec ea bv ov Y V E P) : IsRP d (grow S a d) y eb ec ea bv ov Y V E P :=
  h.wide (fun k hk => by
    rcases hk with hk | hk
    · exact Or.inl hk
    · exact Or.inr ⟨Nat.le_trans h1 hk.1, Nat.lt_of_lt_of_le hk.2 h3⟩) (fun k hk => by
    rcases hk with hk | hk
    · exact h.lt k (Or.inl hk)
    · exact hk.2)
set_option maxRecDepth 100000 in
set_option maxHeartbeats 1000000 in
theorem event1_r (h : IsRP w S y eb ec ea bv ov Y V E P) (e N : Int) (d : ByteArray) (ra : Option Addr) (rn rc : Nat) : EvR w S y P 1 e N d ra rn rc := by
  unfold EvR
  have hbx := ev_below w (.int .i64 1) (.int .i64 e) (.int .i64 N) (.string d) (.slice ra rn rc)
  have HBX := hide hbx
  have h1 := h.below hbx
  have HS := hide (client_r h1 e)
  have H0 := hide h
  have H1 := hide h1
  have hif : isF P 1 e N d = cli P e := by simp [isF]
  cases hs : cli P e
  · obtain ⟨n1, n2, n3⟩ := ev_bad (P := P) (k := 1) (e := e) (N := N) (d := d) (by rw [hif, hs])
    rw [n1, n2, n3]
    rw [hs] at HS
    clear hs h h1 n1 n2 n3 hif hbx
    go_enter Try.func55, Try.ntmps55
    go_wp2_with fail
    refine HS.out.mono ?_
    rintro x w1 ⟨rfl, rfl⟩
    go_wp2_with fail
    go_ret2
    exact ⟨rfl, H0.out.stay HBX.out⟩
  · obtain ⟨i, rfl, hi⟩ := str_nat (show str_ P e = true by have h2 := cli_str h.ok e; rw [hs] at h2; cases hq : str_ P e; rw [hq] at h2; simp at h2; rfl)
    rw [hs] at HS
    rw [hs] at hif
    obtain ⟨q2, ⟨c0, c1, c2, c3, c4, c5⟩, fr, hc1, hc2, hn⟩ := h1.end_ hi
    clear fr
    by_cases h0 : (at0 P.L i).st = 0
    · obtain ⟨n1, n2, n3⟩ := ev_yes (P := P) (k := 1) (e := i) (N := N) (d := d) hif (by decide) (by simp [refu, h0])
      rw [n1, n2, n3, Int.toNat_natCast]
      have hh : hap P.sz (at0 P.L i) 1 N d = { z 1 with nw := true } := by simp [hap]
      have hN0 : hapN P.sz (at0 P.L i) 1 d = 0 := by simp [hapN]
      rw [hh, hN0]
      rw [h0] at c0
      have z1 := h1.cells.2.1
      have hz := hide H0.out.ok.z1
      have HBB := hide (fun (w4 : World) (hb : Below (w.alloc (.cells #[.int .i64 1, .int .i64 i, .int .i64 N, .string d, .slice ra rn rc] 33)).heap.size (w.alloc (.cells #[.int .i64 1, .int .i64 i, .int .i64 N, .string d, .slice ra rn rc] 33)) w4) => hb)
      clear hs h h1 h0 n1 n2 n3 hif hbx hh hN0
      go_enter Try.func55, Try.ntmps55
      go_wp2_with fail
      refine HS.out.mono ?_
      rintro x w1 ⟨rfl, rfl⟩
      go_wp2_with fail
      go_region_with (go_at_call 40; refine (fresh_w y P.sz 1 _ ?_ hz.out).mono ?_; exact z1; rintro x w4 ⟨yn, rfl, hyn, hr, k1⟩; have hb := HBB.out w4 ((Below.refl _ _).drew.trans k1); obtain ⟨q3, -, fr, -, -, -⟩ := (H1.out.below hb).end_ hi; obtain ⟨e0, e1, e2, e3, e4, e5⟩ := ((H1.out.below hb).row (show 0 < P.L.length by omega)).2.1.at_ hi; have f0 := fr (i * 6); have f1 := fr (i * 6 + 1); have f2 := fr (i * 6 + 2); have f3 := fr (i * 6 + 3); have f4 := fr (i * 6 + 4); have f5 := fr (i * 6 + 5); have HPP := hide (fresh_put H1.out hi 1 (by omega) hyn hr hb); clear hyn hr hb fr k1)
      all_goals
        obtain ⟨W5, hW5⟩ : ∃ W5, W5 = putE w4 eb i 1 false (.pointer (some ⟨yn, 0, none⟩)) := ⟨_, rfl⟩
        have hW6 := hW5
        unfold putE at hW6
        rw [← hW6]
        rw [← hW5] at HPP
        have hi2 : i < (P.L.set i (z 1)).length := by simpa using hi
        obtain ⟨q4, ⟨g0, g1, g2, g3, g4, g5⟩, fr, -, -, -⟩ := HPP.out.1.end_ hi2
        have f7 := fr (i * 6 + 2)
        have HT := hide (HPP.out.1.cellTurn hi2 (j := 2) (by omega) (.bool true) { z 1 with nw := true } (by rw [at0_same hi]; rfl) (by rw [at0_same hi]) ⟨(z_ok P.sz 1 (by omega) (by omega)).q, by decide, by decide, by decide, by decide⟩)
        have HKK := hide ((KeptS.refl (grow S (w.alloc (.cells #[.int .i64 1, .int .i64 i, .int .i64 N, .string d, .slice ra rn rc] 33)) W5) W5).setCell (p := ⟨eb, i * 6 + 2, none⟩) (HPP.out.1.row (show 0 < (P.L.set i (z 1)).length by omega)).2.2 (.bool true))
        simp only [List.length_set] at q4
        clear hW5 hW6 fr c0 c1 c2 c3 c4 c5 e0 e1 e2 e3 e4 e5 f0 f1 f2 f3 f4 f5 g0 g1 g3 g4 g5 hi2
        go_wp2_with fail
        go_ret2
        refine ⟨rfl, RPort.of (rgrow3 HBX.out.size HPP.out.2.size (by simp [World.setCell]) (cast (by rw [List.set_set]) HT.out)), (KeptS.of_below HBX.out).trans (HPP.out.2.grow2 HKK.out) (fun _ => Or.inl)⟩
    · obtain ⟨n1, n2, n3⟩ := ev_no (P := P) (k := 1) (e := i) (N := N) (d := d) hif (by decide) (c := 151) (by simp [refu, h0]) (by decide)
      rw [n1, n2, n3]
      obtain ⟨s0, hs0⟩ : ∃ s0, s0 = (at0 P.L i).st := ⟨_, rfl⟩
      rw [← hs0] at c0 h0
      have hst : (s0 != 0) = true := by simp [h0]
      clear hs h h1 n1 n2 n3 hif hbx hs0
      go_enter Try.func55, Try.ntmps55
      go_wp2_with fail
      refine HS.out.mono ?_
      rintro x w1 ⟨rfl, rfl⟩
      go_wp2_with fail
      go_ret2
      exact ⟨rfl, H0.out.stay HBX.out⟩

end Go.Proofs.Ytjojhnkibgkleaa
