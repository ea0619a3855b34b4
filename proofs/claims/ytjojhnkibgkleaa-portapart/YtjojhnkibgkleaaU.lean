/-
  What goes out of a port; conditions as each theorem has them.
-/
import Derived.Test.YtjojhnkibgkleaaI
set_option linter.unusedSimpArgs false
set_option linter.unusedVariables false
set_option maxRecDepth 8000
namespace Go.Proofs.Ytjojhnkibgkleaa
open Go.RowKit Go.Lib

/-- 'goOut' behind a turn of the port. -/
theorem goOut_to {w w1 : World} {S : Nat → Prop} {b eb : Nat} {gv ov : Value} {R G : Nat → Nat} {P : Pt} (h : IsPort w1 S b eb gv ov R G P) (k : KeptS S w w1) (o : Ot) (hlen : P.ou.length ≤ 1900000000000) :
    Calls Try.prog 52 #[.pointer (some ⟨b, 0, none⟩), .agg (otC o).toArray] w1 fun e w' => e = .returned (.tuple #[]) ∧ (∃ ov', IsPort w' (grow S w w') b eb gv ov' R G { P with ou := P.ou ++ [o] }) ∧ KeptS S w w' :=
  (goOut_at h o hlen).mono fun e w' ⟨e1, ⟨ov', h2⟩, k2⟩ => ⟨e1, ⟨ov', grow_from k.size h2⟩, k.trans k2 (fun _ => Or.inl)⟩
set_option maxRecDepth 100000 in
set_option maxHeartbeats 1000000 in
theorem fin_at {w : World} {S : Nat → Prop} {b eb : Nat} {gv ov : Value} {R G : Nat → Nat} {P : Pt} (h : IsPort w S b eb gv ov R G P) (e : Int) (hlen : P.ou.length ≤ 1900000000000) : Calls Try.prog 28 #[.pointer (some ⟨b, 0, none⟩), .int .i64 e] w fun x w' => x = .returned (.int .i64 (finC P e)) ∧ Port w' (grow S w w') b (finP P e) ∧ KeptS S w w' := by
  cases hs : str_ P e
  · have h1 : finC P e = 2 := by simp [finC, hs]
    have h2 : finP P e = P := by simp [finP, h1]
    rw [h1, h2]
    refine (fin_no _ e 2 w (h.nowhere hs) (Or.inr rfl)).mono ?_
    rintro x w' ⟨rfl, hb⟩
    exact ⟨rfl, h.stay hb⟩
  · obtain ⟨i, rfl, hi⟩ := str_nat hs
    have ho := h.ok.e i
    obtain ⟨c0, c1, c2, c3, c4, c5⟩ := h.row.at_ hi
    have f5 := h.row.frozen (i * 6 + 5)
    have HA := hide (at_ok h i hi)
    have HL := hide (isSending_at eb (i * 6) _ _ w (h.row.at_ hi))
    cases hl : sendE (at0 P.L i)
    · rw [hl] at HL
      have h1 : finC P i = 150 := by simp [finC, hs, hl]
      have h2 : finP P i = P := by simp [finP, h1]
      rw [h1, h2]
      have H0 := hide h
      clear hs h hl h1 h2
      go_enter Try.func28, Try.ntmps28
      go_wp2_with fail
      refine HA.out.mono ?_
      rintro x w1 ⟨rfl, rfl⟩
      go_wp2_with fail
      refine HL.out.mono ?_
      rintro x w2 ⟨rfl, rfl⟩
      go_wp2_with fail
      go_ret
      exact ⟨rfl, H0.out.stay (Below.refl _ _)⟩
    · rw [hl] at HL
      have h1 : finC P i = 0 := by simp [finC, hs, hl]
      have h2 : finP P i = { P with L := P.L.set i { at0 P.L i with ths := true }, ou := P.ou ++ [ot 3 i emp] } := by simp [finP, h1]
      rw [h1, h2]
      have HT := hide (h.cellTurn hi (j := 5) (by omega) (.bool true) { at0 P.L i with ths := true } rfl rfl ⟨ho.q, ho.s0, ho.s3, ho.r0, ho.r1⟩)
      have HK := hide ((KeptS.refl S w).setCell (p := ⟨eb, i * 6 + 5, none⟩) h.se (.bool true))
      clear hs h hl h1 h2
      go_enter Try.func28, Try.ntmps28
      go_wp2_with fail
      refine HA.out.mono ?_
      rintro x w1 ⟨rfl, rfl⟩
      go_wp2_with fail
      refine HL.out.mono ?_
      rintro x w2 ⟨rfl, rfl⟩
      go_wp2_with fail
      refine (goOut_to HT.out HK.out (ot 3 i emp) hlen).mono ?_
      rintro x w3 ⟨rfl, ⟨ov', h3⟩, k3⟩
      have H3 := hide h3
      have K3 := hide k3
      clear h3 k3
      go_wp2_with fail
      go_ret
      exact ⟨rfl, Port.of H3.out, K3.out⟩
set_option maxRecDepth 100000 in
set_option maxHeartbeats 1000000 in
theorem close_at {w : World} {S : Nat → Prop} {b eb : Nat} {gv ov : Value} {R G : Nat → Nat} {P : Pt} (h : IsPort w S b eb gv ov R G P) (e : Int) (hlen : P.ou.length ≤ 1900000000000) : Calls Try.prog 15 #[.pointer (some ⟨b, 0, none⟩), .int .i64 e] w fun x w' => x = .returned (.int .i64 (closeC P e)) ∧ Port w' (grow S w w') b (closeP P e) ∧ KeptS S w w' := by
  cases hs : str_ P e
  · have h1 : closeC P e = 2 := by simp [closeC, hs]
    have h2 : closeP P e = P := by simp [closeP, h1]
    rw [h1, h2]
    refine (close_no _ e 2 w (h.nowhere hs) (Or.inr rfl)).mono ?_
    rintro x w' ⟨rfl, hb⟩
    exact ⟨rfl, h.stay hb⟩
  · obtain ⟨i, rfl, hi⟩ := str_nat hs
    obtain ⟨c0, c1, c2, c3, c4, c5⟩ := h.row.at_ hi
    have HA := hide (at_ok h i hi)
    have HL := hide (isOver_at eb (i * 6) _ _ w (h.row.at_ hi))
    have H0 := hide h
    by_cases h0 : (at0 P.L i).st = 0
    · have h1 : closeC P i = 150 := by simp [closeC, hs, h0]
      have h2 : closeP P i = P := by simp [closeP, h1]
      rw [h1, h2]
      rw [h0] at c1
      clear hs h h0 h1 h2
      go_enter Try.func15, Try.ntmps15
      go_wp2_with fail
      refine HA.out.mono ?_
      rintro x w1 ⟨rfl, rfl⟩
      go_wp2_with fail
      go_ret
      exact ⟨rfl, H0.out.stay (Below.refl _ _)⟩
    · have h1 : closeC P i = 0 := by simp [closeC, hs, h0]
      have h2 : closeP P i = { P with L := P.L.set i (z 0), ou := closeO P i } := by simp [closeP, h1]
      have hst : ((at0 P.L i).st == 0) = false := by simp [h0]
      rw [h1, h2]
      unfold closeO
      rw [Int.toNat_natCast]
      obtain ⟨s0, hs0⟩ : ∃ s0, s0 = (at0 P.L i).st := ⟨_, rfl⟩
      rw [← hs0] at c1 hst h0
      cases hl : overE (at0 P.L i)
      · rw [hl] at HL
        clear hs h h1 h2 hl hs0
        rw [if_neg (by decide)]
        go_enter Try.func15, Try.ntmps15
        go_wp2_with fail
        refine HA.out.mono ?_
        rintro x w1 ⟨rfl, rfl⟩
        go_wp2_with fail
        refine HL.out.mono ?_
        rintro x w2 ⟨rfl, rfl⟩
        go_wp2_with fail
        refine (goOut_to H0.out (KeptS.refl S w) (ot 4 i emp) hlen).mono ?_
        rintro x w3 ⟨rfl, ⟨ov', h3⟩, k3⟩
        have H3 := hide h3
        have K3 := hide k3
        clear h3 k3
        go_wp2_with fail
        refine (become_at H3.out i hi 0 (by omega)).mono ?_
        rintro x w4 ⟨rfl, h4, k4⟩
        have H4 := hide h4
        have K4 := hide k4
        clear h4 k4
        go_wp2_with fail
        go_ret
        refine ⟨rfl, Port.of (H4.out.wide (fun k hk => hk.elim Or.inl (fun x => Or.inr ⟨x.1, Nat.lt_of_lt_of_le x.2 K4.out.size⟩)) (fun k hk => hk.elim (fun x => H4.out.lt k (Or.inl x)) (fun x => x.2))), K3.out.grow2 K4.out⟩
      · rw [hl] at HL
        clear hs h h1 h2 hl hs0
        rw [if_pos rfl]
        go_enter Try.func15, Try.ntmps15
        go_wp2_with fail
        refine HA.out.mono ?_
        rintro x w1 ⟨rfl, rfl⟩
        go_wp2_with fail
        refine HL.out.mono ?_
        rintro x w2 ⟨rfl, rfl⟩
        go_wp2_with fail
        refine (become_at H0.out i hi 0 (by omega)).mono ?_
        rintro x w4 ⟨rfl, h4, k4⟩
        have H4 := hide h4
        have K4 := hide k4
        clear h4 k4
        go_wp2_with fail
        go_ret
        exact ⟨rfl, Port.of H4.out.grow, K4.out⟩
set_option maxRecDepth 100000 in
set_option maxHeartbeats 1000000 in
theorem send_at {w : World} {S : Nat → Prop} {b eb : Nat} {gv ov : Value} {R G : Nat → Nat} {P : Pt} (h : IsPort w S b eb gv ov R G P) (e : Int) (hlen : P.ou.length ≤ 1900000000000) (a : Option Addr) (n cp : Nat) (l : List Int) (hsrc : Src w a n cp l) (hoff : ∀ g o, a = some ⟨g, o, none⟩ → 0 < n → g ≠ eb) : Calls Try.prog 29 #[.pointer (some ⟨b, 0, none⟩), .int .i64 e, .slice a n cp] w fun x w' => x = .returned (.int .i64 (sendT P e n : Nat)) ∧ Port w' (grow S w w') b (sendP P e l) ∧ KeptS S w w' := by
  have hn63 : n ≤ 9223372036854775807 := by have := hsrc.hcap; have := hsrc.hmax; unfold maxLen at this; omega
  have hll := hsrc.hlen
  cases hs : str_ P e
  · have h0 : sendT P e n = 0 := by simp [sendT, roomN, hs]
    have h2 : sendP P e l = P := by simp [sendP, sendT, roomN, hs]
    rw [h0, h2]
    refine (send_no _ e 2 a n cp hn63 w (h.nowhere hs)).mono ?_
    rintro x w' ⟨rfl, hb⟩
    exact ⟨rfl, h.stay hb⟩
  · obtain ⟨i, rfl, hi⟩ := str_nat hs
    have ho := h.ok.e i
    have r0 := ho.r0
    have r1 := ho.r1
    obtain ⟨t, ht⟩ : ∃ t, t = sendT P i n := ⟨_, rfl⟩
    have hP : sendP P i l = if t = 0 then P else { P with L := P.L.set i { at0 P.L i with room := (at0 P.L i).room - t }, ou := P.ou ++ [ot 2 i (strOfNums (l.take t))] } := by
      unfold sendP
      rw [hll, ← ht, Int.toNat_natCast]
    rw [hP, ← ht]
    have hmay : 0 ≤ mayE (at0 P.L i) := by unfold mayE; split <;> omega
    have htt : t = min n (mayE (at0 P.L i)).toNat := by rw [ht]; unfold sendT roomN; rw [hs, if_pos rfl, Int.toNat_natCast]
    have HMR : Hid (0 < t → mayE (at0 P.L i) = (at0 P.L i).room) := fun h0 => mayE_of (by omega)
    have HA := hide (at_ok h i hi)
    have HL := hide (mayGo_at eb (i * 6) _ _ w (h.row.at_ hi))
    obtain ⟨c0, c1, c2, c3, c4, c5⟩ := h.row.at_ hi
    have f2 := h.row.frozen (i * 6 + 2)
    obtain ⟨M, hM⟩ : ∃ M, M = mayE (at0 P.L i) := ⟨_, rfl⟩
    rw [← hM] at HL htt hmay HMR
    have hmin : min (n : Int) M = (t : Int) := by omega
    have htn : t ≤ n := by omega
    have htM : (t : Int) ≤ M := by omega
    have H0 := hide h
    have HS := hide hsrc
    have HOFF := hide hoff
    by_cases t0 : t = 0
    · subst t0
      rw [if_pos rfl]
      clear hs h hsrc ht htt hP hM hoff hll
      go_enter Try.func29, Try.ntmps29
      go_wp2_with fail
      refine HA.out.mono ?_
      rintro x w1 ⟨rfl, rfl⟩
      go_wp2_with fail
      refine HL.out.mono ?_
      rintro x w2 ⟨rfl, rfl⟩
      go_wp2_with fail
      go_ret
      exact ⟨rfl, H0.out.stay (Below.refl _ _)⟩
    · rw [if_neg t0]
      have hMr := HMR.out (by omega)
      have ht0 : ((t : Int) == 0) = false := by simp [t0]
      obtain ⟨rm, hrm⟩ : ∃ rm, rm = (at0 P.L i).room := ⟨_, rfl⟩
      have HT := hide (h.cellTurn hi (j := 2) (by omega) (.int .i64 (rm - t)) { at0 P.L i with room := rm - t } rfl rfl ⟨ho.q, ho.s0, ho.s3, by show 0 ≤ rm - t; omega, by show rm - t ≤ _; omega⟩)
      have HK := hide ((KeptS.refl S w).setCell (p := ⟨eb, i * 6 + 2, none⟩) h.se (.int .i64 (rm - t)))
      have hsc : Src (w.setCell ⟨eb, i * 6 + 2, none⟩ (.int .i64 (rm - t))) a t cp (l.take t) := (hsrc.cut htn).keep (fun g o e0 h0 => Below.heap_setCell _ _ _ _ (hoff g o e0 (by omega)))
      have hcv := run_str hsc
      rw [← hrm] at c2 r0 r1 hMr ⊢
      have htr : (t : Int) ≤ rm := by omega
      have hcap := hsrc.hcap
      have hmaxc := hsrc.hmax
      unfold maxLen at hmaxc
      have hHRM := hide hrm
      clear hs h hsrc ht htt hP hM hoff hll hrm hsc hMr
      go_enter Try.func29, Try.ntmps29
      go_wp2_with fail
      refine HA.out.mono ?_
      rintro x w1 ⟨rfl, rfl⟩
      go_wp2_with fail
      refine HL.out.mono ?_
      rintro x w2 ⟨rfl, rfl⟩
      go_wp2_with fail
      refine (goOut_to HT.out HK.out (ot 2 i (strOfNums (l.take t))) hlen).mono ?_
      rintro x w3 ⟨rfl, ⟨ov', h3⟩, k3⟩
      have H3 := hide h3
      have K3 := hide k3
      clear h3 k3
      go_wp2_with fail
      go_ret
      exact ⟨rfl, Port.of H3.out, K3.out⟩

end Go.Proofs.Ytjojhnkibgkleaa
