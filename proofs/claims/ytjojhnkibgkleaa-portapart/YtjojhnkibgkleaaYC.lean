/-
  What the reference's port tells, and what lets it go on without a new ring; conditions as each theorem has them.
-/
import Derived.Test.YtjojhnkibgkleaaYB
import Derived.Test.YtjojhnkibgkleaaIV
set_option linter.unusedSimpArgs false
set_option linter.unusedVariables false
set_option maxRecDepth 8000
namespace Go.Proofs.Ytjojhnkibgkleaa
open Go.RowKit Go.Lib

theorem RPort.of {w : World} {S : Nat → Prop} {y eb ec : Nat} {ea : Option Addr} {bv ov : Value} {Y : Nat → Nat} {V : Nat → Value} {E : Nat → Nat} {P : Pt} (h : IsRP w S y eb ec ea bv ov Y V E P) : RPort w S y P := ⟨eb, ec, ea, bv, ov, Y, V, E, h⟩
theorem IsRP.grow {w w' : World} {S : Nat → Prop} {y eb ec : Nat} {ea : Option Addr} {bv ov : Value} {Y : Nat → Nat} {V : Nat → Value} {E : Nat → Nat} {P : Pt} (h : IsRP w' S y eb ec ea bv ov Y V E P) : IsRP w' (Ytjojhnkibgkleaa.grow S w w') y eb ec ea bv ov Y V E P := h.wide (fun k hk => Or.inl hk) (fun k hk => hk.elim (h.lt k) (fun x => x.2))
theorem IsRP.stay {w w' : World} {S : Nat → Prop} {y eb ec : Nat} {ea : Option Addr} {bv ov : Value} {Y : Nat → Nat} {V : Nat → Value} {E : Nat → Nat} {P : Pt} (h : IsRP w S y eb ec ea bv ov Y V E P) (k : Below w.heap.size w w') : RPort w' (Ytjojhnkibgkleaa.grow S w w') y P ∧ KeptS S w w' := ⟨RPort.of (h.below k).grow, KeptS.of_below k⟩
variable {w : World} {S : Nat → Prop} {y eb ec : Nat} {ea : Option Addr} {bv ov : Value} {Y : Nat → Nat} {V : Nat → Value} {E : Nat → Nat} {P : Pt}
theorem stream_r (h : IsRP w S y eb ec ea bv ov Y V E P) (e : Int) : Calls Try.prog 84 #[.pointer (some ⟨y, 0, none⟩), .int .i64 e] w fun x w' => x = .returned (.bool (str_ P e)) ∧ w = w' := by
  obtain ⟨c0, c1, c2, c3, c4⟩ := h.cells
  have hn := h.ok.n
  have hc := h.cap
  unfold maxLen at hc
  clear h
  by_cases h2 : 0 ≤ e
  · go_enter Try.func84, Try.ntmps84
    go_wp2
    go_ret
    simp [str_, inr_, h2]
  · go_enter Try.func84, Try.ntmps84
    go_wp2
    go_ret
    simp [str_, inr_, h2]
    omega
theorem cli_str (h : P.Ok) (e : Int) : cli P e = (str_ P e && decide (e < P.c)) := by
  have := h.c
  unfold cli str_ inr_
  by_cases h1 : 0 ≤ e <;> by_cases h2 : e < P.c <;> by_cases h3 : e < P.L.length <;> simp [h1, h2, h3] <;> omega
theorem srv_str (h : P.Ok) (e : Int) : srv P e = (str_ P e && decide (e ≥ P.c)) := by
  have := h.c
  unfold srv str_ inr_
  by_cases h1 : 0 ≤ e <;> by_cases h2 : (P.c : Int) ≤ e <;> by_cases h3 : e < P.L.length <;> simp [h1, h2, h3] <;> omega
theorem client_r (h : IsRP w S y eb ec ea bv ov Y V E P) (e : Int) : Calls Try.prog 83 #[.pointer (some ⟨y, 0, none⟩), .int .i64 e] w fun x w' => x = .returned (.bool (cli P e)) ∧ w = w' := by
  obtain ⟨c0, c1, c2, c3, c4⟩ := h.cells
  rw [cli_str h.ok]
  have HS := hide (stream_r h e)
  cases hs : str_ P e
  · rw [hs] at HS
    clear hs h
    go_enter Try.func83, Try.ntmps83
    go_wp2_with fail
    refine HS.out.mono ?_
    rintro x w1 ⟨rfl, rfl⟩
    go_wp2_with fail
    go_ret
    exact ⟨rfl, rfl⟩
  · rw [hs] at HS
    clear hs h
    go_enter Try.func83, Try.ntmps83
    go_wp2_with fail
    refine HS.out.mono ?_
    rintro x w1 ⟨rfl, rfl⟩
    go_wp2_with fail
    go_ret
    exact ⟨rfl, rfl⟩
theorem server_r (h : IsRP w S y eb ec ea bv ov Y V E P) (e : Int) : Calls Try.prog 86 #[.pointer (some ⟨y, 0, none⟩), .int .i64 e] w fun x w' => x = .returned (.bool (srv P e)) ∧ w = w' := by
  obtain ⟨c0, c1, c2, c3, c4⟩ := h.cells
  rw [srv_str h.ok]
  have HS := hide (stream_r h e)
  cases hs : str_ P e
  · rw [hs] at HS
    clear hs h
    go_enter Try.func86, Try.ntmps86
    go_wp2_with fail
    refine HS.out.mono ?_
    rintro x w1 ⟨rfl, rfl⟩
    go_wp2_with fail
    go_ret
    exact ⟨rfl, rfl⟩
  · rw [hs] at HS
    clear hs h
    go_enter Try.func86, Try.ntmps86
    go_wp2_with fail
    refine HS.out.mono ?_
    rintro x w1 ⟨rfl, rfl⟩
    go_wp2_with fail
    go_ret
    exact ⟨rfl, rfl⟩
/-- The cells of an endpoint that is there. -/
theorem IsRP.end_ (h : IsRP w S y eb ec ea bv ov Y V E P) {i : Nat} (hi : i < P.L.length) : w.cell? ⟨y, 2, none⟩ = some (.slice (some ⟨eb, 0, none⟩) P.L.length ec) ∧ ReAt w eb (i * 6) (rp Y i) (at0 P.L i) ∧ (∀ o, w.frozen? ⟨eb, o, none⟩ = false) ∧ P.L.length ≤ ec ∧ ec ≤ 9223372036854775807 ∧ P.L.length ≤ 128 := by
  obtain ⟨hea, hrow, _⟩ := h.row (by omega)
  have := h.cells.2.2.1
  rw [hea] at this
  have hc := h.cap
  unfold maxLen at hc
  exact ⟨this, hrow.at_ hi, hrow.frozen, hc.1, by omega, h.ok.n⟩
theorem room_r (h : IsRP w S y eb ec ea bv ov Y V E P) (e : Int) : Calls Try.prog 65 #[.pointer (some ⟨y, 0, none⟩), .int .i64 e] w fun x w' => x = .returned (.int .i64 (roomN P e)) ∧ w = w' := by
  have HS := hide (stream_r h e)
  unfold roomN
  cases hs : str_ P e
  · rw [hs] at HS
    clear hs h
    go_enter Try.func65, Try.ntmps65
    go_wp2_with fail
    refine HS.out.mono ?_
    rintro x w1 ⟨rfl, rfl⟩
    go_wp2_with fail
    go_ret
    exact ⟨rfl, rfl⟩
  · obtain ⟨i, rfl, hi⟩ := str_nat hs
    rw [hs] at HS
    obtain ⟨q2, ⟨c0, c1, c2, c3, c4, c5⟩, fr, hc1, hc2, hn⟩ := h.end_ hi
    rw [if_pos rfl, Int.toNat_natCast]
    unfold mayE sendE
    clear hs h fr
    by_cases hst : (at0 P.L i).st = 1
    · rw [hst] at c0
      cases ht : (at0 P.L i).ths
      · rw [ht] at c4
        have HST := hide hst
        clear ht hst
        rw [show (decide ((at0 P.L i).st = 1) && !false) = true by simp [HST.out], if_pos rfl]
        go_enter Try.func65, Try.ntmps65
        go_wp2_with fail
        refine HS.out.mono ?_
        rintro x w1 ⟨rfl, rfl⟩
        go_wp2_with fail
        go_ret
        exact ⟨rfl, rfl⟩
      · rw [ht] at c4
        have HST := hide hst
        clear ht hst
        rw [show (decide ((at0 P.L i).st = 1) && !true) = false by simp, if_neg (by decide)]
        go_enter Try.func65, Try.ntmps65
        go_wp2_with fail
        refine HS.out.mono ?_
        rintro x w1 ⟨rfl, rfl⟩
        go_wp2_with fail
        go_ret
        exact ⟨rfl, rfl⟩
    · have h3 : ((at0 P.L i).st == 1) = false := by simp [hst]
      have h4 : ((at0 P.L i).st != 1) = true := by simp [hst]
      rw [show (decide ((at0 P.L i).st = 1) && !(at0 P.L i).ths) = false by simp [hst], if_neg (by decide)]
      obtain ⟨s0, hs0⟩ : ∃ s0, s0 = (at0 P.L i).st := ⟨_, rfl⟩
      rw [← hs0] at c0 h3 h4 hst
      clear hs0
      go_enter Try.func65, Try.ntmps65
      go_wp2_with fail
      refine HS.out.mono ?_
      rintro x w1 ⟨rfl, rfl⟩
      go_wp2_with fail
      go_ret
      exact ⟨rfl, rfl⟩
theorem last_r (h : IsRP w S y eb ec ea bv ov Y V E P) (e : Int) : Calls Try.prog 66 #[.pointer (some ⟨y, 0, none⟩), .int .i64 e] w fun x w' => x = .returned (.bool (lastN P e)) ∧ w = w' := by
  have HS := hide (stream_r h e)
  unfold lastN
  cases hs : str_ P e
  · rw [hs] at HS
    clear hs h
    go_enter Try.func66, Try.ntmps66
    go_wp2_with fail
    refine HS.out.mono ?_
    rintro x w1 ⟨rfl, rfl⟩
    go_wp2_with fail
    go_ret
    exact ⟨rfl, rfl⟩
  · obtain ⟨i, rfl, hi⟩ := str_nat hs
    rw [hs] at HS
    obtain ⟨q2, ⟨c0, c1, c2, c3, c4, c5⟩, fr, hc1, hc2, hn⟩ := h.end_ hi
    rw [Bool.true_and, Int.toNat_natCast]
    unfold lastE
    clear hs h fr
    by_cases hst : (at0 P.L i).st = 1
    · rw [hst] at c0
      have HST := hide hst
      clear hst
      rw [show decide ((at0 P.L i).st = 1) = true from decide_eq_true HST.out, Bool.true_and]
      go_enter Try.func66, Try.ntmps66
      go_wp2_with fail
      refine HS.out.mono ?_
      rintro x w1 ⟨rfl, rfl⟩
      go_wp2_with fail
      go_ret
      exact ⟨rfl, rfl⟩
    · have h3 : ((at0 P.L i).st == 1) = false := by simp [hst]
      rw [decide_eq_false hst, Bool.false_and]
      obtain ⟨s0, hs0⟩ : ∃ s0, s0 = (at0 P.L i).st := ⟨_, rfl⟩
      rw [← hs0] at c0 h3 hst
      clear hs0
      go_enter Try.func66, Try.ntmps66
      go_wp2_with fail
      refine HS.out.mono ?_
      rintro x w1 ⟨rfl, rfl⟩
      go_wp2_with fail
      go_ret
      exact ⟨rfl, rfl⟩
theorem ended_r (h : IsRP w S y eb ec ea bv ov Y V E P) (e : Int) : Calls Try.prog 67 #[.pointer (some ⟨y, 0, none⟩), .int .i64 e] w fun x w' => x = .returned (.bool (endN P e)) ∧ w = w' := by
  have HS := hide (last_r h e)
  unfold endN
  cases hl : lastN P e
  · rw [hl] at HS
    clear hl h
    go_enter Try.func67, Try.ntmps67
    go_wp2_with fail
    refine HS.out.mono ?_
    rintro x w1 ⟨rfl, rfl⟩
    go_wp2_with fail
    go_ret
    exact ⟨rfl, rfl⟩
  · have hs : str_ P e = true := by
      unfold lastN at hl
      simp only [Bool.and_eq_true] at hl
      exact hl.1
    obtain ⟨i, rfl, hi⟩ := str_nat hs
    rw [hl] at HS
    obtain ⟨q2, ⟨c0, c1, c2, c3, c4, c5⟩, fr, hc1, hc2, hn⟩ := h.end_ hi
    obtain ⟨r1, ⟨a, c, hv⟩, r3, r4⟩ := (h.ring i hi).cellV
    rw [hv] at r1
    unfold qN
    rw [hs, if_pos rfl, Int.toNat_natCast, Bool.true_and]
    unfold rp at c5
    generalize (at0 P.L i).q.length = N at r1 r3 ⊢
    clear hs h fr hl hv
    go_enter Try.func67, Try.ntmps67
    go_wp2_with fail
    refine HS.out.mono ?_
    rintro x w1 ⟨rfl, rfl⟩
    go_wp2_with fail
    go_ret
    have : ((N : Int) == 0) = decide (N = 0) := by
      rw [Bool.eq_iff_iff]
      simp
    simp [this]
theorem peek_r (h : IsRP w S y eb ec ea bv ov Y V E P) (e n : Int) : Calls Try.prog 58 #[.pointer (some ⟨y, 0, none⟩), .int .i64 e, .int .i64 n] w fun x w' => ∃ a c, x = .returned (.slice a (takeL P e n).length c) ∧ Src w' a (takeL P e n).length c (takeL P e n) ∧ Below w.heap.size w w' := by
  have HS := hide (stream_r h e)
  cases hs : str_ P e
  · have hl : takeL P e n = [] := by simp [takeL, qN, hs]
    rw [hl]
    rw [hs] at HS
    clear hs h hl
    go_enter Try.func58, Try.ntmps58
    go_wp2_with fail
    refine HS.out.mono ?_
    rintro x w1 ⟨rfl, rfl⟩
    go_wp2_with fail
    go_ret
    exact ⟨none, 0, rfl, ⟨rfl, Nat.le_refl _, Nat.zero_le _, fun _ => rfl, fun h => by simp at h, by simp⟩, Below.refl _ _⟩
  · obtain ⟨i, rfl, hi⟩ := str_nat hs
    rw [hs] at HS
    obtain ⟨q2, ⟨c0, c1, c2, c3, c4, c5⟩, fr, hc1, hc2, hn⟩ := h.end_ hi
    have HP := hide (rpeek_v (Y i) P.sz n _ _ w (h.ring i hi))
    unfold takeL qN
    rw [hs, if_pos rfl, Int.toNat_natCast]
    unfold rp at c5
    clear hs h fr
    obtain ⟨L, hL⟩ : ∃ L, L = (at0 P.L i).q.take (min n.toNat (at0 P.L i).q.length) := ⟨_, rfl⟩
    rw [← hL] at HP ⊢
    clear hL
    go_enter Try.func58, Try.ntmps58
    go_wp2_with fail
    refine HS.out.mono ?_
    rintro x w1 ⟨rfl, rfl⟩
    go_wp2_with fail
    refine HP.out.mono ?_
    rintro x w2 ⟨a, c, rfl, hsrc, hb⟩
    have H1 := hide hsrc
    have H2 := hide hb
    clear hsrc hb
    go_wp2_with fail
    go_ret
    exact ⟨a, c, rfl, H1.out, H2.out⟩
theorem take_r (h : IsRP w S y eb ec ea bv ov Y V E P) (e n : Int) : Calls Try.prog 57 #[.pointer (some ⟨y, 0, none⟩), .int .i64 e, .int .i64 n] w fun x w' => ∃ a c, x = .returned (.slice a (takeL P e n).length c) ∧ Src w' a (takeL P e n).length c (takeL P e n) ∧ RPort w' (grow S w w') y (takeP P e n) ∧ KeptS S w w' := by
  have HS := hide (stream_r h e)
  have H0 := hide h
  cases hs : str_ P e
  · have hl : takeL P e n = [] := by simp [takeL, qN, hs]
    have hp : takeP P e n = P := by simp [takeP, hs]
    rw [hl, hp]
    rw [hs] at HS
    clear hs h hl hp
    go_enter Try.func57, Try.ntmps57
    go_wp2_with fail
    refine HS.out.mono ?_
    rintro x w1 ⟨rfl, rfl⟩
    go_wp2_with fail
    go_ret
    exact ⟨none, 0, rfl, ⟨rfl, Nat.le_refl _, Nat.zero_le _, fun _ => rfl, fun h => by simp at h, by simp⟩, H0.out.stay (Below.refl _ _)⟩
  · obtain ⟨i, rfl, hi⟩ := str_nat hs
    rw [hs] at HS
    obtain ⟨q2, ⟨c0, c1, c2, c3, c4, c5⟩, fr, hc1, hc2, hn⟩ := h.end_ hi
    have HP := hide (rtake_v (Y i) P.sz n _ _ w (h.ring i hi))
    unfold takeP takeL qN
    rw [hs, if_pos rfl, if_pos rfl, Int.toNat_natCast]
    unfold rp at c5
    clear hs h fr
    obtain ⟨L, hL⟩ : ∃ L, L = (at0 P.L i).q.take (min n.toNat (at0 P.L i).q.length) := ⟨_, rfl⟩
    rw [← hL] at HP ⊢
    clear hL
    go_enter Try.func57, Try.ntmps57
    go_wp2_with fail
    refine HS.out.mono ?_
    rintro x w1 ⟨rfl, rfl⟩
    go_wp2_with fail
    refine HP.out.mono ?_
    rintro x w2 ⟨a, c, v', rfl, hsrc, hr, hv, hk⟩
    have HT := hide (H0.out.ringTurn hi (hk.mono (fun x hx => Or.inl (Or.inl hx))) hr (fun g hg => Or.inr (hv g hg)))
    have H1 := hide hsrc
    clear hsrc hr hv hk
    go_wp2_with fail
    go_ret
    exact ⟨a, c, rfl, H1.out, RPort.of HT.out.1, HT.out.2⟩

end Go.Proofs.Ytjojhnkibgkleaa
