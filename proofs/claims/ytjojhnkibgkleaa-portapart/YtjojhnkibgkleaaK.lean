/-
  What a port that was made tells of its endpoints; conditions as each theorem has them.
-/
import Derived.Test.YtjojhnkibgkleaaJ
set_option linter.unusedSimpArgs false
set_option linter.unusedVariables false
set_option maxRecDepth 8000
namespace Go.Proofs.Ytjojhnkibgkleaa
open Go.RowKit Go.Lib

theorem IsPort.bytes {w : World} {S : Nat → Prop} {b eb : Nat} {gv ov : Value} {R G : Nat → Nat} {P : Pt} (h : IsPort w S b eb gv ov R G P) {i : Nat} (hi : i < P.L.length) : (∀ x ∈ (at0 P.L i).q, 0 ≤ x ∧ x < 256) ∧ (at0 P.L i).q.length ≤ 65536 := by
  obtain ⟨ic, oc, hr⟩ := h.ring i hi
  exact ⟨fun x hx => hr.bytes x hx, by have := (h.ok.e i).q; have := h.ok.z1; omega⟩
theorem str_at (P : Pt) (i : Nat) (hi : i < P.L.length) : str_ P i = true := by simp [str_, inr_, hi]
theorem state_at {w : World} {S : Nat → Prop} {b eb : Nat} {gv ov : Value} {R G : Nat → Nat} {P : Pt} (h : IsPort w S b eb gv ov R G P) (e : Int) : Calls Try.prog 30 #[.pointer (some ⟨b, 0, none⟩), .int .i64 e] w fun x w' => x = .returned (.tuple #[.int .i64 (stN P e), .int .i64 (codeN P e)]) ∧ Below w.heap.size w w' := by
  cases hs : str_ P e
  · unfold stN codeN
    rw [hs]
    exact state_no _ e 2 w (h.nowhere hs)
  · obtain ⟨i, rfl, hi⟩ := str_nat hs
    unfold stN codeN
    rw [hs, if_pos rfl, if_pos rfl, Int.toNat_natCast]
    obtain ⟨c0, c1, c2, c3, c4, c5⟩ := h.row.at_ hi
    have HA := hide (at_ok h i hi)
    clear hs h
    go_enter Try.func30, Try.ntmps30
    go_wp2_with fail
    refine HA.out.mono ?_
    rintro x w1 ⟨rfl, rfl⟩
    go_wp2_with fail
    go_ret2
    exact ⟨rfl, Below.refl _ _⟩
theorem waiting_at {w : World} {S : Nat → Prop} {b eb : Nat} {gv ov : Value} {R G : Nat → Nat} {P : Pt} (h : IsPort w S b eb gv ov R G P) (e : Int) : Calls Try.prog 31 #[.pointer (some ⟨b, 0, none⟩), .int .i64 e] w fun x w' => x = .returned (.int .i64 ((qN P e).length : Nat)) ∧ Below w.heap.size w w' := by
  cases hs : str_ P e
  · unfold qN
    rw [hs]
    exact waiting_no _ e 2 w (h.nowhere hs)
  · obtain ⟨i, rfl, hi⟩ := str_nat hs
    unfold qN
    rw [hs, if_pos rfl, Int.toNat_natCast]
    obtain ⟨c0, c1, c2, c3, c4, c5⟩ := h.row.at_ hi
    obtain ⟨ic, oc, hr⟩ := h.ring i hi
    have HA := hide (at_ok h i hi)
    have HL := hide (len_ring (R i) (G i) P.sz ic oc _ w hr)
    unfold rp at c0
    clear hs h hr
    go_enter Try.func31, Try.ntmps31
    go_wp2_with fail
    refine HA.out.mono ?_
    rintro x w1 ⟨rfl, rfl⟩
    go_wp2_with fail
    refine HL.out.mono ?_
    rintro x w2 ⟨rfl, k2, rfl⟩
    go_wp2_with fail
    go_ret
    exact ⟨rfl, below_drewN (Below.refl _ _) _⟩
theorem peek_at {w : World} {S : Nat → Prop} {b eb : Nat} {gv ov : Value} {R G : Nat → Nat} {P : Pt} (h : IsPort w S b eb gv ov R G P) (e n : Int) : Calls Try.prog 26 #[.pointer (some ⟨b, 0, none⟩), .int .i64 e, .int .i64 n] w fun x w' => ∃ v, x = .returned v ∧ Mine w.heap.size w' v (takeL P e n) ∧ Below w.heap.size w w' := by
  cases hs : str_ P e
  · have : takeL P e n = [] := by simp [takeL, qN, hs]
    rw [this]
    refine (peek_no _ e 2 n w (h.nowhere hs)).mono ?_
    rintro x w' ⟨rfl, hb⟩
    exact ⟨_, rfl, Or.inl ⟨rfl, rfl⟩, hb⟩
  · obtain ⟨i, rfl, hi⟩ := str_nat hs
    unfold takeL qN
    rw [hs, if_pos rfl, Int.toNat_natCast]
    obtain ⟨c0, c1, c2, c3, c4, c5⟩ := h.row.at_ hi
    obtain ⟨ic, oc, hr⟩ := h.ring i hi
    have HA := hide (at_ok h i hi)
    have HL := hide (peek_ring (R i) (G i) P.sz ic oc n _ w hr)
    unfold rp at c0
    clear hs h hr
    go_enter Try.func26, Try.ntmps26
    go_wp2_with fail
    refine HA.out.mono ?_
    rintro x w1 ⟨rfl, rfl⟩
    go_wp2_with fail
    refine HL.out.mono ?_
    rintro x w2 ⟨rfl, hf⟩
    have HF := hide hf
    clear hf
    go_wp2_with fail
    go_ret
    refine ⟨.slice (some ⟨w.heap.size, 0, none⟩) (min n.toNat (at0 P.L i).q.length) (min n.toNat (at0 P.L i).q.length), rfl, Or.inr ⟨_, ?_, Nat.le_refl _, HF.out.1⟩, HF.out.2⟩
    rw [List.length_take, show min (min n.toNat (at0 P.L i).q.length) (at0 P.L i).q.length = min n.toNat (at0 P.L i).q.length by omega]
theorem last_at {w : World} {S : Nat → Prop} {b eb : Nat} {gv ov : Value} {R G : Nat → Nat} {P : Pt} (h : IsPort w S b eb gv ov R G P) (e : Int) : Calls Try.prog 37 #[.pointer (some ⟨b, 0, none⟩), .int .i64 e] w fun x w' => x = .returned (.bool (lastN P e)) ∧ Below w.heap.size w w' := by
  unfold lastN
  cases hs : str_ P e
  · exact last_no _ e 2 w (h.nowhere hs)
  · obtain ⟨i, rfl, hi⟩ := str_nat hs
    rw [Bool.true_and, Int.toNat_natCast]
    have HA := hide (at_ok h i hi)
    have HL := hide (isLast_at eb (i * 6) _ _ w (h.row.at_ hi))
    clear hs h
    go_enter Try.func37, Try.ntmps37
    go_wp2_with fail
    refine HA.out.mono ?_
    rintro x w1 ⟨rfl, rfl⟩
    go_wp2_with fail
    refine HL.out.mono ?_
    rintro x w2 ⟨rfl, rfl⟩
    go_wp2_with fail
    go_ret
    exact ⟨rfl, Below.refl _ _⟩
theorem room_at {w : World} {S : Nat → Prop} {b eb : Nat} {gv ov : Value} {R G : Nat → Nat} {P : Pt} (h : IsPort w S b eb gv ov R G P) (e : Int) : Calls Try.prog 32 #[.pointer (some ⟨b, 0, none⟩), .int .i64 e] w fun x w' => x = .returned (.int .i64 (roomN P e)) ∧ Below w.heap.size w w' := by
  unfold roomN
  cases hs : str_ P e
  · exact room_no _ e 2 w (h.nowhere hs)
  · obtain ⟨i, rfl, hi⟩ := str_nat hs
    rw [if_pos rfl, Int.toNat_natCast]
    have HA := hide (at_ok h i hi)
    have HL := hide (mayGo_at eb (i * 6) _ _ w (h.row.at_ hi))
    clear hs h
    go_enter Try.func32, Try.ntmps32
    go_wp2_with fail
    refine HA.out.mono ?_
    rintro x w1 ⟨rfl, rfl⟩
    go_wp2_with fail
    refine HL.out.mono ?_
    rintro x w2 ⟨rfl, rfl⟩
    go_wp2_with fail
    go_ret
    exact ⟨rfl, Below.refl _ _⟩
theorem ended_at {w : World} {S : Nat → Prop} {b eb : Nat} {gv ov : Value} {R G : Nat → Nat} {P : Pt} (h : IsPort w S b eb gv ov R G P) (e : Int) : Calls Try.prog 27 #[.pointer (some ⟨b, 0, none⟩), .int .i64 e] w fun x w' => x = .returned (.bool (endN P e)) ∧ Below w.heap.size w w' := by
  unfold endN lastN qN
  cases hs : str_ P e
  · exact ended_no _ e 2 w (h.nowhere hs)
  · obtain ⟨i, rfl, hi⟩ := str_nat hs
    rw [Bool.true_and, if_pos rfl, Int.toNat_natCast]
    obtain ⟨c0, c1, c2, c3, c4, c5⟩ := h.row.at_ hi
    obtain ⟨ic, oc, hr⟩ := h.ring i hi
    have HA := hide (at_ok h i hi)
    have HL := hide (isLast_at eb (i * 6) _ _ w (h.row.at_ hi))
    have HN := hide (len_ring (R i) (G i) P.sz ic oc _ w hr)
    unfold rp at c0
    cases hl : lastE (at0 P.L i)
    · rw [hl] at HL
      clear hs h hr hl
      go_enter Try.func27, Try.ntmps27
      go_wp2_with fail
      refine HA.out.mono ?_
      rintro x w1 ⟨rfl, rfl⟩
      go_wp2_with fail
      refine HL.out.mono ?_
      rintro x w2 ⟨rfl, rfl⟩
      go_wp2_with fail
      go_ret
      exact ⟨rfl, Below.refl _ _⟩
    · rw [hl] at HL
      clear hs h hr hl
      generalize (at0 P.L i).q.length = L at HN ⊢
      go_enter Try.func27, Try.ntmps27
      go_wp2_with fail
      refine HA.out.mono ?_
      rintro x w1 ⟨rfl, rfl⟩
      go_wp2_with fail
      refine HL.out.mono ?_
      rintro x w2 ⟨rfl, rfl⟩
      go_wp2_with fail
      refine HN.out.mono ?_
      rintro x w3 ⟨rfl, k3, rfl⟩
      go_wp2_with fail
      go_ret
      refine ⟨?_, below_drewN (Below.refl _ _) _⟩
      have : ((L : Int) == 0) = decide (L = 0) := by
        rw [Bool.eq_iff_iff]
        simp
      simp [this]

end Go.Proofs.Ytjojhnkibgkleaa
