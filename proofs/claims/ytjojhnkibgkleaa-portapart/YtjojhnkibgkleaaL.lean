/-
  Bytes that are taken, a client that is accepted, an end that is told, a connection that is closed; conditions as each theorem has them.
-/
import Derived.Test.YtjojhnkibgkleaaK
import Derived.Test.YtjojhnkibgkleaaF
set_option linter.unusedSimpArgs false
set_option linter.unusedVariables false
set_option maxRecDepth 8000
namespace Go.Proofs.Ytjojhnkibgkleaa
open Go.RowKit Go.Lib

/-- A port in memory, without the places where its parts lie. -/
theorem Port.of {w : World} {S : Nat → Prop} {b eb : Nat} {gv ov : Value} {R G : Nat → Nat} {P : Pt} (h : IsPort w S b eb gv ov R G P) : Port w S b P := ⟨eb, gv, ov, R, G, h⟩
theorem IsPort.grow {w w' : World} {S : Nat → Prop} {b eb : Nat} {gv ov : Value} {R G : Nat → Nat} {P : Pt} (h : IsPort w' S b eb gv ov R G P) : IsPort w' (grow S w w') b eb gv ov R G P := h.wide (fun k hk => Or.inl hk) (fun k hk => hk.elim (h.lt k) (fun x => x.2))
theorem IsPort.stay {w w' : World} {S : Nat → Prop} {b eb : Nat} {gv ov : Value} {R G : Nat → Nat} {P : Pt} (h : IsPort w S b eb gv ov R G P) (k : Below w.heap.size w w') : Port w' (Ytjojhnkibgkleaa.grow S w w') b P ∧ KeptS S w w' := ⟨Port.of (h.below k).grow, KeptS.of_below k⟩
theorem grow_trans {S : Nat → Prop} {a b c : World} (h1 : a.heap.size ≤ b.heap.size) (h2 : b.heap.size ≤ c.heap.size) : ∀ k, Ytjojhnkibgkleaa.grow (Ytjojhnkibgkleaa.grow S a b) b c k → Ytjojhnkibgkleaa.grow S a c k := by
  intro k hk
  rcases hk with (hk | hk) | hk
  · exact Or.inl hk
  · exact Or.inr ⟨hk.1, by omega⟩
  · exact Or.inr ⟨by omega, hk.2⟩
theorem IsPort.grow2 {a b' c : World} {S : Nat → Prop} {b eb : Nat} {gv ov : Value} {R G : Nat → Nat} {P : Pt} (h : IsPort c (Ytjojhnkibgkleaa.grow (Ytjojhnkibgkleaa.grow S a b') b' c) b eb gv ov R G P) (h1 : a.heap.size ≤ b'.heap.size) (h2 : b'.heap.size ≤ c.heap.size) (hS : ∀ k, S k → k < a.heap.size) : IsPort c (Ytjojhnkibgkleaa.grow S a c) b eb gv ov R G P :=
  h.wide (grow_trans h1 h2) (fun k hk => by
    rcases hk with hk | hk
    · have := hS k hk; omega
    · exact hk.2)
theorem KeptS.grow2 {S : Nat → Prop} {a b c : World} (h : KeptS S a b) (k : KeptS (Ytjojhnkibgkleaa.grow S a b) b c) : KeptS S a c := h.trans k (fun x hx => by
  rcases hx with hx | hx
  · exact Or.inl hx
  · exact Or.inr hx.1)
set_option maxRecDepth 100000 in
set_option maxHeartbeats 1000000 in
theorem take_tight {w : World} {S : Nat → Prop} {b eb : Nat} {gv ov : Value} {R G : Nat → Nat} {P : Pt} (h : IsPort w S b eb gv ov R G P) (e n : Int) : Calls Try.prog 14 #[.pointer (some ⟨b, 0, none⟩), .int .i64 e, .int .i64 n] w fun x w' => ∃ v, x = .returned v ∧ Mine w.heap.size w' v (takeL P e n) ∧ (Port w' S b (takeP P e n) ∧ KeptS S w w') := by
  cases hs : str_ P e
  · have : takeL P e n = [] := by simp [takeL, qN, hs]
    rw [this]
    have : takeP P e n = P := by simp [takeP, hs]
    rw [this]
    refine (take_no _ e 2 n w (h.nowhere hs)).mono ?_
    rintro x w' ⟨rfl, hb⟩
    exact ⟨_, rfl, Or.inl ⟨rfl, rfl⟩, Port.of (h.below hb), KeptS.of_below hb⟩
  · obtain ⟨i, rfl, hi⟩ := str_nat hs
    unfold takeL takeP qN
    rw [hs, if_pos rfl, if_pos rfl, Int.toNat_natCast]
    obtain ⟨c0, c1, c2, c3, c4, c5⟩ := h.row.at_ hi
    obtain ⟨ic, oc, hr⟩ := h.ring i hi
    have HA := hide (at_ok h i hi)
    have HL := hide (take_ring (R i) (G i) P.sz ic oc n _ w hr)
    have hq := (h.ok.e i).q
    have HS := hide h
    unfold rp at c0
    clear hs h hr
    go_enter Try.func14, Try.ntmps14
    go_wp2_with fail
    refine HA.out.mono ?_
    rintro x w1 ⟨rfl, rfl⟩
    go_wp2_with fail
    refine HL.out.mono ?_
    rintro x w2 ⟨rfl, hf, hr, hk⟩
    have HF := hide hf
    have HR := hide hr
    have HK := hide hk
    clear hf hr hk
    go_wp2_with fail
    go_ret
    refine ⟨.slice (some ⟨w.heap.size, 0, none⟩) (min n.toNat (at0 P.L i).q.length) (min n.toNat (at0 P.L i).q.length), rfl, Or.inr ⟨_, ?_, Nat.le_refl _, HF.out⟩, Port.of (HS.out.ringTurn hi HK.out HR.out (by rw [List.length_drop]; omega)), KeptS.of_kept HK.out (HS.out.sr i hi).1 (HS.out.sr i hi).2⟩
    rw [List.length_take, show min (min n.toNat (at0 P.L i).q.length) (at0 P.L i).q.length = min n.toNat (at0 P.L i).q.length by omega]
theorem Port.grow {w w' : World} {S : Nat → Prop} {b : Nat} {P : Pt} (h : Port w' S b P) : Port w' (Ytjojhnkibgkleaa.grow S w w') b P := by
  obtain ⟨eb, gv, ov, R, G, h⟩ := h
  exact ⟨eb, gv, ov, R, G, h.grow⟩
theorem take_at {w : World} {S : Nat → Prop} {b eb : Nat} {gv ov : Value} {R G : Nat → Nat} {P : Pt} (h : IsPort w S b eb gv ov R G P) (e n : Int) : Calls Try.prog 14 #[.pointer (some ⟨b, 0, none⟩), .int .i64 e, .int .i64 n] w fun x w' => ∃ v, x = .returned v ∧ Mine w.heap.size w' v (takeL P e n) ∧ (Port w' (Ytjojhnkibgkleaa.grow S w w') b (takeP P e n) ∧ KeptS S w w') :=
  (take_tight h e n).mono fun x w' ⟨v, e1, e2, e3, e4⟩ => ⟨v, e1, e2, e3.grow, e4⟩
set_option maxRecDepth 100000 in
set_option maxHeartbeats 1000000 in
theorem accept_at {w : World} {S : Nat → Prop} {b eb : Nat} {gv ov : Value} {R G : Nat → Nat} {P : Pt} (h : IsPort w S b eb gv ov R G P) : Calls Try.prog 33 #[.pointer (some ⟨b, 0, none⟩)] w fun x w' => x = .returned (.tuple #[.int .i64 (accN P), .int .i64 (accC P)]) ∧ Port w' (Ytjojhnkibgkleaa.grow S w w') b (accP P) ∧ KeptS S w w' := by
  obtain ⟨h0, h1, h2, h3, h4⟩ := h.cells
  have hn := h.ok.n
  have HT := hide h
  have HM := hide (pMade_at b true w h0)
  have HROW := hide (fun i (hi : i < P.L.length) => h.row.at_ hi)
  have HFR := hide (fun o => h.row.frozen o)
  clear h
  go_enter Try.func33, Try.ntmps33
  go_wp2_with fail
  refine HM.out.mono ?_
  rintro x w1 ⟨rfl, rfl⟩
  go_wp2_with fail
  go_loop [14] (fun i => ∃ k : Nat, k ≤ P.L.length ∧ i = .int .i64 k ∧ Hid (∀ j, 0 ≤ j → j < k → (at0 P.L j).nw = false)) (fun i => P.L.length - (intOf i).toNat)
  case atStart => exact ⟨0, Nat.zero_le _, rfl, fun j _ hj => by omega⟩
  case round =>
    obtain ⟨k, hk, rfl, HJ⟩ := hrel
    by_cases hlt : k < P.L.length
    · obtain ⟨c0, c1, c2, c3, c4, c5⟩ := HROW.out k hlt
      have f3 := HFR.out (k * 6 + 3)
      cases hw : (at0 P.L k).nw
      · rw [hw] at c3
        have HW := hide hw
        clear hw
        go_wp2_with fail
        go_round
        case rel => exact ⟨k + 1, by omega, by go_num, fun j h0 hj => by
          by_cases e : j = k
          · subst e; exact HW.out
          · exact HJ.out j h0 (by omega)⟩
        case measure => simp [intOf]; omega
      · rw [hw] at c3
        have hN : nextA P = k := fnd_eq (by omega) (by omega) HJ.out (fun _ => hw)
        have HN := hide hN
        clear hw hN
        go_wp2_with fail
        go_ret2
        unfold accN accC accP
        rw [HN.out, if_pos hlt, if_pos hlt, if_pos hlt]
        have ho := HT.out.ok.e k
        have ht := HT.out.cellTurn hlt (j := 3) (by omega) (.bool false) { at0 P.L k with nw := false } rfl rfl ⟨ho.q, ho.s0, ho.s3, ho.r0, ho.r1⟩
        exact ⟨rfl, Port.of (IsPort.grow ht), (KeptS.refl S w).setCell HT.out.se _⟩
    · have hN : nextA P = P.L.length := fnd_eq (by omega) (by omega) (fun j h0 hj => HJ.out j h0 (by omega)) (fun hh => by omega)
      have HN := hide hN
      clear hN
      go_wp2_with fail
      go_ret2
      unfold accN accC accP
      rw [HN.out, if_neg (by omega), if_neg (by omega), if_neg (by omega)]
      exact ⟨rfl, HT.out.stay (Below.refl _ _)⟩

end Go.Proofs.Ytjojhnkibgkleaa
