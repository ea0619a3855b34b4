/-
  The small functions of package resolver; Whether no further question is to be looked at, and the first question of a sort; conditions as each theorem has them.
-/
import Derived.Test.YtabkelhipmijfaaDoorGA
import Derived.Test.YtabkelhipmijfaaDoorJoinedL
import Derived.Shelf.Abstract
import Derived.Deep.LoopGhost
set_option linter.unusedSimpArgs false
set_option linter.unusedVariables false
namespace Go.Proofs.YtabkelhipmijfaaDoor
open Go.RowKit

theorem isMade_at {w : World} {S : Nat → Prop} {r t g : Nat} {qv pv : Value} {V : List Value} {R : Rs} (h : IsRs w S r t g qv pv V R) : Calls Tryd.prog 12 #[.pointer (some ⟨r, 0, none⟩)] w fun e w' => e = .returned (.bool true) ∧ w = w' := by
  obtain ⟨c0, c1, c2, c3⟩ := h.cells
  clear h
  go_enter Tryd.func12, Tryd.ntmps12
  go_wp2
  go_ret
  exact ⟨rfl, rfl⟩
theorem isNow_at (now : Int) (w : World) : Calls Tryd.prog 13 #[.int .i64 now] w fun e w' => e = .returned (.bool (decide (nowOk now))) ∧ w = w' := by
  by_cases h1 : now < 0
  · rw [show decide (nowOk now) = false from decide_eq_false (by unfold nowOk; omega)]
    have d1 : decide (now ≥ 0) = false := decide_eq_false (by omega)
    have d1' : decide (0 ≤ now) = false := decide_eq_false (by omega)
    go_enter Tryd.func13, Tryd.ntmps13
    go_wp2
    go_ret
    exact ⟨rfl, rfl⟩
  · have d1 : decide (now ≥ 0) = true := decide_eq_true (by omega)
    have d1' : decide (0 ≤ now) = true := decide_eq_true (by omega)
    by_cases h2 : now ≤ 1099510579200
    · rw [show decide (nowOk now) = true from decide_eq_true (by unfold nowOk; omega)]
      go_enter Tryd.func13, Tryd.ntmps13
      go_wp2
      go_ret
      exact ⟨rfl, rfl⟩
    · rw [show decide (nowOk now) = false from decide_eq_false (by unfold nowOk; omega)]
      have d2 : decide (now ≤ 1099510579200) = false := decide_eq_false h2
      go_enter Tryd.func13, Tryd.ntmps13
      go_wp2
      go_ret
      exact ⟨rfl, rfl⟩
theorem putQr_code (id : Int) (n : List Nat) : (putQr id n).2 = if qry id n = true then 0 else 2 := by
  unfold putQr
  split <;> rfl
theorem isName_at (t : ByteArray) (w : World) (ht : t.size ≤ maxLen) (hV : Vars w) : Calls Tryd.prog 14 #[.string t] w fun e w' => e = .returned (.bool (nameOk t)) ∧ Below w.heap.size w w' := by
  have HP := hide (pputQuestion_at 0 t w ht hV)
  have hc := putQr_code 0 (byt t)
  unfold nameOk
  obtain ⟨C, hC⟩ : ∃ C : Nat, C = (putQr 0 (byt t)).2 := ⟨_, rfl⟩
  rw [← hC] at hc
  have HC := hide hC
  clear hV hC
  cases hq : qry 0 (byt t)
  · rw [hq] at hc
    rw [if_neg (by simp)] at hc
    have e1 : ((C : Int) == 0) = false := by rw [hc]; rfl
    clear hq hc
    go_enter Tryd.func14, Tryd.ntmps14
    go_wp2_with fail
    refine HP.out.mono ?_
    rintro e w1 ⟨v, rfl, o, b, k⟩
    rw [← HC.out]
    have K := hide k
    clear o b k
    go_wp2_with fail
    go_ret
    exact ⟨rfl, K.out⟩
  · rw [hq] at hc
    rw [if_pos rfl] at hc
    have e1 : ((C : Int) == 0) = true := by rw [hc]; rfl
    clear hq hc
    go_enter Tryd.func14, Tryd.ntmps14
    go_wp2_with fail
    refine HP.out.mono ?_
    rintro e w1 ⟨v, rfl, o, b, k⟩
    rw [← HC.out]
    have K := hide k
    clear o b k
    go_wp2_with fail
    go_ret
    exact ⟨rfl, K.out⟩
theorem qbox_below (q : Qn) (w : World) : Below w.heap.size w (w.alloc (.cells (qC q).toArray 54)) := (Below.refl _ _).alloc (Nat.le_refl _) _
theorem eq_ba (a b : ByteArray) : (a.toList == b.toList) = decide (a = b) := Nm.eq_ba a b
theorem isNameOf_at (t : ByteArray) (q : Qn) (w : World) : Calls Tryd.prog 17 #[.string t, .agg (qC q).toArray] w fun e w' => e = .returned (.bool (hasN t q)) ∧ Below w.heap.size w w' := by
  have HB := hide (qbox_below q w)
  have he : (t.toList == q.nm.toList) = hasN t q := by rw [eq_ba]; unfold hasN; exact decide_eq_decide.2 eq_comm
  obtain ⟨R, hR⟩ : ∃ R, R = hasN t q := ⟨_, rfl⟩
  rw [← hR] at he ⊢
  clear hR
  obtain ⟨id, nm, sent, again⟩ := q
  unfold qC at HB ⊢
  go_enter Tryd.func17, Tryd.ntmps17
  go_wp2
  go_ret
  exact ⟨rfl, HB.out⟩
theorem isTimeOf_at (now : Int) (q : Qn) (w : World) : Calls Tryd.prog 21 #[.int .i64 now, .agg (qC q).toArray] w fun e w' => e = .returned (.bool (isT now q)) ∧ Below w.heap.size w w' := by
  have HB := hide (qbox_below q w)
  obtain ⟨R, hR⟩ : ∃ R, R = isT now q := ⟨_, rfl⟩
  rw [← hR]
  obtain ⟨id, nm, sent, again⟩ := q
  have he : decide (again ≤ now) = R := hR.symm
  unfold qC at HB ⊢
  clear hR
  go_enter Tryd.func21, Tryd.ntmps21
  go_wp2
  go_ret
  exact ⟨rfl, HB.out⟩

end Go.Proofs.YtabkelhipmijfaaDoor

set_option linter.unusedSimpArgs false
set_option linter.unusedVariables false
namespace Go.Proofs.YtabkelhipmijfaaDoor
open Go.RowKit

set_option maxRecDepth 100000 in
set_option maxHeartbeats 2000000 in
/-- slices.IndexFunc over questions, with a method value. -/
theorem indexFunc_at (f : Nat) (rv : Value) (p : Qn → Bool) (v : Value) (L : List Qn) (w : World) (hq : OwnQ w v L) (hm : L.length ≤ 64)
    (hf : ∀ args w, (callFunc f args).run Tryd.prog w = .ok (.enter f args) w)
    (HP : ∀ (W : World) (q : Qn), Below w.heap.size w W → Calls Tryd.prog f #[rv, .agg (qC q).toArray] W fun e w' => e = .returned (.bool (p q)) ∧ Below W.heap.size W w') :
    Calls Tryd.prog 20 #[v, .func (.func f) #[rv] #[]] w fun e w' => e = .returned (.int .i64 (fndI p L)) ∧ Below w.heap.size w w' := by
  have HQ := hide hq
  have HPP := hide HP
  obtain ⟨a, c, rfl⟩ := own_shape hq
  obtain ⟨N, hN⟩ : ∃ N, N = L.length := ⟨_, rfl⟩
  rw [← hN] at hm ⊢
  have HN := hide hN
  obtain ⟨R, hR⟩ : ∃ R : Int, R = fndI p L := ⟨_, rfl⟩
  rw [← hR]
  have HR := hide hR
  clear hq hN hR HP
  go_enter Tryd.func20, Tryd.ntmps20
  go_wp2_with fail
  go_loopw [8] (fun v wr => ∃ j : Nat, j ≤ N ∧ v = .int .i64 j ∧ Hid (Below w.heap.size w wr) ∧ Hid (∀ k, k < j → p (qAt L k) = false)) (fun v _ => N - (intOf v).toNat)
  case atStart => exact ⟨0, Nat.zero_le _, rfl, Below.refl _ _, fun k hk => by omega⟩
  case round =>
    obtain ⟨j, hj, rfl, HK, HX⟩ := hrel
    by_cases hjn : j < N
    · have hd : decide ((j : Int) < (N : Int)) = true := decide_eq_true (by omega)
      have hjl : j < L.length := by have := HN.out; omega
      have hown : OwnQ wr (.slice a L.length c) L := own_keep HQ.out (fun g hg => by
        obtain ⟨cur, hc⟩ := own_block HQ.out hg
        exact HK.out.block g (Nm.lt_of_some hc))
      obtain ⟨b, c', e, eb, hc1, hc2, _, dd⟩ := own_q hown hjl
      simp only [Value.slice.injEq] at e
      obtain ⟨ea, _, ec⟩ := e
      subst ea
      have d0 := dd 0 (by omega)
      have d1 := dd 1 (by omega)
      have d2 := dd 2 (by omega)
      have d3 := dd 3 (by omega)
      rw [Nat.add_zero] at d0
      have hcb : N ≤ c ∧ c ≤ 9223372036854775807 := by have := HN.out; unfold maxLen at hc2; omega
      have HA := hide (fun W k => HPP.out W (qAt L j) k)
      obtain ⟨b1, hb1⟩ : ∃ b1, b1 = p (qAt L j) := ⟨_, rfl⟩
      have HB1 := hide hb1
      rw [← hb1] at HA
      generalize qAt L j = q at d0 d1 d2 d3 HA
      obtain ⟨id, nm, sent, again⟩ := q
      simp only [qC] at d0 d1 d2 d3 HA
      clear dd hown eb hc1 hc2 hb1 ec
      cases b1 with
      | true =>
        have HR2 : Hid (R = (j : Nat)) := by
          have hfe := fnd_eq hjl HB1.out.symm HX.out
          exact HR.out.trans (by unfold fndI; rw [hfe, if_pos hjl])
        go_wp2_with fail
        refine (HA.out _ HK.out).mono ?_
        rintro e w1 ⟨rfl, k1⟩
        have K1 := hide (HK.out.trans (k1.mono HK.out.size))
        clear k1
        go_wp2_with fail
        go_ret
        exact ⟨by rw [HR2.out]; rfl, K1.out⟩
      | false =>
        have HX2 : Hid (∀ k, k < j + 1 → p (qAt L k) = false) := fun k hk => by
          rcases Nat.lt_or_ge k j with h1 | h1
          · exact HX.out k h1
          · obtain rfl : k = j := by omega
            exact HB1.out.symm
        go_wp2_with fail
        refine (HA.out _ HK.out).mono ?_
        rintro e w1 ⟨rfl, k1⟩
        have K1 := hide (HK.out.trans (k1.mono HK.out.size))
        clear k1
        go_wp2_with fail
        go_roundw
        case rel => exact ⟨j + 1, by omega, by go_num, K1, HX2⟩
        case measure => simp [intOf]; omega
    · have hd : decide ((j : Int) < (N : Int)) = false := decide_eq_false (by omega)
      have HR2 : Hid (R = -1) := HR.out.trans (by unfold fndI; rw [fnd_none (fun k hk => HX.out k (by have := HN.out; omega)), if_neg (by omega)])
      go_wp2_with fail
      go_ret
      exact ⟨by rw [HR2.out]; rfl, HK.out⟩
theorem containsFunc_at (f : Nat) (rv : Value) (p : Qn → Bool) (v : Value) (L : List Qn) (w : World) (hq : OwnQ w v L) (hm : L.length ≤ 64)
    (hf : ∀ args w, (callFunc f args).run Tryd.prog w = .ok (.enter f args) w)
    (HP : ∀ (W : World) (q : Qn), Below w.heap.size w W → Calls Tryd.prog f #[rv, .agg (qC q).toArray] W fun e w' => e = .returned (.bool (p q)) ∧ Below W.heap.size W w') :
    Calls Tryd.prog 16 #[v, .func (.func f) #[rv] #[]] w fun e w' => e = .returned (.bool (decide (fnd p L < L.length))) ∧ Below w.heap.size w w' := by
  have HI := hide (indexFunc_at f rv p v L w hq hm hf HP)
  obtain ⟨a, c, rfl⟩ := own_shape hq
  have hle := fnd_le p L
  unfold fndI at HI
  by_cases h : fnd p L < L.length
  · rw [if_pos h] at HI
    rw [decide_eq_true h]
    obtain ⟨j, hj⟩ : ∃ j, j = fnd p L := ⟨_, rfl⟩
    rw [← hj] at HI
    have d : decide ((j : Int) ≥ 0) = true := by simp
    clear hq hf HP h hj hle
    go_enter Tryd.func16, Tryd.ntmps16
    go_wp2_with fail
    refine HI.out.mono ?_
    rintro e w1 ⟨rfl, k1⟩
    have K1 := hide k1
    clear k1
    go_wp2_with fail
    go_ret
    exact ⟨rfl, K1.out⟩
  · rw [if_neg h] at HI
    rw [decide_eq_false h]
    clear hq hf HP h hle
    go_enter Tryd.func16, Tryd.ntmps16
    go_wp2_with fail
    refine HI.out.mono ?_
    rintro e w1 ⟨rfl, k1⟩
    have K1 := hide k1
    clear k1
    go_wp2_with fail
    go_ret
    exact ⟨rfl, K1.out⟩

end Go.Proofs.YtabkelhipmijfaaDoor
