/-
  first, count and least of package names, at the functions that are handed to them; conditions as each theorem has them.
-/
import Derived.Test.YtabkelhipmijfaaDoorVB
set_option linter.unusedSimpArgs false
set_option linter.unusedVariables false
namespace Go.Proofs.YtabkelhipmijfaaDoor.Nm
open Go.RowKit
theorem Row.below {w w' : World} {g : Nat} {L : List Sl} (h : Row w g L) (k : Below w.heap.size w w') : Row w' g L := (k.block g (lt_of_some h)).trans h
theorem cell_below {w w' : World} {a : Addr} {v : Value} (h : w.cell? a = some v) (k : Below w.heap.size w w') : w'.cell? a = some v := (k.cell (lt_of_cell h)).trans h
set_option maxRecDepth 100000 in
set_option maxHeartbeats 2000000 in
theorem first_at (g b N : Nat) (L : List Sl) (name : ByteArray) (w : World) (hN : L.length = N) (hr : Row w g L) (ho : okL L) (hm : N ≤ 4096) (hb : w.cell? ⟨b, 0, none⟩ = some (.string name)) :
    Calls Tryd.prog 26 #[.slice (some ⟨g, 0, none⟩) N N, .func (.func 35) #[] #[.pointer (some ⟨b, 0, none⟩)]] w fun e w' => e = .returned (.pointer (if fidx name L < N then some ⟨g, fidx name L * 67, none⟩ else none)) ∧ Below w.heap.size w w' := by
  have HR := hide hr
  have HO := hide ho
  have HB := hide hb
  have HN := hide hN
  clear hr ho hb hN
  obtain ⟨A, hA⟩ : ∃ A, A = (if fidx name L < N then some (⟨g, fidx name L * 67, none⟩ : Addr) else none) := ⟨_, rfl⟩
  rw [← hA]
  have HA := hide hA
  clear hA
  go_enter Tryd.func26, Tryd.ntmps26
  go_wp2_with fail
  go_loopw [8] (fun v wr => ∃ j : Nat, j ≤ N ∧ v = .int .i64 j ∧ Hid (Below w.heap.size w wr) ∧ Hid (∀ (k : Nat) (x : Sl), k < j → L[k]? = some x → x.name ≠ name)) (fun v _ => N - (intOf v).toNat)
  case atStart => exact ⟨0, Nat.zero_le _, rfl, Below.refl _ _, fun k x hk => by omega⟩
  case round =>
    obtain ⟨j, hj, rfl, HK, HX⟩ := hrel
    by_cases hjn : j < N
    · have hd : decide ((j : Int) < (N : Int)) = true := decide_eq_true (by omega)
      have hs : Hid (L[j]? = some (at0 L j)) := get_at0 (by rw [HN.out]; exact hjn)
      obtain ⟨c0, c1, c2⟩ := (HR.out.below HK.out).cells HO.out hs.out
      have HC := hide (c41_at g (j * 67) b (at0 L j).name name wr c0 (cell_below HB.out HK.out))
      clear c0 c1 c2
      by_cases hn : (at0 L j).name = name
      · have hf : fidx name L = j := fidx_eq hs.out hn HX.out
        have HA2 : Hid (A = some ⟨g, j * 67, none⟩) := by show _ = _; rw [HA.out, hf, if_pos hjn]
        rw [decide_eq_true hn] at HC
        clear hn hf
        go_wp2_with fail
        refine HC.out.mono ?_
        rintro e w1 ⟨rfl, k1⟩
        have K1 := hide (HK.out.trans (k1.mono HK.out.size))
        clear k1
        go_wp2_with fail
        go_ret
        exact ⟨by rw [HA2.out]; rfl, K1.out⟩
      · rw [decide_eq_false hn] at HC
        have HX2 : Hid (∀ (k : Nat) (x : Sl), k < j + 1 → L[k]? = some x → x.name ≠ name) := fun k x hk hx => by
          rcases Nat.lt_or_ge k j with h1 | h1
          · exact HX.out k x h1 hx
          · obtain rfl : k = j := by omega
            rw [hs.out] at hx
            simp at hx
            subst hx
            exact hn
        clear hn
        go_wp2_with fail
        refine HC.out.mono ?_
        rintro e w1 ⟨rfl, k1⟩
        have K1 := hide (HK.out.trans (k1.mono HK.out.size))
        clear k1
        go_wp2_with fail
        go_roundw
        case rel => exact ⟨j + 1, by omega, by go_num, K1, HX2⟩
        case measure => simp [intOf]; omega
    · have hd : decide ((j : Int) < (N : Int)) = false := decide_eq_false (by omega)
      have HA2 : Hid (A = none) := by
        show _ = _
        rw [HA.out, fidx_none (fun k x hx => HX.out k x (by have := (List.getElem?_eq_some_iff.1 hx).1; have := HN.out; omega) hx), HN.out, if_neg (by omega)]
      go_wp2_with fail
      go_ret
      exact ⟨by rw [HA2.out]; rfl, HK.out⟩
set_option maxRecDepth 100000 in
set_option maxHeartbeats 4000000 in
theorem least_at (g b c N : Nat) (L : List Sl) (now : Int) (name : ByteArray) (w : World) (hN : L.length = N) (hp : 0 < N) (hr : Row w g L) (ho : okL L) (hm : N ≤ 4096) (hb : w.cell? ⟨b, 0, none⟩ = some (.string name)) (hc : w.cell? ⟨c, 0, none⟩ = some (.int .i64 now)) :
    Calls Tryd.prog 39 #[.slice (some ⟨g, 0, none⟩) N N, .func (.func 44) #[] #[.pointer (some ⟨b, 0, none⟩), .pointer (some ⟨c, 0, none⟩)]] w fun e w' => e = .returned (.pointer (some ⟨g, place L now name * 67, none⟩)) ∧ Below w.heap.size w w' := by
  have HCL : Hid (∀ j, j < N → ∀ w' : World, Below w.heap.size w w' → Calls Tryd.prog 44 #[.pointer (some ⟨g, j * 67, none⟩), .pointer (some ⟨b, 0, none⟩), .pointer (some ⟨c, 0, none⟩)] w' fun e w'' => e = .returned (.int .i64 (rk L now name j)) ∧ Below w'.heap.size w' w'') := fun j hj w' k => by
    obtain ⟨c0, c1, c2⟩ := (hr.below k).cells ho (get_at0 (by rw [hN]; exact hj))
    exact c40_at g (j * 67) b c (at0 L j) name now w' c0 c1 (cell_below hb k) (cell_below hc k)
  have HP : Hid (place L now name = best (rk L now name) (N - 1)) := by show _ = _; unfold place; rw [hN]
  obtain ⟨R, hR⟩ : ∃ R, R = rk L now name := ⟨_, rfl⟩
  rw [← hR] at HCL HP
  obtain ⟨P, hP⟩ : ∃ P, P = place L now name := ⟨_, rfl⟩
  rw [← hP] at HP ⊢
  clear hr ho hb hc hN hR hP
  have hd0 : (((N : Nat) : Int) == 0) = false := by simp; omega
  have hd1 : decide (0 < (N : Int)) = true := decide_eq_true (by omega)
  have HC0 := hide (HCL.out 0 hp w (Below.refl _ _))
  rw [Nat.zero_mul] at HC0
  have HC0' : ∀ n, Calls Tryd.prog 44 #[.pointer (some ⟨g, 0, none⟩), .pointer (some ⟨b, 0, none⟩), .pointer (some ⟨c, 0, none⟩)] (w.drewN n) fun e w'' => e = .returned (.int .i64 (R 0)) ∧ Below w.heap.size w w'' := fun n => by
    have := HCL.out 0 hp (w.drewN n) (below_drewN (Below.refl _ _) n)
    rw [Nat.zero_mul] at this
    refine this.mono ?_
    rintro e w1 ⟨rfl, k1⟩
    exact ⟨rfl, (below_drewN (Below.refl _ _) n).trans k1⟩
  have HCZ := hide HC0'
  clear HC0'
  go_enter Tryd.func39, Tryd.ntmps39
  go_wp2_with fail
  go_region_with (go_at_call 44; refine (HCZ.out _).mono ?_; rintro e w1 ⟨rfl, k1⟩; have K1 := hide k1; clear k1)
  all_goals
    go_wp2_with fail
    go_loopw [5, 6, 7] (fun u v x wr => ∃ j p : Nat, 1 ≤ j ∧ j ≤ N ∧ p < j ∧ x = .int .i64 j ∧ u = .pointer (some ⟨g, p * 67, none⟩) ∧ v = .int .i64 (R p) ∧ Hid (Below w.heap.size w wr) ∧ Hid (p = best R (j - 1))) (fun _ _ x _ => N - (intOf x).toNat)
    case atStart => exact ⟨1, 0, by omega, by omega, by omega, rfl, by rw [Nat.zero_mul], rfl, by first | exact K1 | exact below_drewN K1.out _, rfl⟩
    case round =>
      obtain ⟨j, p, hj1, hj, hpj, rfl, rfl, rfl, HK, HX⟩ := hrel
      by_cases hjn : j < N
      · have hd : decide ((j : Int) < (N : Int)) = true := decide_eq_true (by omega)
        have HC := hide (HCL.out j hjn wr HK.out)
        obtain ⟨r, hr⟩ : ∃ r, r = R j := ⟨_, rfl⟩
        rw [← hr] at HC
        obtain ⟨q, hq⟩ : ∃ q, q = R p := ⟨_, rfl⟩
        rw [← hq]
        have HRj := hide hr
        have HRp := hide hq
        by_cases hlt : r < q
        · have HX2 : Hid (j = best R (j + 1 - 1)) := by
            show _ = _
            rw [show j + 1 - 1 = (j - 1) + 1 by omega]
            unfold best
            rw [show j - 1 + 1 = j by omega, ← HX.out, ← hr, ← hq, if_pos hlt]
          clear hr hq
          have hd2 : decide (r < q) = true := decide_eq_true hlt
          clear hlt
          go_wp2_with fail
          refine HC.out.mono ?_
          rintro e w1 ⟨rfl, k1⟩
          have K1 := hide (HK.out.trans (k1.mono HK.out.size))
          clear k1
          go_wp2_with fail
          go_roundw
          case rel => exact ⟨j + 1, j, by omega, by omega, by omega, by go_num, rfl, by rw [HRj.out], K1, HX2⟩
          case measure => simp [intOf]; omega
        · have HX2 : Hid (p = best R (j + 1 - 1)) := by
            show _ = _
            rw [show j + 1 - 1 = (j - 1) + 1 by omega]
            unfold best
            rw [show j - 1 + 1 = j by omega, ← HX.out, ← hr, ← hq, if_neg hlt]
          clear hr hq
          have hd2 : decide (r < q) = false := decide_eq_false hlt
          clear hlt
          go_wp2_with fail
          refine HC.out.mono ?_
          rintro e w1 ⟨rfl, k1⟩
          have K1 := hide (HK.out.trans (k1.mono HK.out.size))
          clear k1
          go_wp2_with fail
          go_roundw
          case rel => exact ⟨j + 1, p, by omega, by omega, by omega, by go_num, rfl, by rw [HRp.out], K1, HX2⟩
          case measure => simp [intOf]; omega
      · have hd : decide ((j : Int) < (N : Int)) = false := decide_eq_false (by omega)
        obtain rfl : j = N := by omega
        go_wp2_with fail
        go_ret
        exact ⟨by rw [HP.out, ← HX.out]; rfl, HK.out⟩
end Go.Proofs.YtabkelhipmijfaaDoor.Nm
