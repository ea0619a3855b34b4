/-
  Get of package names; conditions as each theorem has them.
-/
import Derived.Test.YtmolcipbopaniaaG
set_option linter.unusedSimpArgs false
set_option linter.unusedVariables false
namespace Go.Proofs.Ytmolcipbopaniaa
open Go.RowKit
theorem wrap_int (n : Int) (h1 : -9223372036854775808 ≤ n) (h2 : n ≤ 9223372036854775807) : IntKind.i64.wrap n = n := by rw [IntKind.wrap_i64]; omega
theorem first_box {r g N : Nat} {L : List Sl} {w : World} (h : IsTab w r g L) (hN : N = L.length) (name : ByteArray) (n : Nat) :
    Calls Try.prog 33 #[.slice (some ⟨g, 0, none⟩) N N, .func (.func 41) #[] #[.pointer (some ⟨w.heap.size, 0, none⟩)]] ((w.alloc (boxS name)).drewN n) fun e w' => e = .returned (.pointer (if fidx name L < N then some ⟨g, fidx name L * 67, none⟩ else none)) ∧ Below w.heap.size w w' := by
  have := first_at g w.heap.size N L name ((w.alloc (boxS name)).drewN n) hN.symm (h.alloc _).row h.ok (by rw [hN]; exact h.max) (box_cell (alloc_new w _))
  refine this.mono ?_
  rintro e w' ⟨rfl, k⟩
  exact ⟨rfl, (below_drewN ((Below.refl _ _).alloc (Nat.le_refl _) _) n).trans (k.mono (by simp))⟩
set_option maxRecDepth 100000 in
set_option maxHeartbeats 2000000 in
theorem get_at (r g : Nat) (L : List Sl) (now : Int) (name : ByteArray) (w : World) (h : IsTab w r g L) :
    Calls Try.prog 16 #[.pointer (some ⟨r, 0, none⟩), .int .i64 now, .string name] w fun e w' => ∃ v, e = .returned (.tuple #[v, .int .i64 (getT L now name), .int .i64 (getC L now name)]) ∧ OwnA w' w.heap.size v (getA L now name) ∧ Below w.heap.size w w' := by
  obtain ⟨c0, c1⟩ := h.cells
  obtain ⟨hlr, hlg⟩ := h.lt
  have HI := hide (isNow_at now w)
  have HM := hide (isMade_at r true _ c0)
  obtain ⟨N, hN⟩ : ∃ N, N = L.length := ⟨_, rfl⟩
  rw [← hN] at c1
  by_cases hb : badNow now
  · have hg0 : got L now name = none := by unfold got; rw [if_pos hb]
    rw [show getT L now name = 0 by simp [getT, hg0], show getA L now name = [] by simp [getA, hg0], show getC L now name = 2 by simp [getC, hb]]
    rw [show decide (¬ badNow now) = false by simp [hb]] at HI
    clear h hb c0 c1 hN hg0
    go_enter Try.func16, Try.ntmps16
    go_wp2_with fail
    refine HM.out.mono ?_
    rintro e w1 ⟨rfl, rfl⟩
    go_wp2_with fail
    refine HI.out.mono ?_
    rintro e w1 ⟨rfl, rfl⟩
    go_wp2_with fail
    first | go_ret3 | go_ret2 | go_ret
    exact ⟨_, rfl, OwnA.nil _ _, Below.refl _ _⟩
  rw [show decide (¬ badNow now) = true by simp [hb]] at HI
  have HF := hide (first_box h hN name)
  by_cases hf : fidx name L < N
  · rw [if_pos hf] at HF
    obtain ⟨s, hs⟩ : ∃ s, L[fidx name L]? = some s := ⟨_, get_at0 (by omega)⟩
    have hok := h.ok _ _ hs
    have hg0 : got L now name = if now < s.till then some s else none := by unfold got; rw [if_neg hb, hs]
    obtain ⟨P, hP⟩ : ∃ P, P = fidx name L := ⟨_, rfl⟩
    rw [← hP] at HF hs hf
    have h1 := hok.low
    have h2 := hok.top
    have hn1 : 0 ≤ now ∧ now ≤ 1099511627776 := by unfold badNow at hb; omega
    have HWr : Hid (IntKind.i64.wrap (s.till - now) = s.till - now) := wrap_int _ (by omega) (by omega)
    by_cases ht : now < s.till
    · rw [if_pos ht] at hg0
      rw [show getT L now name = s.till - now by simp [getT, hg0], show getA L now name = s.ads by simp [getA, hg0], show getC L now name = 0 by simp [getC, hg0, hb]]
      have HW : Hid (∀ w1 : World, Below w.heap.size w w1 → w1.cell? ⟨g, P * 67 + 1, none⟩ = some (.int .i64 s.till)) := fun w1 k => ((h.belowS k).row.cells h.ok hs).2.1
      have HH : Hid (∀ w1 : World, Below w.heap.size w w1 → Calls Try.prog 35 #[.pointer (some ⟨g, P * 67, none⟩), .int .i64 now] w1 fun e w' => e = .returned (.bool true) ∧ w1 = w') := fun w1 k => by
        have := holds_at g (P * 67) s.till now w1 ((h.belowS k).row.cells h.ok hs).2.1
        rwa [decide_eq_true ht] at this
      have HL : Hid (∀ w1 : World, Below w.heap.size w w1 → Calls Try.prog 36 #[.pointer (some ⟨g, P * 67, none⟩)] w1 fun e w' => ∃ v, e = .returned v ∧ OwnA w' w.heap.size v s.ads ∧ Below w1.heap.size w1 w') := fun w1 k => by
        have hr := (h.belowS k).row
        have := list_at g (P * 67) s.ads w1 hok.few hok.byte (hr.cells h.ok hs).2.2 (fun j u hu => by
          have hj := (List.getElem?_eq_some_iff.1 hu).1
          rw [adCs_len, pad_length hok.few] at hj
          have := hr.cell h.ok hs (j := j + 3) (by omega)
          rw [show P * 67 + 3 + j = P * 67 + (j + 3) by omega, this]
          exact hu)
        refine this.mono ?_
        rintro e w' ⟨v, rfl, ho, k2⟩
        refine ⟨v, rfl, ?_, k2⟩
        refine ⟨ho.1, ?_⟩
        rcases ho.2 with h0 | ⟨x, cap, cur, hv, hx, hh, hrest⟩
        · exact Or.inl h0
        · exact Or.inr ⟨x, cap, cur, hv, by have := k.size; omega, hh, hrest⟩
      clear h hb c0 hN hg0 hok hs hP hf ht
      go_enter Try.func16, Try.ntmps16
      go_wp2_with fail
      refine HM.out.mono ?_
      rintro e w1 ⟨rfl, rfl⟩
      go_wp2_with fail
      refine HI.out.mono ?_
      rintro e w1 ⟨rfl, rfl⟩
      go_wp2_with fail
      go_region_with (first | (go_at_call 34; refine (hasName_at name _).mono ?_; rintro e w1 ⟨rfl, rfl⟩) | (go_at_call 33; refine (HF.out _).mono ?_; rintro e w2 ⟨rfl, k2⟩; have K2 := hide k2; clear k2))
      all_goals
        go_wp2_with fail
        refine (HH.out _ (by first | exact K2.out | exact below_drewN K2.out _)).mono ?_
        rintro e w3 ⟨rfl, rfl⟩
        have hc2 := HW.out w2 K2.out
        go_wp2_with fail
        go_region_with (go_at_call 36; refine (HL.out _ (by first | exact K2.out | exact below_drewN K2.out _)).mono ?_; rintro e w4 ⟨v, rfl, ho, k4⟩; have K4 := hide ((show Below w.heap.size w _ by first | exact K2.out | exact below_drewN K2.out _).trans (k4.mono (by exact (show Below w.heap.size w _ by first | exact K2.out | exact below_drewN K2.out _).size))); have HO := hide ho; have hc4 := HW.out w4 K4.out; clear ho k4)
        all_goals
          go_wp2_with fail
          first | go_ret3 | go_ret2 | go_ret
          exact ⟨v, by rw [HWr.out]; rfl, by first | exact HO.out | exact HO.out.keep (fun _ _ => rfl), by first | exact K4.out | exact below_drewN K4.out _⟩
    · rw [if_neg ht] at hg0
      rw [show getT L now name = 0 by simp [getT, hg0], show getA L now name = [] by simp [getA, hg0], show getC L now name = 5 by simp [getC, hg0, hb]]
      have HH : Hid (∀ w1 : World, Below w.heap.size w w1 → Calls Try.prog 35 #[.pointer (some ⟨g, P * 67, none⟩), .int .i64 now] w1 fun e w' => e = .returned (.bool false) ∧ w1 = w') := fun w1 k => by
        have := holds_at g (P * 67) s.till now w1 ((h.belowS k).row.cells h.ok hs).2.1
        rwa [decide_eq_false ht] at this
      clear h hb c0 hN hg0 hok hs hP hf ht
      go_enter Try.func16, Try.ntmps16
      go_wp2_with fail
      refine HM.out.mono ?_
      rintro e w1 ⟨rfl, rfl⟩
      go_wp2_with fail
      refine HI.out.mono ?_
      rintro e w1 ⟨rfl, rfl⟩
      go_wp2_with fail
      go_region_with (first | (go_at_call 34; refine (hasName_at name _).mono ?_; rintro e w1 ⟨rfl, rfl⟩) | (go_at_call 33; refine (HF.out _).mono ?_; rintro e w2 ⟨rfl, k2⟩; have K2 := hide k2; clear k2))
      all_goals
        go_wp2_with fail
        refine (HH.out _ (by first | exact K2.out | exact below_drewN K2.out _)).mono ?_
        rintro e w3 ⟨rfl, rfl⟩
        go_wp2_with fail
        first | go_ret3 | go_ret2 | go_ret
        exact ⟨_, rfl, OwnA.nil _ _, by first | exact K2.out | exact below_drewN K2.out _⟩
  · rw [if_neg hf] at HF
    have hs : L[fidx name L]? = none := by rw [List.getElem?_eq_none_iff]; omega
    have hg0 : got L now name = none := by unfold got; rw [if_neg hb, hs]
    rw [show getT L now name = 0 by simp [getT, hg0], show getA L now name = [] by simp [getA, hg0], show getC L now name = 5 by simp [getC, hg0, hb]]
    clear h hb c0 hN hg0 hs hf
    go_enter Try.func16, Try.ntmps16
    go_wp2_with fail
    refine HM.out.mono ?_
    rintro e w1 ⟨rfl, rfl⟩
    go_wp2_with fail
    refine HI.out.mono ?_
    rintro e w1 ⟨rfl, rfl⟩
    go_wp2_with fail
    go_region_with (first | (go_at_call 34; refine (hasName_at name _).mono ?_; rintro e w1 ⟨rfl, rfl⟩) | (go_at_call 33; refine (HF.out _).mono ?_; rintro e w2 ⟨rfl, k2⟩; have K2 := hide k2; clear k2))
    all_goals
      go_wp2_with fail
      first | go_ret3 | go_ret2 | go_ret
      exact ⟨_, rfl, OwnA.nil _ _, by first | exact K2.out | exact below_drewN K2.out _⟩
end Go.Proofs.Ytmolcipbopaniaa
