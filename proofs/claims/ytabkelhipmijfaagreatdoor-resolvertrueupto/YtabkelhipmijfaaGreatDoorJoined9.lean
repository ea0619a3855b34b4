/-
  Get of package names; drop of package names; conditions as each theorem has them.
-/
import Derived.Test.YtabkelhipmijfaaGreatDoorJoined8
set_option linter.unusedSimpArgs false
set_option linter.unusedVariables false
namespace Go.Proofs.YtabkelhipmijfaaGreatDoor.Nm
open Go.RowKit
theorem wrap_int (n : Int) (h1 : -9223372036854775808 ≤ n) (h2 : n ≤ 9223372036854775807) : IntKind.i64.wrap n = n := by rw [IntKind.wrap_i64]; omega
theorem first_box {r g N : Nat} {L : List Sl} {w : World} (h : IsTab w r g L) (hN : N = L.length) (name : ByteArray) (n : Nat) :
    Calls Tryz.prog 60 #[.slice (some ⟨g, 0, none⟩) N N, .func (.func 87) #[] #[.pointer (some ⟨w.heap.size, 0, none⟩)]] ((w.alloc (boxS name)).drewN n) fun e w' => e = .returned (.pointer (if fidx name L < N then some ⟨g, fidx name L * 67, none⟩ else none)) ∧ Below w.heap.size w w' := by
  have := first_at g w.heap.size N L name ((w.alloc (boxS name)).drewN n) hN.symm (h.alloc _).row h.ok (by rw [hN]; exact h.max) (box_cell (alloc_new w _))
  refine this.mono ?_
  rintro e w' ⟨rfl, k⟩
  exact ⟨rfl, (below_drewN ((Below.refl _ _).alloc (Nat.le_refl _) _) n).trans (k.mono (by simp))⟩
set_option maxRecDepth 100000 in
set_option maxHeartbeats 2000000 in
theorem get_at (r g : Nat) (L : List Sl) (now : Int) (name : ByteArray) (w : World) (h : IsTab w r g L) :
    Calls Tryz.prog 33 #[.pointer (some ⟨r, 0, none⟩), .int .i64 now, .string name] w fun e w' => ∃ v, e = .returned (.tuple #[v, .int .i64 (getT L now name), .int .i64 (getC L now name)]) ∧ OwnA w' w.heap.size v (getA L now name) ∧ Below w.heap.size w w' := by
  obtain ⟨c0, c1⟩ := h.cells
  obtain ⟨hlr, hlg⟩ := h.lt
  have HI := hide (isNow_at now w)
  have HM := hide (isMade_at r true _ c0)
  obtain ⟨N, hN⟩ : ∃ N, N = L.length := ⟨_, rfl⟩
  rw [← hN] at c1
  by_cases hb : badNow now
  · have hg0 : got L now name = none := by unfold got; rw [if_pos hb]
    rw [show getT L now name = 0 by simp [getT, hg0], show getA L now name = [] by simp [getA, hg0], show getC L now name = 2 by simp [getC, hb]]
    rw [show decide (¬ badNow now) = false by simp [hb]] at HI
    clear h hb c0 c1 hN hg0
    go_enter Tryz.func33, Tryz.ntmps33
    go_wp2_with fail
    refine HM.out.mono ?_
    rintro e w1 ⟨rfl, rfl⟩
    go_wp2_with fail
    refine HI.out.mono ?_
    rintro e w1 ⟨rfl, rfl⟩
    go_wp2_with fail
    first | go_ret3 | go_ret2 | go_ret
    exact ⟨_, rfl, OwnA.nil _ _, Below.refl _ _⟩
  rw [show decide (¬ badNow now) = true by simp [hb]] at HI
  have HF := hide (first_box h hN name)
  by_cases hf : fidx name L < N
  · rw [if_pos hf] at HF
    obtain ⟨s, hs⟩ : ∃ s, L[fidx name L]? = some s := ⟨_, get_at0 (by omega)⟩
    have hok := h.ok _ _ hs
    have hg0 : got L now name = if now < s.till then some s else none := by unfold got; rw [if_neg hb, hs]
    obtain ⟨P, hP⟩ : ∃ P, P = fidx name L := ⟨_, rfl⟩
    rw [← hP] at HF hs hf
    have h1 := hok.low
    have h2 := hok.top
    have hn1 : 0 ≤ now ∧ now ≤ 1099511627776 := by unfold badNow at hb; omega
    have HWr : Hid (IntKind.i64.wrap (s.till - now) = s.till - now) := wrap_int _ (by omega) (by omega)
    by_cases ht : now < s.till
    · rw [if_pos ht] at hg0
      rw [show getT L now name = s.till - now by simp [getT, hg0], show getA L now name = s.ads by simp [getA, hg0], show getC L now name = 0 by simp [getC, hg0, hb]]
      have HW : Hid (∀ w1 : World, Below w.heap.size w w1 → w1.cell? ⟨g, P * 67 + 1, none⟩ = some (.int .i64 s.till)) := fun w1 k => ((h.belowS k).row.cells h.ok hs).2.1
      have HH : Hid (∀ w1 : World, Below w.heap.size w w1 → Calls Tryz.prog 62 #[.pointer (some ⟨g, P * 67, none⟩), .int .i64 now] w1 fun e w' => e = .returned (.bool true) ∧ w1 = w') := fun w1 k => by
        have := holds_at g (P * 67) s.till now w1 ((h.belowS k).row.cells h.ok hs).2.1
        rwa [decide_eq_true ht] at this
      have HL : Hid (∀ w1 : World, Below w.heap.size w w1 → Calls Tryz.prog 63 #[.pointer (some ⟨g, P * 67, none⟩)] w1 fun e w' => ∃ v, e = .returned v ∧ OwnA w' w.heap.size v s.ads ∧ Below w1.heap.size w1 w') := fun w1 k => by
        have hr := (h.belowS k).row
        have := list_at g (P * 67) s.ads w1 hok.few hok.byte (hr.cells h.ok hs).2.2 (fun j u hu => by
          have hj := (List.getElem?_eq_some_iff.1 hu).1
          rw [adCs_len, pad_length hok.few] at hj
          have := hr.cell h.ok hs (j := j + 3) (by omega)
          rw [show P * 67 + 3 + j = P * 67 + (j + 3) by omega, this]
          exact hu)
        refine this.mono ?_
        rintro e w' ⟨v, rfl, ho, k2⟩
        refine ⟨v, rfl, ?_, k2⟩
        refine ⟨ho.1, ?_⟩
        rcases ho.2 with h0 | ⟨x, cap, cur, hv, hx, hh, hrest⟩
        · exact Or.inl h0
        · exact Or.inr ⟨x, cap, cur, hv, by have := k.size; omega, hh, hrest⟩
      clear h hb c0 hN hg0 hok hs hP hf ht
      go_enter Tryz.func33, Tryz.ntmps33
      go_wp2_with fail
      refine HM.out.mono ?_
      rintro e w1 ⟨rfl, rfl⟩
      go_wp2_with fail
      refine HI.out.mono ?_
      rintro e w1 ⟨rfl, rfl⟩
      go_wp2_with fail
      go_region_with (first | (go_at_call 61; refine (hasName_at name _).mono ?_; rintro e w1 ⟨rfl, rfl⟩) | (go_at_call 60; refine (HF.out _).mono ?_; rintro e w2 ⟨rfl, k2⟩; have K2 := hide k2; clear k2))
      all_goals
        go_wp2_with fail
        refine (HH.out _ (by first | exact K2.out | exact below_drewN K2.out _)).mono ?_
        rintro e w3 ⟨rfl, rfl⟩
        have hc2 := HW.out w2 K2.out
        go_wp2_with fail
        go_region_with (go_at_call 63; refine (HL.out _ (by first | exact K2.out | exact below_drewN K2.out _)).mono ?_; rintro e w4 ⟨v, rfl, ho, k4⟩; have K4 := hide ((show Below w.heap.size w _ by first | exact K2.out | exact below_drewN K2.out _).trans (k4.mono (by exact (show Below w.heap.size w _ by first | exact K2.out | exact below_drewN K2.out _).size))); have HO := hide ho; have hc4 := HW.out w4 K4.out; clear ho k4)
        all_goals
          go_wp2_with fail
          first | go_ret3 | go_ret2 | go_ret
          exact ⟨v, by rw [HWr.out]; rfl, by first | exact HO.out | exact HO.out.keep (fun _ _ => rfl), by first | exact K4.out | exact below_drewN K4.out _⟩
    · rw [if_neg ht] at hg0
      rw [show getT L now name = 0 by simp [getT, hg0], show getA L now name = [] by simp [getA, hg0], show getC L now name = 5 by simp [getC, hg0, hb]]
      have HH : Hid (∀ w1 : World, Below w.heap.size w w1 → Calls Tryz.prog 62 #[.pointer (some ⟨g, P * 67, none⟩), .int .i64 now] w1 fun e w' => e = .returned (.bool false) ∧ w1 = w') := fun w1 k => by
        have := holds_at g (P * 67) s.till now w1 ((h.belowS k).row.cells h.ok hs).2.1
        rwa [decide_eq_false ht] at this
      clear h hb c0 hN hg0 hok hs hP hf ht
      go_enter Tryz.func33, Tryz.ntmps33
      go_wp2_with fail
      refine HM.out.mono ?_
      rintro e w1 ⟨rfl, rfl⟩
      go_wp2_with fail
      refine HI.out.mono ?_
      rintro e w1 ⟨rfl, rfl⟩
      go_wp2_with fail
      go_region_with (first | (go_at_call 61; refine (hasName_at name _).mono ?_; rintro e w1 ⟨rfl, rfl⟩) | (go_at_call 60; refine (HF.out _).mono ?_; rintro e w2 ⟨rfl, k2⟩; have K2 := hide k2; clear k2))
      all_goals
        go_wp2_with fail
        refine (HH.out _ (by first | exact K2.out | exact below_drewN K2.out _)).mono ?_
        rintro e w3 ⟨rfl, rfl⟩
        go_wp2_with fail
        first | go_ret3 | go_ret2 | go_ret
        exact ⟨_, rfl, OwnA.nil _ _, by first | exact K2.out | exact below_drewN K2.out _⟩
  · rw [if_neg hf] at HF
    have hs : L[fidx name L]? = none := by rw [List.getElem?_eq_none_iff]; omega
    have hg0 : got L now name = none := by unfold got; rw [if_neg hb, hs]
    rw [show getT L now name = 0 by simp [getT, hg0], show getA L now name = [] by simp [getA, hg0], show getC L now name = 5 by simp [getC, hg0, hb]]
    clear h hb c0 hN hg0 hs hf
    go_enter Tryz.func33, Tryz.ntmps33
    go_wp2_with fail
    refine HM.out.mono ?_
    rintro e w1 ⟨rfl, rfl⟩
    go_wp2_with fail
    refine HI.out.mono ?_
    rintro e w1 ⟨rfl, rfl⟩
    go_wp2_with fail
    go_region_with (first | (go_at_call 61; refine (hasName_at name _).mono ?_; rintro e w1 ⟨rfl, rfl⟩) | (go_at_call 60; refine (HF.out _).mono ?_; rintro e w2 ⟨rfl, k2⟩; have K2 := hide k2; clear k2))
    all_goals
      go_wp2_with fail
      first | go_ret3 | go_ret2 | go_ret
      exact ⟨_, rfl, OwnA.nil _ _, by first | exact K2.out | exact below_drewN K2.out _⟩
end Go.Proofs.YtabkelhipmijfaaGreatDoor.Nm

set_option linter.unusedSimpArgs false
set_option linter.unusedVariables false
namespace Go.Proofs.YtabkelhipmijfaaGreatDoor.Nm
open Go.RowKit
theorem run_storeVar_slot {w : World} {g i : Nat} {L : List Sl} {x : Sl} (hr : Row w g L) (ho : okL L) (hi : i < L.length) (hx : x.Ok) : (storeVar 125 ⟨g, i * 67, none⟩ (.agg (slC x).toArray)).run Tryz.prog w = .ok () (w.setRow g (flat (L.set i x)).toArray) := by
  have hf := flat_length ho
  have hst := run_storeCells_at Tryz.prog g (i * 67) 125 (slC x) 0 (flat L).toArray w hr (by rw [slC_length hx]; simp [hf]; omega) (slC_one x)
  obtain ⟨inf, hinf, hz⟩ := Option.map_eq_some_iff.1 info64
  rw [Nat.add_zero, List.toList_toArray, slC_length hx, flat_set ho hi hx] at hst
  have hl := slC_length hx
  simp [storeVar, sizeOf, typeInfo, hinf, hz, Value.cells, hl, hst]
theorem built64z : Tryz.prog.built 125 [] = some (slC zeroS).toArray := by kernel_rfl
theorem wpList_build64z {ops : Array Oper} {rest : List Oper} {o : Oper} {a : Act} {w : World} {Q : Exit → Act → World → Prop} (hg : o.guard = none) (ho : o.op = .build 125 #[]) {Z : Array Value} (hb : Z = (slC zeroS).toArray)
    (h : wpList Tryz.prog ops Q rest (a.put o.dst (.agg Z)) w) : wpList Tryz.prog ops Q (o :: rest) a w := by
  have e : Tryz.prog.built 125 ((#[] : Array (Nat × Operand)).map fun (i, x) => (i, a.eval x)).toList = some Z := by
    rw [hb, ← built64z]; simp
  refine wpList_build hg 125 _ ho (by rw [e]; rfl) ?_
  rw [e]
  exact h
theorem wpList_store_slot {ops : Array Oper} {rest : List Oper} {op : Oper} {a : Act} {w : World} {Q : Exit → Act → World → Prop} (hgd : op.guard = none) (p v : Operand) (ho : op.op = .store 125 p v)
    {L : List Sl} {g i : Nat} {x : Sl} (hp : a.eval p = .pointer (some ⟨g, i * 67, none⟩)) {X : Array Value} (hv : a.eval v = .agg X) (hX : X = (slC x).toArray) (hr : Row w g L) (hok : okL L) (hi : i < L.length) (hx : x.Ok)
    (h : wpList Tryz.prog ops Q rest (a.put op.dst undef) (w.setRow g (flat (L.set i x)).toArray)) : wpList Tryz.prog ops Q (op :: rest) a w := by
  subst hX
  refine wpList_plain hgd fun K hK => ?_
  unfold Oper.wp execOp
  simp only [ho, hp, hv, Instr.storeAt, Instr.sureAddr, Sem.run_bind, Sem.run_pure, Result.andThen_ok, run_storeVar_slot hr hok hi hx]
  exact hK _ _ h
theorem Kept.row {g : Nat} {w w' : World} (k : Below w.heap.size w w') (cs : Array Value) : Kept g g w (w'.setRow g cs) := (Kept.of_below k).setRow (Or.inl rfl) cs
set_option maxRecDepth 100000 in
set_option maxHeartbeats 2000000 in
theorem drop_at (r g : Nat) (L : List Sl) (name : ByteArray) (w : World) (h : IsTab w r g L) :
    Calls Tryz.prog 92 #[.pointer (some ⟨r, 0, none⟩), .string name] w fun e w' => e = .returned (.tuple #[]) ∧ IsTab w' r g (L.set (fidx name L) zeroS) ∧ Kept g g w w' := by
  obtain ⟨c0, c1⟩ := h.cells
  obtain ⟨hlr, hlg⟩ := h.lt
  obtain ⟨N, hN⟩ : ∃ N, N = L.length := ⟨_, rfl⟩
  rw [← hN] at c1
  have HF := hide (first_box h hN name)
  have H := hide h
  by_cases hf : fidx name L < N
  · rw [if_pos hf] at HF
    obtain ⟨P, hP⟩ : ∃ P, P = fidx name L := ⟨_, rfl⟩
    rw [← hP] at HF hf ⊢
    have HL : Hid (P < L.length) := by show P < L.length; rw [← hN]; exact hf
    obtain ⟨Z, hZ⟩ : ∃ Z, Z = (slC zeroS).toArray := ⟨_, rfl⟩
    have HZ := hide hZ
    clear hZ
    clear h c0 hN hf hP
    go_enter Tryz.func92, Tryz.ntmps92
    go_wp2_with fail
    go_region_with (first | (go_at_call 61; refine (hasName_at name _).mono ?_; rintro e w1 ⟨rfl, rfl⟩) | (go_at_call 60; refine (HF.out _).mono ?_; rintro e w2 ⟨rfl, k2⟩; have K2 := hide k2; clear k2))
    all_goals
      have HB2 : Hid (Below w.heap.size w _) := K2
      go_wp2_with (first
        | (refine wpList_build64z rfl rfl HZ.out ?_)
        | (refine wpList_store_slot rfl _ _ rfl (L := L) (i := P) (x := zeroS) rfl rfl HZ.out (H.out.row.below (by first | exact K2.out | exact below_drewN K2.out _)) H.out.ok HL.out zeroS_ok ?_))
      first | go_end0 | go_ret | refine bodyPost_ret (results_none rfl _ _ _) rfl ?_
      have k3 : Below w.heap.size w w2 := K2.out
      have hrow := H.out.row.below k3
      refine ⟨rfl, (H.out.belowS k3).put P zeroS_ok (by first | exact setRow_other _ _ _ _ H.out.ne | exact setRow_other (World.drewN _ _) _ _ _ H.out.ne) (by first | exact Go.setRow_heap _ _ _ _ 125 (0, 0) hrow | exact Go.setRow_heap (World.drewN _ _) _ _ _ 125 (0, 0) hrow), by first | exact Kept.row k3 _ | exact Kept.row (below_drewN k3 _) _⟩
  · rw [if_neg hf] at HF
    have HE : Hid (L.set (fidx name L) zeroS = L) := List.set_eq_of_length_le (by omega)
    clear h c0 hN hf
    go_enter Tryz.func92, Tryz.ntmps92
    go_wp2_with fail
    go_region_with (first | (go_at_call 61; refine (hasName_at name _).mono ?_; rintro e w1 ⟨rfl, rfl⟩) | (go_at_call 60; refine (HF.out _).mono ?_; rintro e w2 ⟨rfl, k2⟩; have K2 := hide k2; clear k2))
    all_goals
      go_wp2_with fail
      first | go_end0 | go_ret | refine bodyPost_ret (results_none rfl _ _ _) rfl ?_
      rw [HE.out]
      have k3 : Below w.heap.size w w2 := K2.out
      exact ⟨rfl, by first | exact H.out.belowS k3 | exact H.out.belowS (below_drewN k3 _), by first | exact Kept.of_below k3 | exact Kept.of_below (below_drewN k3 _)⟩
end Go.Proofs.YtabkelhipmijfaaGreatDoor.Nm
