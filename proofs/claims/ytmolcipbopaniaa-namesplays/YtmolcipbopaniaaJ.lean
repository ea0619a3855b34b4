/-
  drop of package names; conditions as each theorem has them.
-/
import Derived.Test.YtmolcipbopaniaaH
set_option linter.unusedSimpArgs false
set_option linter.unusedVariables false
namespace Go.Proofs.Ytmolcipbopaniaa
open Go.RowKit
theorem run_storeVar_slot {w : World} {g i : Nat} {L : List Sl} {x : Sl} (hr : Row w g L) (ho : okL L) (hi : i < L.length) (hx : x.Ok) : (storeVar 64 ⟨g, i * 67, none⟩ (.agg (slC x).toArray)).run Try.prog w = .ok () (w.setRow g (flat (L.set i x)).toArray) := by
  have hf := flat_length ho
  have hst := run_storeCells_at Try.prog g (i * 67) 64 (slC x) 0 (flat L).toArray w hr (by rw [slC_length hx]; simp [hf]; omega) (slC_one x)
  obtain ⟨inf, hinf, hz⟩ := Option.map_eq_some_iff.1 info64
  rw [Nat.add_zero, List.toList_toArray, slC_length hx, flat_set ho hi hx] at hst
  have hl := slC_length hx
  simp [storeVar, sizeOf, typeInfo, hinf, hz, Value.cells, hl, hst]
theorem built64z : Try.prog.built 64 [] = some (slC zeroS).toArray := by kernel_rfl
theorem wpList_build64z {ops : Array Oper} {rest : List Oper} {o : Oper} {a : Act} {w : World} {Q : Exit → Act → World → Prop} (hg : o.guard = none) (ho : o.op = .build 64 #[]) {Z : Array Value} (hb : Z = (slC zeroS).toArray)
    (h : wpList Try.prog ops Q rest (a.put o.dst (.agg Z)) w) : wpList Try.prog ops Q (o :: rest) a w := by
  have e : Try.prog.built 64 ((#[] : Array (Nat × Operand)).map fun (i, x) => (i, a.eval x)).toList = some Z := by
    rw [hb, ← built64z]; simp
  refine wpList_build hg 64 _ ho (by rw [e]; rfl) ?_
  rw [e]
  exact h
theorem wpList_store_slot {ops : Array Oper} {rest : List Oper} {op : Oper} {a : Act} {w : World} {Q : Exit → Act → World → Prop} (hgd : op.guard = none) (p v : Operand) (ho : op.op = .store 64 p v)
    {L : List Sl} {g i : Nat} {x : Sl} (hp : a.eval p = .pointer (some ⟨g, i * 67, none⟩)) {X : Array Value} (hv : a.eval v = .agg X) (hX : X = (slC x).toArray) (hr : Row w g L) (hok : okL L) (hi : i < L.length) (hx : x.Ok)
    (h : wpList Try.prog ops Q rest (a.put op.dst undef) (w.setRow g (flat (L.set i x)).toArray)) : wpList Try.prog ops Q (op :: rest) a w := by
  subst hX
  refine wpList_plain hgd fun K hK => ?_
  unfold Oper.wp execOp
  simp only [ho, hp, hv, Instr.storeAt, Instr.sureAddr, Sem.run_bind, Sem.run_pure, Result.andThen_ok, run_storeVar_slot hr hok hi hx]
  exact hK _ _ h
theorem Kept.row {g : Nat} {w w' : World} (k : Below w.heap.size w w') (cs : Array Value) : Kept g g w (w'.setRow g cs) := (Kept.of_below k).setRow (Or.inl rfl) cs
set_option maxRecDepth 100000 in
set_option maxHeartbeats 2000000 in
theorem drop_at (r g : Nat) (L : List Sl) (name : ByteArray) (w : World) (h : IsTab w r g L) :
    Calls Try.prog 27 #[.pointer (some ⟨r, 0, none⟩), .string name] w fun e w' => e = .returned (.tuple #[]) ∧ IsTab w' r g (L.set (fidx name L) zeroS) ∧ Kept g g w w' := by
  obtain ⟨c0, c1⟩ := h.cells
  obtain ⟨hlr, hlg⟩ := h.lt
  obtain ⟨N, hN⟩ : ∃ N, N = L.length := ⟨_, rfl⟩
  rw [← hN] at c1
  have HF := hide (first_box h hN name)
  have H := hide h
  by_cases hf : fidx name L < N
  · rw [if_pos hf] at HF
    obtain ⟨P, hP⟩ : ∃ P, P = fidx name L := ⟨_, rfl⟩
    rw [← hP] at HF hf ⊢
    have HL : Hid (P < L.length) := by show P < L.length; rw [← hN]; exact hf
    obtain ⟨Z, hZ⟩ : ∃ Z, Z = (slC zeroS).toArray := ⟨_, rfl⟩
    have HZ := hide hZ
    clear hZ
    clear h c0 hN hf hP
    go_enter Try.func27, Try.ntmps27
    go_wp2_with fail
    go_region_with (first | (go_at_call 34; refine (hasName_at name _).mono ?_; rintro e w1 ⟨rfl, rfl⟩) | (go_at_call 33; refine (HF.out _).mono ?_; rintro e w2 ⟨rfl, k2⟩; have K2 := hide k2; clear k2))
    all_goals
      have HB2 : Hid (Below w.heap.size w _) := K2
      go_wp2_with (first
        | (refine wpList_build64z rfl rfl HZ.out ?_)
        | (refine wpList_store_slot rfl _ _ rfl (L := L) (i := P) (x := zeroS) rfl rfl HZ.out (H.out.row.below (by first | exact K2.out | exact below_drewN K2.out _)) H.out.ok HL.out zeroS_ok ?_))
      first | go_end0 | go_ret | refine bodyPost_ret (results_none rfl _ _ _) rfl ?_
      have k3 : Below w.heap.size w w2 := K2.out
      have hrow := H.out.row.below k3
      refine ⟨rfl, (H.out.belowS k3).put P zeroS_ok (by first | exact setRow_other _ _ _ _ H.out.ne | exact setRow_other (World.drewN _ _) _ _ _ H.out.ne) (by first | exact setRow_heap _ _ _ _ 64 (0, 0) hrow | exact setRow_heap (World.drewN _ _) _ _ _ 64 (0, 0) hrow), by first | exact Kept.row k3 _ | exact Kept.row (below_drewN k3 _) _⟩
  · rw [if_neg hf] at HF
    have HE : Hid (L.set (fidx name L) zeroS = L) := List.set_eq_of_length_le (by omega)
    clear h c0 hN hf
    go_enter Try.func27, Try.ntmps27
    go_wp2_with fail
    go_region_with (first | (go_at_call 34; refine (hasName_at name _).mono ?_; rintro e w1 ⟨rfl, rfl⟩) | (go_at_call 33; refine (HF.out _).mono ?_; rintro e w2 ⟨rfl, k2⟩; have K2 := hide k2; clear k2))
    all_goals
      go_wp2_with fail
      first | go_end0 | go_ret | refine bodyPost_ret (results_none rfl _ _ _) rfl ?_
      rw [HE.out]
      have k3 : Below w.heap.size w w2 := K2.out
      exact ⟨rfl, by first | exact H.out.belowS k3 | exact H.out.belowS (below_drewN k3 _), by first | exact Kept.of_below k3 | exact Kept.of_below (below_drewN k3 _)⟩
end Go.Proofs.Ytmolcipbopaniaa
