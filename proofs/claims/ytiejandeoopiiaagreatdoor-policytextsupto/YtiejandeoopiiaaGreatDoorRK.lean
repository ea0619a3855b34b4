/-
  Put of package policy; conditions as each theorem has them.
-/
import Derived.Test.YtiejandeoopiiaaGreatDoorRJ
import Derived.Deep.DrawnRows
set_option linter.unusedSimpArgs false
set_option linter.unusedVariables false
namespace Go.Proofs.YtiejandeoopiiaaGreatDoor
open Go.RowKit
/-- A slice's slicing as one step. -/
def slOk (P : Program) (v : Value) (lo hi : Option Value) (w : World) : Bool := match (Instr.sliceAt 22 v lo hi none).run P w with
  | .ok _ _ => true
  | _ => false
def slV (P : Program) (v : Value) (lo hi : Option Value) (w : World) : Value := match (Instr.sliceAt 22 v lo hi none).run P w with
  | .ok x _ => x
  | _ => undef
def slW (P : Program) (v : Value) (lo hi : Option Value) (w : World) : World := match (Instr.sliceAt 22 v lo hi none).run P w with
  | .ok _ y => y
  | _ => w
theorem run_sl {v : Value} {lo hi : Option Value} {w : World} (h : slOk Tryz.prog v lo hi w = true) : (Instr.sliceAt 22 v lo hi none).run Tryz.prog w = .ok (slV Tryz.prog v lo hi w) (slW Tryz.prog v lo hi w) := by
  unfold slOk at h
  unfold slV slW
  cases e : (Instr.sliceAt 22 v lo hi none).run Tryz.prog w with
  | ok x y => rfl
  | _ => simp [e] at h
theorem sl_of {v v' : Value} {lo hi : Option Value} {w w' : World} (h : (Instr.sliceAt 22 v lo hi none).run Tryz.prog w = .ok v' w') : slOk Tryz.prog v lo hi w = true ∧ slV Tryz.prog v lo hi w = v' ∧ slW Tryz.prog v lo hi w = w' := by
  unfold slOk slV slW
  rw [h]
  exact ⟨rfl, rfl, rfl⟩
theorem run_opsl (ρ : Operand → Value) (dst : Option Tmp) (x : Operand) (lo hi : Option Operand) (ty : TypeId) (pos : String) (after : Array Edge) (guard : Option (Nat × Bool)) (w : World) (h : slOk Tryz.prog (ρ x) (lo.map ρ) (hi.map ρ) w = true) :
    (execOp ρ { dst, op := .slice 22 x lo hi none, type := ty, pos, after, guard }).run Tryz.prog w = .ok (.value (slV Tryz.prog (ρ x) (lo.map ρ) (hi.map ρ) w)) (slW Tryz.prog (ρ x) (lo.map ρ) (hi.map ρ) w) := by
  unfold execOp
  simp only [Sem.run_bind, Sem.run_pure, Option.map_none, run_sl h, Result.andThen_ok]
theorem elemR : Tryz.prog.underlying 22 = some (.slice (Tryz.prog.elem 22)) := by kernel_rfl
theorem elemR' : Tryz.prog.elem 22 = 37 := by kernel_rfl
theorem add0 (x : Addr) : x.add 0 = x := by obtain ⟨b, o, s⟩ := x; unfold Addr.add; split <;> simp_all
set_option maxRecDepth 100000 in
theorem slTo {w : World} {a : Option Addr} {n c : Nat} {l : List Ru} (h : SrcR w a n c l) {t : Nat} (ht : t ≤ n) : (∀ W, (Instr.sliceAt 22 (.slice a n c) none (some (.int .i64 (t : Int))) none).run Tryz.prog W = .ok (.slice a t c) W) ∧ SrcR w a t c (l.take t) := by
  refine ⟨fun W => ?_, h.take ht⟩
  have hc := h.hcap
  rw [run_sliceAt_slice W _ _ _ _ _ elemR, run_slice_h W 22 a n c elemR .i64 (t : Int) (by omega) (by omega), elemR']
  have hs : (sizeOf 37).run Tryz.prog W = .ok 9 W := by kernel_rfl
  rw [hs]
  simp only [Result.andThen, sliced, Int.toNat_natCast, Nat.zero_mul, Nat.sub_zero]
  congr 2
  split
  · rfl
  · cases a with
    | none => rfl
    | some x => simp [add0]
set_option maxRecDepth 100000 in
theorem slFrom {w : World} {a : Option Addr} {n c : Nat} {l : List Ru} (h : SrcR w a n c l) {t : Nat} (ht : t ≤ n) : (∀ W, (Instr.sliceAt 22 (.slice a n c) (some (.int .i64 (t : Int))) none none).run Tryz.prog W = .ok (.slice (if c = t then a else a.map (·.add (t * 9))) (n - t) (c - t)) W) ∧ SrcR w (if c = t then a else a.map (·.add (t * 9))) (n - t) (c - t) (l.drop t) := by
  have hc := h.hcap
  refine ⟨fun W => ?_, ?_⟩
  · rw [run_sliceAt_slice W _ _ _ _ _ elemR, run_slice_l W 22 a n c elemR .i64 (t : Int) (by omega) (by omega), elemR']
    have hs : (sizeOf 37).run Tryz.prog W = .ok 9 W := by kernel_rfl
    rw [hs]
    simp only [Result.andThen, sliced, Int.toNat_natCast]
  · by_cases hn : t < n
    · obtain ⟨b, o, rfl, hb, hr⟩ := h.lies (by omega)
      rw [if_neg (by omega)]
      simp only [Option.map_some, add_none]
      exact h.drop ht
    · obtain rfl : t = n := by omega
      have e : l.drop t = [] := List.drop_of_length_le (by rw [h.hlen]; exact Nat.le_refl _)
      rw [e]
      refine ⟨by simp, by omega, by have := h.hmax; omega, fun hnn => ?_, fun h0 => by omega, fun r hr => by cases hr⟩
      split at hnn
      · omega
      · rw [Option.map_eq_none_iff] at hnn
        have := h.nil hnn
        omega
theorem OwnR.lower {w : World} {B B' : Nat} {v : Value} {l : List Ru} (h : OwnR w B v l) (hB : B' ≤ B) : OwnR w B' v l := by
  refine ⟨h.1, ?_⟩
  rcases h.2 with h0 | ⟨x, cap, cur, hv, hx, hrest⟩
  · exact Or.inl h0
  · exact Or.inr ⟨x, cap, cur, hv, by omega, hrest⟩
/-- Three slices side by side in a new block. -/
theorem lie_new {w : World} {x y z : Sli} (h1 : SrcR w x.a x.n x.c x.l) (h2 : SrcR w y.a y.n y.c y.l) (h3 : SrcR w z.a z.n z.c z.l) : Lie (w.alloc (.cells #[.slice x.a x.n x.c, .slice y.a y.n y.c, .slice z.a z.n z.c] 22)).drew w.heap.size [x, y, z] := by
  have k : Below w.heap.size w (w.alloc (.cells #[.slice x.a x.n x.c, .slice y.a y.n y.c, .slice z.a z.n z.c] 22)).drew := ((Below.refl _ _).alloc (Nat.le_refl _) _).drew
  refine ⟨by simp, fun i hi => ?_, fun i hi => ?_⟩
  · have e : (w.alloc (.cells #[.slice x.a x.n x.c, .slice y.a y.n y.c, .slice z.a z.n z.c] 22)).drew.heap[w.heap.size]? = some (.cells #[.slice x.a x.n x.c, .slice y.a y.n y.c, .slice z.a z.n z.c] 22) := alloc_new _ _
    simp only [List.length_cons, List.length_nil] at hi
    have : i = 0 ∨ i = 1 ∨ i = 2 := by omega
    generalize (w.alloc (.cells #[.slice x.a x.n x.c, .slice y.a y.n y.c, .slice z.a z.n z.c] 22)).drew = W at e
    rcases this with rfl | rfl | rfl <;> simp [World.cell?, e]
  · simp only [List.length_cons, List.length_nil] at hi
    have : i = 0 ∨ i = 1 ∨ i = 2 := by omega
    rcases this with rfl | rfl | rfl
    · exact h1.below k
    · exact h2.below k
    · exact h3.below k
def putE (l : List Ru) (at_ : Int) (rs : List Ru) : Nat := if chkL l ≠ 0 then chkL l else if chkL rs ≠ 0 then chkL rs else if at_ < 0 ∨ (l.length : Int) < at_ then 2 else if 64 < l.length + rs.length then 3 else 0
def putL (l : List Ru) (at_ : Int) (rs : List Ru) : List Ru := if putE l at_ rs = 0 then l.take at_.toNat ++ (rs ++ l.drop at_.toNat) else []
attribute [local go_sem ↓] run_opsl Go.wp_at_zero Go.wp_at_succ
set_option maxRecDepth 100000 in
set_option maxHeartbeats 2000000 in
theorem put_at (a : Option Addr) (n c : Nat) (l : List Ru) (at_ : Int) (a2 : Option Addr) (n2 c2 : Nat) (l2 : List Ru) (w : World) (h : SrcR w a n c l) (h2 : SrcR w a2 n2 c2 l2) (hV : Vars w) : Calls Tryz.prog 19 #[.slice a n c, .int .i64 at_, .slice a2 n2 c2] w fun e w' => ∃ v, e = .returned (.tuple #[v, .int .i64 (putE l at_ l2 : Nat)]) ∧ OwnR w' w.heap.size v (putL l at_ l2) ∧ Below w.heap.size w w' := by
  obtain ⟨E, hE⟩ : ∃ E, E = putE l at_ l2 := ⟨_, rfl⟩
  obtain ⟨L, hL⟩ : ∃ L, L = putL l at_ l2 := ⟨_, rfl⟩
  rw [← hE, ← hL]
  have HL0 : Hid (E ≠ 0 → L = []) := fun hh => by rw [hL, putL, ← hE, if_neg hh]
  have HL1 : Hid (E = 0 → L = l.take at_.toNat ++ (l2 ++ l.drop at_.toNat)) := fun hh => by rw [hL, putL, ← hE, if_pos hh]
  unfold putE at hE
  rw [h.hlen, h2.hlen] at hE
  have HE := hide hE
  have C1 := hide (fun W hs hv => pCheck_at a n c l W hs hv)
  have C2 := hide (fun W hs hv => pCheck_at a2 n2 c2 l2 W hs hv)
  have hn64 : chkL l = 0 → n ≤ 64 := fun e => by
    rw [chkL, h.hlen] at e
    by_cases h64 : 64 < n
    · rw [if_pos h64] at e; cases e
    · omega
  have hn642 : chkL l2 = 0 → n2 ≤ 64 := fun e => by
    rw [chkL, h2.hlen] at e
    by_cases h64 : 64 < n2
    · rw [if_pos h64] at e; cases e
    · omega
  obtain ⟨k1, hk1⟩ : ∃ k1, k1 = chkL l := ⟨_, rfl⟩
  obtain ⟨k2, hk2⟩ : ∃ k2, k2 = chkL l2 := ⟨_, rfl⟩
  rw [← hk1] at C1 HE hn64
  rw [← hk2] at C2 HE hn642
  have H1 := hide h
  have H2 := hide h2
  have HV := hide hV
  have hc := h.hcap
  have hm := h.hmax
  have hc2 := h2.hcap
  have hm2 := h2.hmax
  unfold maxLen at hm hm2
  clear h h2 hV hE hL hk1 hk2
  go_enter Tryz.func19, Tryz.ntmps19
  go_wp2_with fail
  refine (C1.out _ H1.out HV.out).mono ?_
  rintro e w1 ⟨rfl, hb⟩
  have B1 := hide hb
  have V1 := hide (HV.out.below hb)
  have S1 := hide (H1.out.below hb)
  have T1 := hide (H2.out.below hb)
  clear hb
  by_cases hz1 : k1 = 0
  · have hn := hn64 hz1
    subst hz1
    go_wp2_with fail
    refine (C2.out _ T1.out V1.out).mono ?_
    rintro e w2 ⟨rfl, hb⟩
    have B2 := hide (B1.out.trans (hb.mono B1.out.size))
    have S2 := hide (S1.out.below hb)
    have T2 := hide (T1.out.below hb)
    clear hb
    by_cases hz2 : k2 = 0
    · have hn2 := hn642 hz2
      subst hz2
      by_cases ha0 : at_ < 0
      · have HX : Hid (E = 2) := by show _ = _; rw [HE.out]; simp [ha0]
        have HY := hide (HL0.out (by rw [HX.out]; decide))
        go_wp2_with fail
        go_ret2
        rw [HX.out, HY.out]
        exact ⟨_, rfl, OwnR.nil _ _, B2.out⟩
      by_cases ha1 : (n : Int) < at_
      · have HX : Hid (E = 2) := by show _ = _; rw [HE.out]; simp [ha1]
        have HY := hide (HL0.out (by rw [HX.out]; decide))
        go_wp2_with fail
        go_ret2
        rw [HX.out, HY.out]
        exact ⟨_, rfl, OwnR.nil _ _, B2.out⟩
      obtain ⟨t, rfl⟩ : ∃ t : Nat, at_ = t := ⟨at_.toNat, by omega⟩
      by_cases h64 : 64 < n + n2
      · have HX : Hid (E = 3) := by show _ = _; rw [HE.out, if_neg (by simp), if_neg (by simp), if_neg (by omega), if_pos h64]
        have HY := hide (HL0.out (by rw [HX.out]; decide))
        have hd : decide (64 < (n : Int) + (n2 : Int)) = true := decide_eq_true (by omega)
        go_wp2_with fail
        go_ret2
        rw [HX.out, HY.out]
        exact ⟨_, rfl, OwnR.nil _ _, B2.out⟩
      have HX : Hid (E = 0) := by show _ = _; rw [HE.out, if_neg (by simp), if_neg (by simp), if_neg (by omega), if_neg h64]
      have HY := hide (HL1.out HX.out)
      have hd : decide (64 < (n : Int) + (n2 : Int)) = false := decide_eq_false (by omega)
      have htn : t ≤ n := by omega
      clear HL0 HL1 HE hn64 hn642 ha0 ha1 h64
      obtain ⟨q1, s1⟩ := slTo S2.out htn
      obtain ⟨q3, s3⟩ := slFrom S2.out htn
      have HS1 := hide s1
      have HS3 := hide s3
      have HQ1 := hide q1
      clear q1 q3 s1 s3
      by_cases hct : c = t
      · subst hct
        rw [if_pos rfl, show n - c = 0 by omega, Nat.sub_self] at HS3
        have HSUM : Hid (sumN [⟨a, c, c, l.take c⟩, ⟨a2, n2, c2, l2⟩, ⟨a, 0, 0, l.drop c⟩] ≤ 128) := by
          show sumN _ ≤ 128
          simp only [sumN]
          omega
        have HCC := hide (concat_at w2.heap.size 3 3 [⟨a, c, c, l.take c⟩, ⟨a2, n2, c2, l2⟩, ⟨a, 0, 0, l.drop c⟩] _ rfl (by omega) (by omega) (lie_new HS1.out T2.out HS3.out) HSUM.out)
        have HAL : Hid (allL [⟨a, c, c, l.take c⟩, ⟨a2, n2, c2, l2⟩, ⟨a, 0, 0, l.drop c⟩] = L) := by
          show _ = _
          rw [HY.out]
          simp [allL]
        rw [HAL.out] at HCC
        have HBW : Hid (Below w.heap.size w (w2.alloc (.cells #[.slice a c c, .slice a2 n2 c2, .slice a 0 0] 22)).drew) := (B2.out.alloc B2.out.size _).drew
        have o1 : ∀ W, slOk Tryz.prog (.slice a n c) none (some (.int .i64 (c : Int))) W = true := fun W => (sl_of (HQ1.out W)).1
        have o2 : ∀ W, slV Tryz.prog (.slice a n c) none (some (.int .i64 (c : Int))) W = .slice a c c := fun W => (sl_of (HQ1.out W)).2.1
        have o3 : ∀ W, slW Tryz.prog (.slice a n c) none (some (.int .i64 (c : Int))) W = W := fun W => (sl_of (HQ1.out W)).2.2
        clear HSUM HAL HQ1
        go_wp2_with fail
        go_region_with (first
          | (go_at_call 38; refine HCC.out.mono ?_; rintro e w4 ⟨v, rfl, hown, hb⟩; have HO := hide (hown.lower HBW.out.size); have B4 := hide (HBW.out.trans (hb.mono HBW.out.size)); clear hown hb))
        all_goals go_wp2_with fail
        all_goals go_ret2
        all_goals (rw [HX.out]; exact ⟨_, rfl, HO.out, B4.out⟩)
      · rw [if_neg hct] at HS3
        cases a with
        | none =>
          have := S2.out.nil rfl
          omega
        | some x =>
          simp only [Option.map_some] at HS3
          have HSUM : Hid (sumN [⟨some x, t, c, l.take t⟩, ⟨a2, n2, c2, l2⟩, ⟨(some (x.add (t * 9))), n - t, c - t, l.drop t⟩] ≤ 128) := by
            show sumN _ ≤ 128
            simp only [sumN]
            omega
          have HCC := hide (concat_at w2.heap.size 3 3 [⟨some x, t, c, l.take t⟩, ⟨a2, n2, c2, l2⟩, ⟨(some (x.add (t * 9))), n - t, c - t, l.drop t⟩] _ rfl (by omega) (by omega) (lie_new HS1.out T2.out HS3.out) HSUM.out)
          have HAL : Hid (allL [⟨some x, t, c, l.take t⟩, ⟨a2, n2, c2, l2⟩, ⟨(some (x.add (t * 9))), n - t, c - t, l.drop t⟩] = L) := by
            show _ = _
            rw [HY.out]
            simp [allL]
          rw [HAL.out] at HCC
          have HBW : Hid (Below w.heap.size w (w2.alloc (.cells #[.slice (some x) t c, .slice a2 n2 c2, .slice (some (x.add (t * 9))) (n - t) (c - t)] 22)).drew) := (B2.out.alloc B2.out.size _).drew
          have o1 : ∀ W, slOk Tryz.prog (.slice (some x) n c) none (some (.int .i64 (t : Int))) W = true := fun W => (sl_of (HQ1.out W)).1
          have o2 : ∀ W, slV Tryz.prog (.slice (some x) n c) none (some (.int .i64 (t : Int))) W = .slice (some x) t c := fun W => (sl_of (HQ1.out W)).2.1
          have o3 : ∀ W, slW Tryz.prog (.slice (some x) n c) none (some (.int .i64 (t : Int))) W = W := fun W => (sl_of (HQ1.out W)).2.2
          clear HSUM HAL HQ1
          go_wp2_with fail
          go_region_with (first
            | (go_at_call 38; refine HCC.out.mono ?_; rintro e w4 ⟨v, rfl, hown, hb⟩; have HO := hide (hown.lower HBW.out.size); have B4 := hide (HBW.out.trans (hb.mono HBW.out.size)); clear hown hb))
          all_goals go_wp2_with fail
          all_goals go_ret2
          all_goals (rw [HX.out]; exact ⟨_, rfl, HO.out, B4.out⟩)
    · have hk2 : E = k2 := by rw [HE.out, if_neg (by simp), if_pos hz2]
      have HX := hide hk2
      have HY := hide (HL0.out (by rw [hk2]; exact hz2))
      have hq : ((k2 : Int) == 0) = false := by simp; omega
      have hq2 : ((k2 : Int) != 0) = true := by simp; omega
      clear hz2 hk2
      go_wp2_with fail
      go_ret2
      rw [HX.out, HY.out]
      exact ⟨_, rfl, OwnR.nil _ _, B2.out⟩
  · have hk1 : E = k1 := by rw [HE.out, if_pos hz1]
    have HX := hide hk1
    have HY := hide (HL0.out (by rw [hk1]; exact hz1))
    have hq : ((k1 : Int) == 0) = false := by simp; omega
    have hq2 : ((k1 : Int) != 0) = true := by simp; omega
    clear hz1 hk1
    go_wp2_with fail
    go_ret2
    rw [HX.out, HY.out]
    exact ⟨_, rfl, OwnR.nil _ _, B1.out⟩

end Go.Proofs.YtiejandeoopiiaaGreatDoor
