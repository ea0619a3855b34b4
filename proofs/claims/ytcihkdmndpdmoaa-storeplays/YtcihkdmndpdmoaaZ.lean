/-
  The reference's Get; conditions as each theorem has them.
-/
import Derived.Test.YtcihkdmndpdmoaaY
import Derived.Deep.DrawnRows
set_option linter.unusedSimpArgs false
set_option linter.unusedVariables false
namespace Go.Proofs.Ytcihkdmndpdmoaa
open Go.RowKit
/-- 'append' of bytes as one step of a drawn region. -/
def apOk (P : Program) (v u : Value) (w : World) : Bool := match (Builtin.append_ #[30, 30] 30 #[v, u]).run P w with
  | .ok _ _ => true
  | _ => false
def apV (P : Program) (v u : Value) (w : World) : Value := match (Builtin.append_ #[30, 30] 30 #[v, u]).run P w with
  | .ok x _ => x
  | _ => undef
def apW (P : Program) (v u : Value) (w : World) : World := match (Builtin.append_ #[30, 30] 30 #[v, u]).run P w with
  | .ok _ y => y
  | _ => w
theorem run_apB {v u : Value} {w : World} (h : apOk Try.prog v u w = true) : (Builtin.append_ #[30, 30] 30 #[v, u]).run Try.prog w = .ok (apV Try.prog v u w) (apW Try.prog v u w) := by
  unfold apOk at h
  unfold apV apW
  cases e : (Builtin.append_ #[30, 30] 30 #[v, u]).run Try.prog w with
  | ok x y => rfl
  | _ => simp [e] at h
theorem ap_of {v u v' : Value} {w w' : World} (h : (Builtin.append_ #[30, 30] 30 #[v, u]).run Try.prog w = .ok v' w') : apOk Try.prog v u w = true ∧ apV Try.prog v u w = v' ∧ apW Try.prog v u w = w' := by
  unfold apOk apV apW
  rw [h]
  exact ⟨rfl, rfl, rfl⟩
theorem run_opap (ρ : Operand → Value) (dst : Option Tmp) (x y : Operand) (pos : String) (after : Array Edge) (guard : Option (Nat × Bool)) (w : World) (h : apOk Try.prog (ρ x) (ρ y) w = true) :
    (execOp ρ { dst, op := .call { callee := .builtin .append, args := #[x, y], argTypes := #[30, 30] }, type := 30, pos, after, guard }).run Try.prog w = .ok (.value (apV Try.prog (ρ x) (ρ y) w)) (apW Try.prog (ρ x) (ρ y) w) := by
  unfold execOp
  simp only [resolve, invoke, builtin, Sem.run_bind, Sem.run_pure, Result.andThen_ok, List.map_toArray, List.map_cons, List.map_nil, run_apB h]
theorem byV_src {w : World} {v : Value} {t : ByteArray} (h : byV w v t) : ∃ a c, v = .slice a t.size c ∧ Src w a t.size c (byt t) := by
  obtain ⟨a, c, hv, hs, _⟩ := own_src h (byt_lt t)
  rw [byt_length] at hv hs
  exact ⟨a, c, hv, hs⟩
/-- What is asked for: which slot, whether it is fresh. -/
theorem got_fidx {L : List Sl} {now : Int} {key : ByteArray} (hb : ¬ (badNow now ∨ badKey key)) : (fidx key L < L.length ∧ fresh (at0 L (fidx key L)) now = true ∧ got L now key = some (at0 L (fidx key L))) ∨ (fidx key L < L.length ∧ fresh (at0 L (fidx key L)) now = false ∧ got L now key = none) ∨ (¬ fidx key L < L.length ∧ got L now key = none) := by
  by_cases h1 : fidx key L < L.length
  · cases h2 : fresh (at0 L (fidx key L)) now with
    | true => exact Or.inl ⟨h1, rfl, got_of hb (get_at0 h1) h2⟩
    | false => exact Or.inr (Or.inl ⟨h1, rfl, got_not (fun s hs => by rw [get_at0 h1] at hs; simp at hs; rw [← hs]; exact h2)⟩)
  · exact Or.inr (Or.inr ⟨h1, got_not (fun s hs => absurd (List.getElem?_eq_some_iff.1 hs).1 h1)⟩)
attribute [local go_sem ↓] run_opap Go.wp_at_zero Go.wp_at_succ
set_option maxRecDepth 100000 in
set_option maxHeartbeats 4000000 in
theorem rget_at (x r g K h : Nat) (L : List Sl) (now : Int) (key : ByteArray) (w : World) (t : RT x w r g K L h) :
    Calls Try.prog 17 #[.pointer (some ⟨r, 0, none⟩), .int .i64 now, .string key] w fun e w' => ∃ v, e = .returned (.tuple #[v, .int .i64 (getN L now key), .int .i64 (getC L now key)]) ∧ Own w' w.heap.size 5 v (nums .u8 (byt (getB L now key))) ∧ RT x w' r g K (getL L now key) h ∧ Kept g g w w' := by
  have HW := fun w' => hide (rwhen_at now w')
  have HKY := fun w' => hide (rkey_at key w')
  have HF := hide (rfind_at r g L.length L key w t.reads)
  have hm := t.inv.max
  have HI := hide (get_inv t.inv now key)
  have HT := hide t
  obtain ⟨N, hN⟩ : ∃ N, N = L.length := ⟨_, rfl⟩
  rw [← hN] at hm
  have HN := hide hN
  by_cases hb : badNow now ∨ badKey key
  · obtain ⟨q1, q2, q3, q4⟩ := get_none (got_bad (L := L) hb)
    rw [q1, q2, q3, q4, if_pos hb]
    clear q1 q2 q3 q4 t hN
    by_cases h1 : badNow now
    · rw [show decide (¬ badNow now) = false by simp [h1]] at HW
      clear h1 hb
      go_enter Try.func17, Try.ntmps17
      go_wp2_with fail
      refine (HW _).out.mono ?_
      rintro e w1 ⟨rfl, rfl⟩
      go_wp2_with fail
      first | go_ret3 | go_ret2 | go_ret
      exact ⟨_, rfl, own_nil _ _, HT.out, Kept.refl _ _ _⟩
    · rw [show decide (¬ badNow now) = true by simp [h1]] at HW
      rw [show decide (¬ badKey key) = false by simp [hb.resolve_left h1]] at HKY
      clear h1 hb
      go_enter Try.func17, Try.ntmps17
      go_wp2_with fail
      refine (HW _).out.mono ?_
      rintro e w1 ⟨rfl, rfl⟩
      go_wp2_with fail
      refine (HKY _).out.mono ?_
      rintro e w1 ⟨rfl, rfl⟩
      go_wp2_with fail
      first | go_ret3 | go_ret2 | go_ret
      exact ⟨_, rfl, own_nil _ _, HT.out, Kept.refl _ _ _⟩
  rw [show decide (¬ badNow now) = true from decide_eq_true (fun e => hb (Or.inl e))] at HW
  rw [show decide (¬ badKey key) = true from decide_eq_true (fun e => hb (Or.inr e))] at HKY
  rcases got_fidx (L := L) hb with ⟨h1, h2, hg⟩ | ⟨h1, h2, hg⟩ | ⟨h1, hg⟩
  · obtain ⟨q1, q2, q3, q4⟩ := get_some hg
    rw [q4] at HI
    rw [q1, q2, q3, q4]
    rw [show rfi key L = (fidx key L : Nat) by unfold rfi; rw [if_pos h1]] at HF
    obtain ⟨P, hP⟩ : ∃ P, P = fidx key L := ⟨_, rfl⟩
    rw [← hP] at HF h1 h2 HI ⊢
    have hPN : P < N := by omega
    have HL := hide h1
    have hok := t.inv.ok _ _ (get_at0 h1)
    have HFR := fun ya yn yc w' => hide (rfresh_at (at0 L P) K ya yn yc now w' hok (fun e => hb (Or.inl e)))
    rw [h2] at HFR
    have hd : decide ((P : Int) < 0) = false := decide_eq_false (by omega)
    have hn0 : 0 ≤ now ∧ now ≤ 1099511627776 := by
      have : ¬ badNow now := fun e => hb (Or.inl e)
      unfold badNow at this
      omega
    have hwr : IntKind.i64.wrap (now - (at0 L P).at_) = now - (at0 L P).at_ := wrap_int _ (by have := hok.low; have := hok.top; omega) (by have := hok.low; have := hok.top; omega)
    have HFW : Hid ((at0 L P).bs.size ≤ 65536) := Nat.le_trans hok.few t.inv.keep
    obtain ⟨s, hs⟩ : ∃ s, s = at0 L P := ⟨_, rfl⟩
    rw [← hs] at HFR hwr HFW HI ⊢
    have HS := hide hs
    obtain ⟨k, b, p, q, ak⟩ := s
    simp only at HFR hwr HFW HI ⊢
    clear q1 q2 q3 q4 t hN hP hb hg h1 h2 hok hn0 hs
    go_enter Try.func17, Try.ntmps17
    go_wp2_with fail
    refine (HW _).out.mono ?_
    rintro e w1 ⟨rfl, rfl⟩
    go_wp2_with fail
    refine (HKY _).out.mono ?_
    rintro e w1 ⟨rfl, rfl⟩
    go_wp2_with fail
    refine HF.out.mono ?_
    rintro e w2 ⟨rfl, k2⟩
    have T2 := hide (HT.out.below k2)
    have e3 := T2.out.cellR.2.2
    rw [← HN.out] at e3
    obtain ⟨v, c0, c1, c2, c3, c4, c5, _⟩ := T2.out.cells HL.out
    obtain ⟨ya, yc, rfl, _⟩ := byV_src c5
    have K2 := hide k2
    clear c5 k2
    rw [← HS.out] at c0 c1 c2 c3 c4
    simp only at c0 c1 c2 c3 c4
    go_wp2_with fail
    refine (HFR _ _ _ _).out.mono ?_
    rintro e w3 ⟨rfl, k3⟩
    have K3 : Hid (Below w.heap.size w w3) := K2.out.trans (k3.mono K2.out.size)
    have T3 := hide (HT.out.below K3.out)
    have d3 := T3.out.cellR.2.2
    rw [← HN.out] at d3
    have fz := (T3.out.frozen (P * 5 + 4)).2
    have T4 := hide (T3.out.ask HL.out true (by rw [← HS.out]; exact HI.out))
    obtain ⟨W4, hW4⟩ : ∃ W4, W4 = w3.setCell ⟨g, P * 5 + 4, none⟩ (.bool true) := ⟨_, rfl⟩
    rw [← hW4, ← HS.out] at T4
    simp only at T4
    have k4 : Kept g g w W4 := by rw [hW4]; exact (Kept.of_below K3.out).set _ _
    obtain ⟨_, _, _, _, _, f4, _, _⟩ := T3.out.cells HL.out
    rw [← HS.out] at f4
    simp only at f4
    clear k3 c0 c1 c2 c3 c4 e3
    have HW4 := hide hW4
    have hlen4 : (L.set P { key := k, bs := b, at_ := p, age := q, asked := true }).length = N := by rw [List.length_set]; exact HN.out.symm
    obtain ⟨v4, _, y1, y2, _, _, y5, _⟩ := T4.out.cells (i := P) (by rw [hlen4]; exact hPN)
    rw [at0_set _ HL.out, if_pos rfl] at y2 y5
    simp only at y2 y5
    obtain ⟨za, zc, rfl, ysrc⟩ := byV_src y5
    have y0 := T4.out.cellR.2.2
    rw [hlen4] at y0
    obtain ⟨hl4r, hl4g⟩ := T4.out.lt
    have n1 : r ≠ W4.heap.size := by omega
    have n2 : g ≠ W4.heap.size := by omega
    have own0 : Own ((W4.alloc (.cells #[] 5)).drew) W4.heap.size 5 (.slice (some ⟨W4.heap.size, 0, none⟩) 0 0) (nums .u8 []) := (own_new5 W4).keep fun _ _ => rfl
    have bA : Below W4.heap.size W4 (W4.alloc (.cells #[] 5)).drew := (box_below W4 _).drew
    obtain ⟨v2, w5, ap, ow, bl, _⟩ := run_app own0 (ysrc.below bA) (by have := HFW.out; simp; omega) bA.size
    rw [List.nil_append] at ow
    have bB := bA.trans bl
    have z0 := cell_below y0 bB
    have z2 := cell_below y2 bB
    obtain ⟨q1, q2, q3⟩ := ap_of ap
    have OW : Hid (Own w5 w.heap.size 5 v2 (nums .u8 (byt b))) := by
      refine ⟨ow.1, ?_⟩
      rcases ow.2 with h0 | ⟨y, cap, cur, hv, hx, hh, hrest⟩
      · exact Or.inl h0
      · exact Or.inr ⟨y, cap, cur, hv, by have := k4.size; omega, hh, hrest⟩
    have T5 := hide (T4.out.below bB)
    have K5 := hide (k4.trans (Kept.of_below bB))
    have hst : w3.setCell ⟨g, P * 5 + 4, none⟩ (.bool true) = W4 := hW4.symm
    clear hW4 ap ow bl bA bB own0 ysrc y5 k4 hlen4 HW4
    go_wp2_with fail
    go_region
    all_goals
      go_wp2_with fail
      first | go_ret3 | go_ret2 | go_ret
      exact ⟨v2, rfl, OW.out, T5.out, K5.out⟩
  · obtain ⟨q1, q2, q3, q4⟩ := get_none hg
    rw [q1, q2, q3, q4, if_neg hb]
    rw [show rfi key L = (fidx key L : Nat) by unfold rfi; rw [if_pos h1]] at HF
    obtain ⟨P, hP⟩ : ∃ P, P = fidx key L := ⟨_, rfl⟩
    rw [← hP] at HF h1 h2
    have hPN : P < N := by omega
    have HL := hide h1
    have HFR := fun ya yn yc w' => hide (rfresh_at (at0 L P) K ya yn yc now w' (t.inv.ok _ _ (get_at0 h1)) (fun e => hb (Or.inl e)))
    rw [h2] at HFR
    have hd : decide ((P : Int) < 0) = false := decide_eq_false (by omega)
    clear q1 q2 q3 q4 t hN hP hb hg h1 h2
    go_enter Try.func17, Try.ntmps17
    go_wp2_with fail
    refine (HW _).out.mono ?_
    rintro e w1 ⟨rfl, rfl⟩
    go_wp2_with fail
    refine (HKY _).out.mono ?_
    rintro e w1 ⟨rfl, rfl⟩
    go_wp2_with fail
    refine HF.out.mono ?_
    rintro e w2 ⟨rfl, k2⟩
    have T2 := hide (HT.out.below k2)
    have e3 := T2.out.cellR.2.2
    rw [← HN.out] at e3
    obtain ⟨v, c0, c1, c2, c3, c4, c5, _⟩ := T2.out.cells HL.out
    obtain ⟨ya, yc, rfl, _⟩ := byV_src c5
    have K2 := hide k2
    clear c5 k2
    generalize (at0 L P).bs.size = yn at c1
    generalize at0 L P = s at c0 c2 c3 c4 HFR
    obtain ⟨k, b, p, q, ak⟩ := s
    simp only at c0 c2 c3 c4 HFR
    go_wp2_with fail
    refine (HFR _ _ _ _).out.mono ?_
    rintro e w3 ⟨rfl, k3⟩
    have K3 : Hid (Below w.heap.size w w3) := K2.out.trans (k3.mono K2.out.size)
    clear k3
    go_wp2_with fail
    first | go_ret3 | go_ret2 | go_ret
    exact ⟨_, rfl, own_nil _ _, HT.out.below K3.out, Kept.of_below K3.out⟩
  · obtain ⟨q1, q2, q3, q4⟩ := get_none hg
    rw [q1, q2, q3, q4, if_neg hb]
    rw [show rfi key L = -1 by unfold rfi; rw [if_neg h1]] at HF
    clear q1 q2 q3 q4 t hN hb hg h1
    go_enter Try.func17, Try.ntmps17
    go_wp2_with fail
    refine (HW _).out.mono ?_
    rintro e w1 ⟨rfl, rfl⟩
    go_wp2_with fail
    refine (HKY _).out.mono ?_
    rintro e w1 ⟨rfl, rfl⟩
    go_wp2_with fail
    refine HF.out.mono ?_
    rintro e w2 ⟨rfl, k2⟩
    have T2 := hide (HT.out.below k2)
    have K2 := hide k2
    clear k2
    go_wp2_with fail
    first | go_ret3 | go_ret2 | go_ret
    exact ⟨_, rfl, own_nil _ _, T2.out, Kept.of_below K2.out⟩
end Go.Proofs.Ytcihkdmndpdmoaa
