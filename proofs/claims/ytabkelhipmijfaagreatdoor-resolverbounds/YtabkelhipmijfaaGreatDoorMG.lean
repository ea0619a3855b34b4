/-
  The reader of messages: aliases; conditions as each theorem has them.
-/
import Derived.Test.YtabkelhipmijfaaGreatDoorMF
set_option linter.unusedSimpArgs false
set_option linter.unusedVariables false
namespace Go.Proofs.YtabkelhipmijfaaGreatDoor
open Go.RowKit
/-- Where the reader stands behind an alias. -/
def alE (b : List Nat) (da l : Nat) (p : Nat) : Sr := if (nam b da).2.1 = da + l then (p, (nam b da).2.2) else stp da 6 (p, (nam b da).2.2)
set_option maxRecDepth 100000 in
set_option maxHeartbeats 4000000 in
theorem alias_at (g : Nat) (a : Option Addr) (n c : Nat) (b : List Nat) (s : Sr) (w : World) (X : ByteArray) (kd cl sc da l : Nat) (x : Option Addr) (y : Nat) (h : Rdr w g 148 [] a n c b s) (hok : s.2 = .ok) (hV : Vars w) (hn : n ≤ 140737488351232) (hg0 : 0 < g) (hda : da + l ≤ n) :
    Calls Tryz.prog 110 #[.pointer (some ⟨g, 0, none⟩), .agg #[.string X, .int .i64 (kd : Nat), .int .i64 (cl : Nat), .int .i64 (sc : Nat), .int .i64 (da : Nat), .slice x l y]] w fun e w' => e = .returned (.string (strN (nam b da).1)) ∧ Rdr w' g 148 [] a n c b (alE b da l s.1) ∧ Kept g g w w' ∧ Vars w' := by
  have hgs := h.block
  have hln := h.src.hlen
  have HSB : Hid (∀ x o, a = some ⟨x, o, none⟩ → 0 < n → x < w.heap.size) := fun x o e h0 => h.src.lt h0 e
  obtain ⟨W0, hW0⟩ : ∃ W0, W0 = w.alloc (.cells #[.string X, .int .i64 (kd : Nat), .int .i64 (cl : Nat), .int .i64 (sc : Nat), .int .i64 (da : Nat), .slice x l y] 187) := ⟨_, rfl⟩
  have R0 : Rdr W0 g 148 [] a n c b s := by rw [hW0]; exact h.alloc _
  have K0 : Hid (Kept g g w W0) := by rw [hW0]; exact (Kept.refl _ _ _).alloc _
  have hs0 : W0.heap.size = w.heap.size + 1 := by rw [hW0]; simp
  have T0 : Row W0 w.heap.size 187 [.string X, .int .i64 (kd : Nat), .int .i64 (cl : Nat), .int .i64 (sc : Nat), .int .i64 (da : Nat), .slice x l y] := by rw [hW0]; exact Row.new w _ 187
  have V0 : Vars W0 := hV.kept K0.out hg0
  have HW0 := hide hW0.symm
  obtain ⟨P, hP⟩ : ∃ P, P = s.1 := ⟨_, rfl⟩
  obtain ⟨R, hR⟩ : ∃ R, R = nam b da := ⟨_, rfl⟩
  have HN := hide (name_at a n c b (da : Nat) W0.drew R0.src.drew V0 (by omega) (by omega))
  rw [show namI b ((da : Nat) : Int) = R by rw [hR, namI, if_neg (by omega)]; rfl] at HN
  obtain ⟨⟨v0, p0, i0⟩, s0, o0, t0, l0⟩ := R0
  obtain rfl := i0.nil hok
  rw [← hP] at p0
  have c0 : W0.cell? ⟨g, 0, none⟩ = some (.slice a n c) := p0.cell 0
  have d4 : W0.cell? ⟨w.heap.size, 4, none⟩ = some (.int .i64 (da : Nat)) := T0.cell 4
  have hgs0 := p0.lt
  have hRl : R.2.1 ≤ n := by
    rw [hR]
    by_cases ho : (nam b da).2.2 = .ok
    · have := (nam_good ho).2.1; omega
    · rw [nam_bad ho]; simp
  have HZ : Hid (∀ w2 v2, IsF w2 R.2.2 v2 → Below W0.drew.heap.size W0.drew w2 → w2.cell? ⟨g, 2, none⟩ = some .nilIface ∧ w2.frozen? ⟨g, 2, none⟩ = false ∧ g < w2.heap.size ∧ w2.cell? ⟨w.heap.size, 4, none⟩ = some (.int .i64 (da : Nat)) ∧ w2.cell? ⟨w.heap.size, 5, none⟩ = some (.slice x l y) ∧ w.heap.size < w2.heap.size ∧ Rdr (w2.setCell ⟨g, 2, none⟩ v2) g 148 [] a n c b (P, R.2.2) ∧ Kept g g W0 (w2.setCell ⟨g, 2, none⟩ v2) ∧ Row (w2.setCell ⟨g, 2, none⟩ v2) w.heap.size 187 [.string X, .int .i64 (kd : Nat), .int .i64 (cl : Nat), .int .i64 (sc : Nat), .int .i64 (da : Nat), .slice x l y]) := fun w2 v2 hi hb => by
    have hb' : Below W0.heap.size W0 w2 := below_of_drew hb
    have r2 : Row w2 g 148 [.slice a n c, .int .i64 (P : Nat), .nilIface] := p0.keep (hb'.block g p0.lt)
    have k4 : Kept g g w2 (w2.setCell ⟨g, 2, none⟩ v2) := (Kept.refl g g w2).set 2 v2
    have t2 := T0.keep (hb'.block _ T0.lt)
    refine ⟨r2.cell 2, r2.frozen 2, r2.lt, t2.cell 4, t2.cell 5, t2.lt, ⟨⟨v2, by simpa using r2.set 2 v2, hi.kept r2 (by decide) k4⟩, (s0.below hb').kept k4 o0, o0, t0, ?_⟩, (Kept.of_below hb').trans k4, t2.kept k4 (by omega) (by omega)⟩
    show P < _
    rw [hP]; exact l0
  have HV0 := hide V0
  have HAL : Hid (alE b da l s.1 = if R.2.1 = da + l then (P, R.2.2) else stp da 6 (P, R.2.2)) := by show _ = _; rw [alE, ← hR, hP]
  obtain ⟨S, hS⟩ : ∃ S, S = alE b da l s.1 := ⟨_, rfl⟩
  rw [← hS] at HAL ⊢
  rw [← hR]
  obtain ⟨Y, hY⟩ : ∃ Y, Y = strN R.1 := ⟨_, rfl⟩
  obtain ⟨Q, hQ⟩ : ∃ Q, Q = R.2.1 := ⟨_, rfl⟩
  obtain ⟨E, hE⟩ : ∃ E, E = R.2.2 := ⟨_, rfl⟩
  rw [← hY, ← hQ, ← hE] at HN
  rw [← hE] at HZ HAL
  rw [← hQ] at HAL hRl
  rw [← hY]
  clear h hW0 hV hok p0 i0 s0 o0 t0 l0 T0 V0 hP hR hS hY hQ hE
  by_cases hEok : E = .ok
  · have HEO := hide hEok
    clear hEok
    by_cases hq : Q = da + l
    · have HS : Hid (S = (P, E)) := by show _ = _; rw [HAL.out, if_pos hq]
      have dq : ((Q : Int) != (da : Int) + (l : Int)) = false := by simp; omega
      clear hq
      go_enter Tryz.func110, Tryz.ntmps110
      go_wp2_with fail
      rw [HW0.out]
      go_region_with (first | (go_at_call 118; refine HN.out.mono ?_; rintro e w2 ⟨v2, rfl, i2, b2⟩; obtain ⟨z2, z4, z6, za, zb, zc, z7, z8, z9⟩ := HZ.out w2 v2 i2 b2; obtain rfl := i2.nil HEO.out; have RD := hide z7; have KP := hide z8; have TR := hide z9; clear i2 b2 z7 z8 z9 c0 d4))
      all_goals (try go_wp2_with fail)
      all_goals go_ret
      all_goals (rw [HS.out])
      all_goals exact ⟨rfl, RD.out, K0.out.trans KP.out, HV0.out.kept KP.out hg0⟩
    · have HS : Hid (S = stp da 6 (P, E)) := by show _ = _; rw [HAL.out, if_neg hq]
      have dq : ((Q : Int) != (da : Int) + (l : Int)) = true := by simp; omega
      clear hq
      go_enter Tryz.func110, Tryz.ntmps110
      go_wp2_with fail
      rw [HW0.out]
      go_region_with (first | (go_at_call 118; refine HN.out.mono ?_; rintro e w2 ⟨v2, rfl, i2, b2⟩; obtain ⟨z2, z4, z6, za, zb, zc, z7, z8, z9⟩ := HZ.out w2 v2 i2 b2; obtain rfl := i2.nil HEO.out; have RD := hide z7; have KP := hide z8; have TR := hide z9; clear i2 b2 z7 z8 z9 c0 d4))
      all_goals (try go_wp2_with fail)
      all_goals (obtain ⟨W3, hW3⟩ : ∃ W3, W3 = w2.setCell ⟨g, 2, none⟩ .nilIface := ⟨_, rfl⟩)
      all_goals (rw [← hW3] at RD KP TR ⊢)
      all_goals (have HST := hide (stop_at g 148 [] a n c b (P, E) (da : Nat) da 6 W3.drew RD.out.drew (fun _ => rfl)))
      all_goals (rw [show ((6 : Nat) : Int) = 6 from rfl] at HST)
      all_goals (have e4 : W3.cell? ⟨w.heap.size, 4, none⟩ = some (.int .i64 (da : Nat)) := TR.out.cell 4)
      all_goals (have e5 := TR.out.lt)
      all_goals (have e6 := RD.out.block)
      all_goals (clear hW3 z2 z4 z6 za zb zc)
      all_goals (go_region_with (first | (go_at_call 105; refine HST.out.mono ?_; rintro e w8 ⟨rfl, r8, k8⟩; have R8 := hide r8; have K8 := hide (KP.out.trans k8.of_drew); clear r8 k8)))
      all_goals (try go_wp2_with fail)
      all_goals go_ret
      all_goals (rw [HS.out])
      all_goals exact ⟨rfl, R8.out, K0.out.trans K8.out, HV0.out.kept K8.out hg0⟩
  · have HEO := hide hEok
    clear hEok
    by_cases hq : Q = da + l
    · have HS : Hid (S = (P, E)) := by show _ = _; rw [HAL.out, if_pos hq]
      have dq : ((Q : Int) != (da : Int) + (l : Int)) = false := by simp; omega
      clear hq
      go_enter Tryz.func110, Tryz.ntmps110
      go_wp2_with fail
      rw [HW0.out]
      go_region_with (first | (go_at_call 118; refine HN.out.mono ?_; rintro e w2 ⟨v2, rfl, i2, b2⟩; obtain ⟨z2, z4, z6, za, zb, zc, z7, z8, z9⟩ := HZ.out w2 v2 i2 b2; obtain ⟨x2, rfl⟩ := i2.ptr HEO.out; have RD := hide z7; have KP := hide z8; have TR := hide z9; clear i2 b2 z7 z8 z9 c0 d4))
      all_goals (try go_wp2_with fail)
      all_goals go_ret
      all_goals (rw [HS.out])
      all_goals exact ⟨rfl, RD.out, K0.out.trans KP.out, HV0.out.kept KP.out hg0⟩
    · have HS : Hid (S = stp da 6 (P, E)) := by show _ = _; rw [HAL.out, if_neg hq]
      have dq : ((Q : Int) != (da : Int) + (l : Int)) = true := by simp; omega
      clear hq
      go_enter Tryz.func110, Tryz.ntmps110
      go_wp2_with fail
      rw [HW0.out]
      go_region_with (first | (go_at_call 118; refine HN.out.mono ?_; rintro e w2 ⟨v2, rfl, i2, b2⟩; obtain ⟨z2, z4, z6, za, zb, zc, z7, z8, z9⟩ := HZ.out w2 v2 i2 b2; obtain ⟨x2, rfl⟩ := i2.ptr HEO.out; have RD := hide z7; have KP := hide z8; have TR := hide z9; clear i2 b2 z7 z8 z9 c0 d4))
      all_goals (try go_wp2_with fail)
      all_goals (obtain ⟨W3, hW3⟩ : ∃ W3, W3 = w2.setCell ⟨g, 2, none⟩ (.iface 156 (.pointer (some ⟨x2, 0, none⟩))) := ⟨_, rfl⟩)
      all_goals (rw [← hW3] at RD KP TR ⊢)
      all_goals (have HST := hide (stop_at g 148 [] a n c b (P, E) (da : Nat) da 6 W3.drew RD.out.drew (fun _ => rfl)))
      all_goals (rw [show ((6 : Nat) : Int) = 6 from rfl] at HST)
      all_goals (have e4 : W3.cell? ⟨w.heap.size, 4, none⟩ = some (.int .i64 (da : Nat)) := TR.out.cell 4)
      all_goals (have e5 := TR.out.lt)
      all_goals (have e6 := RD.out.block)
      all_goals (clear hW3 z2 z4 z6 za zb zc)
      all_goals (go_region_with (first | (go_at_call 105; refine HST.out.mono ?_; rintro e w8 ⟨rfl, r8, k8⟩; have R8 := hide r8; have K8 := hide (KP.out.trans k8.of_drew); clear r8 k8)))
      all_goals (try go_wp2_with fail)
      all_goals go_ret
      all_goals (rw [HS.out])
      all_goals exact ⟨rfl, R8.out, K0.out.trans K8.out, HV0.out.kept K8.out hg0⟩
end Go.Proofs.YtabkelhipmijfaaGreatDoor
