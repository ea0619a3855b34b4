/-
  The reference dials; conditions as each theorem has them.
-/
import Derived.Test.YtjojhnkibgkleaaYG
import Derived.Test.YtjojhnkibgkleaaV
set_option linter.unusedSimpArgs false
set_option linter.unusedVariables false
set_option maxRecDepth 8000
namespace Go.Proofs.Ytjojhnkibgkleaa
open Go.RowKit Go.Lib

variable {w : World} {S : Nat → Prop} {y eb ec : Nat} {ea : Option Addr} {bv ov : Value} {Y : Nat → Nat} {V : Nat → Value} {E : Nat → Nat} {P : Pt}
attribute [local go_sem ↓] run_apO Go.wp_at_zero Go.wp_at_succ
set_option maxRecDepth 100000 in
set_option maxHeartbeats 1000000 in
theorem dial_r (h : IsRP w S y eb ec ea bv ov Y V E P) (hlen : P.ou.length ≤ 1900000000000) (d : De) (hnm : d.nm.size ≤ maxLen) :
    Calls Try.prog 62 #[.pointer (some ⟨y, 0, none⟩), .agg #[.int .u8 d.a1, .int .u8 d.a2, .int .u8 d.a3, .int .u8 d.a4, .string d.nm, .int .i64 d.po]] w fun x w' => x = .returned (.tuple #[.int .i64 (dialN P d), .int .i64 (dialC P d)]) ∧ RPort w' (grow S w w') y (dialP P d) ∧ KeptS S w w' := by
  have hbx := de_below w (.int .u8 d.a1) (.int .u8 d.a2) (.int .u8 d.a3) (.int .u8 d.a4) (.string d.nm) (.int .i64 d.po)
  have hp := h.below hbx
  have HBX := hide hbx
  obtain ⟨h0, h1, h2, h3, h4⟩ := hp.cells
  have H0 := hide h
  have HP := hide hp
  have hn := h.ok.n
  have hc := h.ok.c
  have HROW := hide (fun i (hi : i < P.L.length) => hp.end_ hi)
  by_cases hb : badD d = true
  · have e1 : dialC P d = 2 := by simp [dialC, hb]
    have e2 : dialN P d = 0 := by simp [dialN, e1]
    have e3 : dialP P d = P := by simp [dialP, e1]
    rw [e1, e2, e3]
    unfold badD at hb
    clear e1 e2 e3 h hbx hp
    by_cases p1 : d.po < 1
    · go_enter Try.func62, Try.ntmps62
      go_wp2_with fail
      go_ret2
      exact ⟨rfl, H0.out.stay HBX.out⟩
    · by_cases p2 : 65535 < d.po
      · go_enter Try.func62, Try.ntmps62
        go_wp2_with fail
        go_ret2
        exact ⟨rfl, H0.out.stay HBX.out⟩
      · have hz : d.nm.size ≠ 0 := by
          intro e0
          simp [p1, p2, e0] at hb
        have hne : ¬ d.nm.toList = [] := fun e => hz (by rw [Lib.toList_data] at e; have := congrArg List.length e; simpa using this)
        have hne2 : (d.nm.toList == []) = false := by simp [hne]
        clear hz
        clear hb
        go_enter Try.func62, Try.ntmps62
        go_wp2_with fail
        go_ret2
        exact ⟨rfl, H0.out.stay HBX.out⟩
  · have hb' : badD d = false := by simpa using hb
    unfold badD at hb'
    simp only [Bool.or_eq_false_iff, decide_eq_false_iff_not, Nat.not_lt, Int.not_lt] at hb'
    obtain ⟨⟨p1, p2⟩, p3⟩ := hb'
    have hnm0 : d.nm.toList = [] := by rw [emp_of (t := d.nm) (by omega), Lib.toList_data]; rfl
    have hnm2 : (d.nm.toList == []) = true := by rw [hnm0]; rfl
    have HD : Hid (∀ k : Nat, nextD P = k → (k < P.L.length → dialC P d = 0 ∧ dialN P d = k ∧ dialP P d = { P with L := P.L.set k (z 2), ou := P.ou ++ [otD k d] }) ∧ (P.L.length ≤ k → dialC P d = 4 ∧ dialN P d = 0 ∧ dialP P d = P)) := fun k hk => by
      unfold dialN dialP dialC
      rw [if_neg hb, hk]
      refine ⟨fun h => ?_, fun h => ?_⟩
      · rw [if_pos h]; exact ⟨rfl, rfl, rfl⟩
      · rw [if_neg (by omega)]; exact ⟨rfl, rfl, rfl⟩
    have hnd : Hid (nextD P = fnd (fun j => decide ((at0 P.L j).st = 0)) P.c (P.L.length - P.c)) := rfl
    clear h hbx hp hb p3 hnm
    go_enter Try.func62, Try.ntmps62
    go_wp2_with fail
    go_loop [6] (fun i => ∃ k : Nat, P.c ≤ k ∧ k ≤ P.L.length ∧ i = .int .i64 k ∧ Hid (∀ j, P.c ≤ j → j < k → decide ((at0 P.L j).st = 0) = false)) (fun i => P.L.length - (Go.RowKit.intOf i).toNat)
    case atStart => exact ⟨P.c, Nat.le_refl _, hc, rfl, fun j h0 hj => by omega⟩
    case round =>
      obtain ⟨k, hk0, hk, rfl, HJ⟩ := hrel
      by_cases hlt : k < P.L.length
      · obtain ⟨z2, ⟨c0, c1, c2, c3, c4, c5⟩, fr, hc1, hc2, hn2⟩ := HROW.out k hlt
        clear fr h2
        by_cases hs : (at0 P.L k).st = 0
        · rw [hs] at c0
          have hNk := hide ((HD.out k (by rw [hnd.out]; exact fnd_eq hk0 (by omega) HJ.out (fun _ => by simp [hs]))).1 hlt)
          clear hs
          have HBB := hide (fun (w4 : World) (hb : Below (w.alloc (.cells #[.int .u8 d.a1, .int .u8 d.a2, .int .u8 d.a3, .int .u8 d.a4, .string d.nm, .int .i64 d.po] 39)).heap.size (w.alloc (.cells #[.int .u8 d.a1, .int .u8 d.a2, .int .u8 d.a3, .int .u8 d.a4, .string d.nm, .int .i64 d.po] 39)) w4) => hb)
          have hz := hide H0.out.ok.z1
          go_wp2_with fail
          go_region_with (go_at_call 40; refine (fresh_w y P.sz 2 _ ?_ hz.out).mono ?_; exact h1; rintro x w4 ⟨yn, rfl, hyn, hr, k1⟩; have hb := HBB.out w4 ((Below.refl _ _).drew.trans k1); obtain ⟨q3, -, fr, -, -, -⟩ := (HP.out.below hb).end_ hlt; obtain ⟨e0, e1, e2, e3, e4, e5⟩ := ((HP.out.below hb).row (show 0 < P.L.length by omega)).2.1.at_ hlt; have f0 := fr (k * 6); have f1 := fr (k * 6 + 1); have f2 := fr (k * 6 + 2); have f3 := fr (k * 6 + 3); have f4 := fr (k * 6 + 4); have f5 := fr (k * 6 + 5); have HPP := hide (fresh_put HP.out hlt 2 (by omega) hyn hr hb); have HB4 := hide hb; clear hyn hr hb fr k1)
          all_goals
            obtain ⟨W5, hW5⟩ : ∃ W5, W5 = putE w4 eb k 2 false (.pointer (some ⟨yn, 0, none⟩)) := ⟨_, rfl⟩
            have hW6 := hW5
            unfold putE at hW6
            rw [← hW6]
            rw [← hW5] at HPP
            have hwb : W5.heap[w.heap.size]? = (w.alloc (.cells #[.int .u8 d.a1, .int .u8 d.a2, .int .u8 d.a3, .int .u8 d.a4, .string d.nm, .int .i64 d.po] 39)).heap[w.heap.size]? := by
              rw [hW5]
              have hs1 : w.heap.size < (w.alloc (.cells #[.int .u8 d.a1, .int .u8 d.a2, .int .u8 d.a3, .int .u8 d.a4, .string d.nm, .int .i64 d.po] 39)).heap.size := by show _ < (w.heap.push _).size; simp
              refine ((putE_kept w4 eb k 2 false (.pointer (some ⟨yn, 0, none⟩))).block _ (Nat.lt_of_lt_of_le hs1 HB4.out.size) (fun e => ?_)).trans (HB4.out.block _ hs1)
              have := H0.out.lt _ (H0.out.row (show 0 < P.L.length by omega)).2.2
              omega
            have q0 : W5.cell? ⟨w.heap.size, 0, none⟩ = some (.int .u8 d.a1) := (World.cell?_of_block hwb).trans (World.cell?_alloc_new w _ _ 0)
            have q1 : W5.cell? ⟨w.heap.size, 1, none⟩ = some (.int .u8 d.a2) := (World.cell?_of_block hwb).trans (World.cell?_alloc_new w _ _ 1)
            have q2 : W5.cell? ⟨w.heap.size, 2, none⟩ = some (.int .u8 d.a3) := (World.cell?_of_block hwb).trans (World.cell?_alloc_new w _ _ 2)
            have q3 : W5.cell? ⟨w.heap.size, 3, none⟩ = some (.int .u8 d.a4) := (World.cell?_of_block hwb).trans (World.cell?_alloc_new w _ _ 3)
            have q4 : W5.cell? ⟨w.heap.size, 4, none⟩ = some (.string d.nm) := (World.cell?_of_block hwb).trans (World.cell?_alloc_new w _ _ 4)
            have q5 : W5.cell? ⟨w.heap.size, 5, none⟩ = some (.int .i64 d.po) := (World.cell?_of_block hwb).trans (World.cell?_alloc_new w _ _ 5)
            have v4 := HPP.out.1.cells.2.2.2.2
            have hyl : y < W5.heap.size := cell_lt v4
            obtain ⟨av, cv, w3, a1, a2, a3, a4, a5, hP3, hK3⟩ := rout_step HPP.out.1 (otD k d) hlen W5.drew ((Below.refl _ _).drew)
            have HP3 := hide hP3
            have HK3 := hide hK3
            simp only [otC, otD, emp] at a1 a2 a3
            have hcy2 : (W5.alloc (.cells #[.int .i64 0, .int .i64 1, .int .i64 k, .string ⟨#[]⟩, .int .u8 d.a1, .int .u8 d.a2, .int .u8 d.a3, .int .u8 d.a4, .string d.nm, .int .i64 d.po] 68)).cell? ⟨y, 4, none⟩ = some ov := (World.cell?_of_block (Below.heap_alloc _ _ _ hyl)).trans v4
            have b1 : apOk Try.prog 52 ov (.slice (some ⟨W5.heap.size, 0, none⟩) 1 1) ((W5.alloc (.cells #[.int .i64 0, .int .i64 1, .int .i64 k, .string ⟨#[]⟩, .int .u8 d.a1, .int .u8 d.a2, .int .u8 d.a3, .int .u8 d.a4, .string d.nm, .int .i64 d.po] 68)).drew) = true := a1
            have b2 : apV Try.prog 52 ov (.slice (some ⟨W5.heap.size, 0, none⟩) 1 1) ((W5.alloc (.cells #[.int .i64 0, .int .i64 1, .int .i64 k, .string ⟨#[]⟩, .int .u8 d.a1, .int .u8 d.a2, .int .u8 d.a3, .int .u8 d.a4, .string d.nm, .int .i64 d.po] 68)).drew) = .slice av (P.ou.length + 1) cv := a2
            have b3 : apW Try.prog 52 ov (.slice (some ⟨W5.heap.size, 0, none⟩) 1 1) ((W5.alloc (.cells #[.int .i64 0, .int .i64 1, .int .i64 k, .string ⟨#[]⟩, .int .u8 d.a1, .int .u8 d.a2, .int .u8 d.a3, .int .u8 d.a4, .string d.nm, .int .i64 d.po] 68)).drew) = w3 := a3
            clear a1 a2 a3 hP3 hK3 hW5 hW6 hwb c0 c1 c2 c3 c4 c5 e0 e1 e2 e3 e4 e5 f0 f1 f2 f3 f4 f5 z2 h4 h3 h1 h0
            go_wp2_with fail
            go_region
            all_goals
              go_wp2_with fail
              go_ret2
              obtain ⟨e1, e2, e3⟩ := hNk.out
              rw [e1, e2, e3]
              exact ⟨rfl, RPort.of (rgrow2 HBX.out.size HPP.out.2.size HK3.out.size HP3.out), (KeptS.of_below HBX.out).trans (HPP.out.2.grow2 HK3.out) (fun _ => Or.inl)⟩
        · have hs2 : ((at0 P.L k).st == 0) = false := by simp [hs]
          have hs3 := hide hs
          go_wp2_with fail
          go_round
          case rel => exact ⟨k + 1, by omega, by omega, by go_num, fun j h0 hj => by
            by_cases e : j = k
            · subst e; simp [hs3.out]
            · exact HJ.out j h0 (by omega)⟩
          case measure => simp [Go.RowKit.intOf]; omega
      · have hNk := hide ((HD.out P.L.length (by rw [hnd.out]; exact fnd_eq (by omega) (by omega) (fun j h0 hj => HJ.out j h0 (by omega)) (fun hh => by omega))).2 (Nat.le_refl _))
        go_wp2_with fail
        go_ret2
        obtain ⟨e1, e2, e3⟩ := hNk.out
        rw [e1, e2, e3]
        exact ⟨rfl, H0.out.stay HBX.out⟩

end Go.Proofs.Ytjojhnkibgkleaa
