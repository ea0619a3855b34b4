/-
  readRequestLine of package head; conditions as each theorem has them.
-/
import Derived.Test.YtccoddmdlbdfjaaGreatDoorHG
set_option linter.unusedSimpArgs false
set_option linter.unusedVariables false
namespace Go.Proofs.YtccoddmdlbdfjaaGreatDoor
open Go.RowKit

/-- A request as cells. -/
def rqC (q : Rq) (sl : Value) : Array Value := (Value.string (strN q.1) :: (nums .u8 q.2.1.1.1 ++ [Value.string (strN q.2.1.1.2), Value.int .i64 (q.2.1.2 : Nat), Value.string (strN q.2.2), sl])).toArray
def z9 : Array Value := #[.string ⟨#[]⟩, .int .u8 0, .int .u8 0, .int .u8 0, .int .u8 0, .string ⟨#[]⟩, .int .i64 0, .string ⟨#[]⟩, .slice none 0 0]
theorem z9_eq : rqC noR (.slice none 0 0) = z9 := rfl
theorem z9_one : z9.all (·.oneCell') = true := by simp [z9, Value.oneCell']
theorem info44 : (Tryz.prog.info? 34).map (·.size) = some 9 := by kernel_rfl
theorem run_opst44 (ρ : Operand → Value) (dst : Option Tmp) (x y : Operand) (ty : TypeId) (pos : String) (after : Array Edge) (guard : Option (Nat × Bool)) (w : World) (h : canPut 9 34 w (ρ x) (ρ y) = true) :
    (execOp ρ { dst, op := .store 34 x y, type := ty, pos, after, guard }).run Tryz.prog w = .ok .skip (putAt w (ρ x) (ρ y)) := by
  unfold canPut at h
  split at h
  · rename_i g cs e1 e2
    simp only [Bool.and_eq_true, beq_iff_eq] at h
    obtain ⟨⟨h0, h1⟩, h3⟩ := h
    split at h0
    · rename_i old t' hg
      simp only [Bool.and_eq_true, beq_iff_eq] at h0
      have := run_storeVar_row (P := Tryz.prog) w g t' 34 old cs hg (by rw [h1]; exact info44) (by omega) h3
      unfold execOp
      simp only [e1, e2, Instr.storeAt, Instr.sureAddr, Sem.run_bind, Sem.run_pure, Result.andThen_ok, this, putAt]
    · cases h0
  · cases h
attribute [local go_sem ↓] run_opst44 Go.wp_at_zero Go.wp_at_succ
attribute [local go_sem] putAt_ptr canPut_drew setRow_drew
theorem bl_mem : ∀ (l : List Nat) (p : List Nat), p ∈ bl l → (∀ x ∈ p, x ∈ l) ∧ p.length ≤ l.length
  | [], p, h => by simp [bl] at h; subst h; simp
  | c :: r, p, h => by
    have ih := bl_mem r
    have hne := bl_ne r
    unfold bl at h
    split at h
    · simp at h
      rcases h with rfl | h
      · simp
      · have := ih p h
        exact ⟨fun x hx => by simp [this.1 x hx], by simp; omega⟩
    · cases hb : bl r with
      | nil => exact absurd hb hne
      | cons q qs =>
        rw [hb] at h ih
        simp at h
        rcases h with rfl | h
        · have := ih q (by simp)
          refine ⟨fun x hx => ?_, by simp; omega⟩
          simp at hx
          rcases hx with rfl | hx
          · simp
          · simp [this.1 x hx]
        · have := ih p (by simp [h])
          exact ⟨fun x hx => by simp [this.1 x hx], by simp; omega⟩
theorem fin9 {w wN : World} {cs : Array Value} (h1 : wN.heap[w.heap.size]? = some (.cells z9 34)) (h2 : Below w.heap.size w wN) {er : Hr} {v : Value} (h3 : IsH wN er v) : ∃ W2, W2 = wN.setRow w.heap.size cs ∧ W2.heap[w.heap.size]? = some (.cells cs 34) ∧ Below w.heap.size w W2 ∧ IsH W2 er v :=
  ⟨_, rfl, setRow_heap _ _ _ _ _ h1, below_setRow h2 (Nat.le_refl _) _, h3.keep fun b C hb => setRow_ne _ _ _ _ fun e => by subst e; rw [h1] at hb; simp at hb⟩
theorem rline_not {x : List Nat} (h : (bl x).length ≠ 3) : rline x = (noR, .one 0 80) := by
  unfold rline
  split
  · rename_i hb; rw [hb] at h; simp at h
  · rfl
theorem rline_three {x m t v : List Nat} (h : bl x = [m, t, v]) : rline x = if ver v = false ∨ lone x = true then (noR, .one 0 80) else if tok m = false then (noR, .one 0 81) else targ m t := by
  unfold rline; rw [h]

set_option maxRecDepth 100000 in
set_option maxHeartbeats 4000000 in
theorem rline_at (t : ByteArray) (w : World) (hm : t.size ≤ 8192) (hV : Vars w) (hE : VarE w) : Calls Tryz.prog 55 #[.string t] w fun e w' => ∃ q v, e = .returned (.tuple #[.agg (rqC q (.slice none 0 0)), v]) ∧ q.2.1.1.1.length = 4 ∧ IsH w' (rline (byt t)).2 v ∧ ((rline (byt t)).2 = .ok → q = (rline (byt t)).1) ∧ Below w.heap.size w w' := by
  have hlb := byt_lt t
  have hll := byt_length t
  have HLO : Hid (∀ W, Calls Tryz.prog 91 #[.string t] W fun e w' => e = .returned (.bool (lone (byt t))) ∧ Below W.heap.size W w') := fun W => loneEnd_at t W (by omega)
  have b0 : Below w.heap.size w (w.alloc (.cells z9 34)) := (Below.refl _ _).alloc (Nat.le_refl _) _
  obtain ⟨mm, hmv⟩ := hV.below b0
  have e0 := hE.below b0
  have v0 := hV.below b0
  obtain ⟨W0, hW0⟩ : ∃ W0, W0 = w.alloc (.cells z9 34) := ⟨_, rfl⟩
  rw [← hW0] at b0 hmv e0 v0
  have r0 : W0.heap[w.heap.size]? = some (.cells z9 34) := by rw [hW0]; exact alloc_new _ _
  have HW0 : Hid (w.alloc (.cells #[.string ⟨#[]⟩, .int .u8 0, .int .u8 0, .int .u8 0, .int .u8 0, .string ⟨#[]⟩, .int .i64 0, .string ⟨#[]⟩, .slice none 0 0] 34) = W0) := hW0.symm
  obtain ⟨B, hB⟩ : ∃ B, B = W0.heap.size := ⟨_, rfl⟩
  have HSP := hide (blsplit_at t mm W0 B hB (by omega) hmv)
  obtain ⟨l, hl⟩ : ∃ l, l = byt t := ⟨_, rfl⟩
  rw [← hl] at HSP HLO hlb hll ⊢
  obtain ⟨ps, hps⟩ : ∃ ps, ps = bl l := ⟨_, rfl⟩
  rw [← hps] at HSP
  obtain ⟨W1, hW1⟩ : ∃ W1, W1 = W0.alloc (.cells (strs ps).toArray 9) := ⟨_, rfl⟩
  have b1 : Below W0.heap.size W0 W1 := by rw [hW1]; exact (Below.refl _ _).alloc (Nat.le_refl _) _
  have P1 : Row W1 B 9 (strs ps) := by rw [hW1, hB]; exact Row.new W0 (strs ps).toArray 9
  have R1 := hide (keepB b1 r0)
  have B1 := hide (b0.trans (b1.mono b0.size))
  have V1 := hide (v0.below b1)
  have E1 := hide (e0.below b1)
  rw [← hW1] at HSP
  clear b0 hmv e0 v0 hW0 r0 hW1 b1 hV hE hB
  by_cases h3 : ps.length = 3
  · obtain ⟨m, g, v, rfl⟩ : ∃ m g v, ps = [m, g, v] := by
      match ps, h3 with
      | [a, b, c], _ => exact ⟨a, b, c, rfl⟩
    have hbm := fun p hp => bl_mem l p (by rw [← hps]; exact hp)
    have hmb : ∀ c ∈ m, c < 256 := fun c hc => hlb c ((hbm m (by simp)).1 c hc)
    have hgb : ∀ c ∈ g, c < 256 := fun c hc => hlb c ((hbm g (by simp)).1 c hc)
    have hvb : ∀ c ∈ v, c < 256 := fun c hc => hlb c ((hbm v (by simp)).1 c hc)
    have hml : m.length ≤ 8192 := by have := (hbm m (by simp)).2; omega
    have hgl : g.length ≤ 8192 := by have := (hbm g (by simp)).2; omega
    have HRL := hide (rline_three hps.symm)
    have p0 : W1.cell? ⟨B, 0, none⟩ = some (.string (strN m)) := by rw [P1.cell]; rfl
    have p1 : W1.cell? ⟨B, 1, none⟩ = some (.string (strN g)) := by rw [P1.cell]; rfl
    have p2 : W1.cell? ⟨B, 2, none⟩ = some (.string (strN v)) := by rw [P1.cell]; rfl
    have HVE : Hid (∀ W, Calls Tryz.prog 90 #[.string (strN v)] W fun e w' => e = .returned (.bool (ver v)) ∧ W = w') := fun W => by
      have := isVersion_at (strN v) W
      rw [byt_strN v hvb] at this; exact this
    have HTO : Hid (∀ W, Calls Tryz.prog 92 #[.string (strN m)] W fun e w' => e = .returned (.bool (tok m)) ∧ Below W.heap.size W w') := fun W => by
      have := token_at (strN m) W (by rw [strN_size]; unfold maxLen; omega)
      rw [byt_strN m hmb] at this; exact this
    have HPD : Hid (∀ W, Vars W → VarE W → Calls Tryz.prog 93 #[.string (strN g)] W fun e w' => ∃ u, e = .returned (.tuple #[.agg (deC (dest g).1), u]) ∧ IsEr w' (dest g).2 u ∧ Below W.heap.size W w') := fun W h1 h2 => by
      have := parseDest_at (strN g) W (by rw [strN_size]; unfold maxLen; omega) h1 h2
      rw [byt_strN g hgb] at this; exact this
    have HCT : Hid (∀ W, Calls Tryz.prog 95 #[.string (strN g)] W fun e w' => ∃ A B, e = .returned (.tuple #[.string A, .string B, .bool (okT g)]) ∧ (okT g = true → A = strN (cutT g).1 ∧ B = strN (cutT g).2) ∧ Below W.heap.size W w') := fun W => by
      have := cutTarget_at (strN g) W (by rw [strN_size]; omega)
      rw [byt_strN g hgb] at this; exact this
    have hctb : ∀ c ∈ (cutT g).1, c < 256 := fun c hc => hgb c (by
      unfold cutT at hc
      split at hc
      · exact List.mem_of_mem_drop hc
      · exact List.mem_of_mem_drop (List.mem_of_mem_take hc))
    have hctl : (cutT g).1.length ≤ 8192 := by
      unfold cutT
      split
      · simp; omega
      · simp; omega
    have HRT : Hid (∀ W, Vars W → VarE W → Calls Tryz.prog 96 #[.string (strN (cutT g).1)] W fun e w' => ∃ d u, e = .returned (.tuple #[.agg (deC d), u]) ∧ d.1.1.length = 4 ∧ IsEr w' (goTo (cutT g).1).2 u ∧ ((goTo (cutT g).1).2 = .ok → d = (goTo (cutT g).1).1) ∧ Below W.heap.size W w') := fun W h1 h2 => by
      have := readTo_at (strN (cutT g).1) W (by rw [strN_size]; omega) h1 h2
      rw [byt_strN _ hctb] at this; exact this
    have HMC := toList_byt (strN m) [67, 79, 78, 78, 69, 67, 84]
    rw [byt_strN m hmb, show ([67, 79, 78, 78, 69, 67, 84] : List UInt8).map UInt8.toNat = conn from rfl] at HMC
    obtain ⟨M, hM⟩ : ∃ M, M = strN m := ⟨_, rfl⟩
    obtain ⟨Gt, hGt⟩ : ∃ M, M = strN g := ⟨_, rfl⟩
    obtain ⟨Vt, hVt⟩ : ∃ M, M = strN v := ⟨_, rfl⟩
    have hMs : (M.size : Int) = (m.length : Int) := by rw [hM, strN_size]
    rw [← hM] at p0 HTO HMC
    rw [← hGt] at p1 HPD HCT
    rw [← hVt] at p2 HVE
    obtain ⟨L, hL⟩ : ∃ L, L = m.length := ⟨_, rfl⟩
    rw [← hL] at hMs hml
    have HL := hide hL
    have HM := hide hM
    clear hlb hll hps h3 hbm hmb hgb hvb hgl hctb hctl hM hGt hVt hL P1 hl hm
    go_enter Tryz.func55, Tryz.ntmps55
    go_wp2_with fail
    rw [HW0.out]
    refine HSP.out.mono ?_
    rintro e w1 ⟨rfl, hw1⟩
    rw [hw1]
    clear hw1
    go_wp2_with fail
    refine (HVE.out _).mono ?_
    rintro e w2 ⟨rfl, hw2⟩
    rw [← hw2]
    clear hw2
    cases hve : ver v with
    | false =>
      have HR : Hid (rline l = (noR, .one 0 80)) := by show _ = _; rw [HRL.out, if_pos (Or.inl hve)]
      clear hve
      go_wp2_with fail
      refine (refuseH_er 0 80 W1).mono ?_
      rintro e wE ⟨vE, rfl, hE1, hE2⟩
      obtain ⟨W9, hW9, f2, f5, f3⟩ := fin9 (cs := z9) (keepB hE2 R1.out) (B1.out.trans (hE2.mono B1.out.size)) hE1
      have R9 := hide (keepB hE2 R1.out)
      have F2 := hide f2
      have F3 := hide f3
      have F5 := hide f5
      have HW9 := hide hW9
      clear hE1 hE2 hW9 f2 f5 f3
      go_wp2_with (first | (refine wpList_store_rowW rfl 34 _ _ rfl w.heap.size z9 rfl rfl 34 z9 R9.out info44 rfl z9_one W9 HW9.out ?_))
      refine bodyPost_ret (res_cell_tmp rfl _ _ w.heap.size 34 z9 (0, 0) _ rfl F2.out Tryz.underlying34 rfl info44) rfl ⟨noR, vE, rfl, rfl, (by rw [HR.out]; exact F3.out), (fun h => by rw [HR.out] at h; cases h), F5.out⟩
    | true =>
      go_wp2_with fail
      refine (HLO.out _).mono ?_
      rintro e w2 ⟨rfl, hb2⟩
      have R2 := hide (keepB hb2 R1.out)
      have B2 := hide (B1.out.trans (hb2.mono B1.out.size))
      have V2 := hide (V1.out.below hb2)
      have E2 := hide (E1.out.below hb2)
      have q0 : w2.cell? ⟨B, 0, none⟩ = some (.string M) := (hb2.cell (lt_of_cell p0)).trans p0
      have q1 : w2.cell? ⟨B, 1, none⟩ = some (.string Gt) := (hb2.cell (lt_of_cell p1)).trans p1
      clear hb2 R1 B1 V1 E1 p0 p1 p2
      cases hlo : lone l with
      | true =>
        have HR : Hid (rline l = (noR, .one 0 80)) := by show _ = _; rw [HRL.out, if_pos (Or.inr hlo)]
        clear hve hlo
        go_wp2_with fail
        refine (refuseH_er 0 80 w2).mono ?_
        rintro e wE ⟨vE, rfl, hE1, hE2⟩
        obtain ⟨W9, hW9, f2, f5, f3⟩ := fin9 (cs := z9) (keepB hE2 R2.out) (B2.out.trans (hE2.mono B2.out.size)) hE1
        have R9 := hide (keepB hE2 R2.out)
        have F2 := hide f2
        have F3 := hide f3
        have F5 := hide f5
        have HW9 := hide hW9
        clear hE1 hE2 hW9 f2 f5 f3
        go_wp2_with (first | (refine wpList_store_rowW rfl 34 _ _ rfl w.heap.size z9 rfl rfl 34 z9 R9.out info44 rfl z9_one W9 HW9.out ?_))
        refine bodyPost_ret (res_cell_tmp rfl _ _ w.heap.size 34 z9 (0, 0) _ rfl F2.out Tryz.underlying34 rfl info44) rfl ⟨noR, vE, rfl, rfl, (by rw [HR.out]; exact F3.out), (fun h => by rw [HR.out] at h; cases h), F5.out⟩
      | false =>
        have HRL2 : Hid (rline l = if tok m = false then (noR, .one 0 81) else targ m g) := by show _ = _; rw [HRL.out, if_neg (by simp [hve, hlo])]
        clear hve hlo HRL
        go_wp2_with fail
        go_region
        go_wp2_with fail
        refine (HTO.out _).mono ?_
        rintro e w3 ⟨rfl, hb3'⟩
        have hb3 : Below w2.heap.size w2 w3 := ⟨hb3'.os, hb3'.tape, hb3'.output, hb3'.size, hb3'.block⟩
        clear hb3'
        have R3 := hide (keepB hb3 R2.out)
        have B3 := hide (B2.out.trans (hb3.mono B2.out.size))
        have V3 := hide (V2.out.below hb3)
        have E3 := hide (E2.out.below hb3)
        clear hb3 R2 B2 V2 E2 q0 q1
        cases hto : tok m with
        | false =>
          have HR : Hid (rline l = (noR, .one 0 81)) := by show _ = _; rw [HRL2.out, if_pos hto]
          clear hto
          go_wp2_with fail
          refine (refuseH_er 0 81 w3).mono ?_
          rintro e wE ⟨vE, rfl, hE1, hE2⟩
          obtain ⟨W9, hW9, f2, f5, f3⟩ := fin9 (cs := z9) (keepB hE2 R3.out) (B3.out.trans (hE2.mono B3.out.size)) hE1
          have R9 := hide (keepB hE2 R3.out)
          have F2 := hide f2
          have F3 := hide f3
          have F5 := hide f5
          have HW9 := hide hW9
          clear hE1 hE2 hW9 f2 f5 f3
          go_wp2_with (first | (refine wpList_store_rowW rfl 34 _ _ rfl w.heap.size z9 rfl rfl 34 z9 R9.out info44 rfl z9_one W9 HW9.out ?_))
          refine bodyPost_ret (res_cell_tmp rfl _ _ w.heap.size 34 z9 (0, 0) _ rfl F2.out Tryz.underlying34 rfl info44) rfl ⟨noR, vE, rfl, rfl, (by rw [HR.out]; exact F3.out), (fun h => by rw [HR.out] at h; cases h), F5.out⟩
        | true =>
          have HRL3 : Hid (rline l = targ m g) := by show _ = _; rw [HRL2.out, if_neg (by simp [hto])]
          clear hto HRL2
          by_cases hmc : m = conn
          · rw [decide_eq_true hmc] at HMC
            have hln : (dest g).1.1.1.length = 4 := dest_len g
            obtain ⟨D, er, hd⟩ : ∃ D er, dest g = (D, er) := ⟨_, _, rfl⟩
            have HT1 : Hid (er = .ok → targ m g = ((m, D, []), .ok)) := fun h => by unfold targ; rw [if_pos hmc, hd, h]
            have HT2 : Hid (er ≠ .ok → targ m g = (noR, .wr (L + 1) er)) := fun h => by
              unfold targ; rw [if_pos hmc, hd, HL.out]
              cases er with
              | ok => exact absurd rfl h
              | one a c => rfl
              | two a b c => rfl
            rw [hd] at HPD hln
            obtain ⟨⟨dA, dN⟩, dP⟩ := D
            obtain ⟨x0, x1, x2, x3, rfl⟩ := four hln
            simp only [deC, nums, List.map_cons, List.map_nil, List.cons_append, List.nil_append] at HPD
            obtain ⟨S, hS⟩ : ∃ S, S = strN dN := ⟨_, rfl⟩
            rw [← hS] at HPD
            have HS := hide hS
            clear hmc hln hd hS
            go_wp2_with fail
            refine (HPD.out _ V3.out E3.out).mono ?_
            rintro e w4 ⟨u, rfl, her, hb4⟩
            obtain ⟨W5, hW5⟩ : ∃ W5, W5 = w4.alloc (.cells #[.int .u8 (x0 : Nat), .int .u8 (x1 : Nat), .int .u8 (x2 : Nat), .int .u8 (x3 : Nat), .string S, .int .i64 (dP : Nat)] 31) := ⟨_, rfl⟩
            have b5 : Below w4.heap.size w4 W5 := by rw [hW5]; exact (Below.refl _ _).alloc (Nat.le_refl _) _
            have q5 : W5.heap[w4.heap.size]? = some (.cells #[.int .u8 (x0 : Nat), .int .u8 (x1 : Nat), .int .u8 (x2 : Nat), .int .u8 (x3 : Nat), .string S, .int .i64 (dP : Nat)] 31) := by rw [hW5]; exact alloc_new _ _
            have Q5 := hide q5
            have R5 := hide (keepB b5 (keepB hb4 R3.out))
            have bb : Below w.heap.size w w4 := B3.out.trans (hb4.mono B3.out.size)
            have B5 := hide (bb.trans (b5.mono bb.size))
            have E5 := hide ((E3.out.below hb4).below b5)
            have HER := hide (her.below b5)
            have HW5 : Hid (w4.alloc (.cells #[.int .u8 (x0 : Nat), .int .u8 (x1 : Nat), .int .u8 (x2 : Nat), .int .u8 (x3 : Nat), .string S, .int .i64 (dP : Nat)] 31) = W5) := hW5.symm
            clear hW5 b5 q5 bb hb4 her R3 B3 V3 E3
            by_cases hok : er = .ok
            · subst hok
              have hu : u = .nilIface := HER.out
              subst hu
              have HR : Hid (rline l = ((m, (([x0, x1, x2, x3], dN), dP), []), .ok)) := by show _ = _; rw [HRL3.out, HT1.out rfl]
              go_wp2_with (first | rw [HW5.out])
              try (rw [HW5.out]; go_wp2_with fail)
              have d0 : W5.cell? ⟨w4.heap.size, 0, none⟩ = some (.int .u8 (x0 : Nat)) := by simp [World.cell?, Q5.out]
              have d1 : W5.cell? ⟨w4.heap.size, 1, none⟩ = some (.int .u8 (x1 : Nat)) := by simp [World.cell?, Q5.out]
              have d2 : W5.cell? ⟨w4.heap.size, 2, none⟩ = some (.int .u8 (x2 : Nat)) := by simp [World.cell?, Q5.out]
              have d3 : W5.cell? ⟨w4.heap.size, 3, none⟩ = some (.int .u8 (x3 : Nat)) := by simp [World.cell?, Q5.out]
              have d4 : W5.cell? ⟨w4.heap.size, 4, none⟩ = some (.string S) := by simp [World.cell?, Q5.out]
              have d5 : W5.cell? ⟨w4.heap.size, 5, none⟩ = some (.int .i64 (dP : Nat)) := by simp [World.cell?, Q5.out]
              go_region_with (first | (go_at_call 94; refine (wrapH_nil (L + 1) _).mono ?_; rintro e w6 ⟨rfl, hb6'⟩; have hb6 : Below W5.heap.size W5 w6 := ⟨hb6'.os, hb6'.tape, hb6'.output, hb6'.size, hb6'.block⟩; have K6 := hide (keepB hb6 R5.out); have B6 := hide (B5.out.trans (hb6.mono B5.out.size)); have g0 := (hb6.cell (lt_of_cell d0)).trans d0; have g1 := (hb6.cell (lt_of_cell d1)).trans d1; have g2 := (hb6.cell (lt_of_cell d2)).trans d2; have g3 := (hb6.cell (lt_of_cell d3)).trans d3; have g4 := (hb6.cell (lt_of_cell d4)).trans d4; have g5 := (hb6.cell (lt_of_cell d5)).trans d5; have kp : canPut 9 34 w6 (.pointer (some ⟨w.heap.size, 0, none⟩)) (.agg #[.string M, .int .u8 (x0 : Nat), .int .u8 (x1 : Nat), .int .u8 (x2 : Nat), .int .u8 (x3 : Nat), .string S, .int .i64 (dP : Nat), .string ⟨#[]⟩, .slice none 0 0]) = true := canPut_row K6.out rfl rfl (by simp [Value.oneCell']); clear hb6 hb6'))
              all_goals (try go_wp2_with fail)
              all_goals refine bodyPost_ret (res_cell_tmp rfl _ _ w.heap.size 34 #[.string M, .int .u8 (x0 : Nat), .int .u8 (x1 : Nat), .int .u8 (x2 : Nat), .int .u8 (x3 : Nat), .string S, .int .i64 (dP : Nat), .string ⟨#[]⟩, .slice none 0 0] (0, 0) _ rfl (by exact setRow_heap _ _ _ _ _ K6.out) Tryz.underlying34 rfl info44) rfl ⟨(m, (([x0, x1, x2, x3], dN), dP), []), _, (by rw [HS.out, HM.out]; rfl), rfl, (by rw [HR.out]; rfl), (fun _ => by rw [HR.out]), (by exact below_setRow B6.out (Nat.le_refl _) _)⟩
            · have HR : Hid (rline l = (noR, .wr (L + 1) er)) := by show _ = _; rw [HRL3.out, HT2.out hok]
              have HOK := hide hok
              clear hok
              go_wp2_with (first | rw [HW5.out])
              try (rw [HW5.out]; go_wp2_with fail)
              have d0 : W5.cell? ⟨w4.heap.size, 0, none⟩ = some (.int .u8 (x0 : Nat)) := by simp [World.cell?, Q5.out]
              have d1 : W5.cell? ⟨w4.heap.size, 1, none⟩ = some (.int .u8 (x1 : Nat)) := by simp [World.cell?, Q5.out]
              have d2 : W5.cell? ⟨w4.heap.size, 2, none⟩ = some (.int .u8 (x2 : Nat)) := by simp [World.cell?, Q5.out]
              have d3 : W5.cell? ⟨w4.heap.size, 3, none⟩ = some (.int .u8 (x3 : Nat)) := by simp [World.cell?, Q5.out]
              have d4 : W5.cell? ⟨w4.heap.size, 4, none⟩ = some (.string S) := by simp [World.cell?, Q5.out]
              have d5 : W5.cell? ⟨w4.heap.size, 5, none⟩ = some (.int .i64 (dP : Nat)) := by simp [World.cell?, Q5.out]
              go_region_with (first | (go_at_call 94; refine (wrapH_er (L + 1) er u _ (by exact E5.out) HOK.out (by exact HER.out)).mono ?_; rintro e w6 ⟨v6, rfl, hi6, hb6'⟩; have I6 := hide hi6; clear hi6; have hb6 : Below W5.heap.size W5 w6 := ⟨hb6'.os, hb6'.tape, hb6'.output, hb6'.size, hb6'.block⟩; have K6 := hide (keepB hb6 R5.out); have B6 := hide (B5.out.trans (hb6.mono B5.out.size)); have g0 := (hb6.cell (lt_of_cell d0)).trans d0; have g1 := (hb6.cell (lt_of_cell d1)).trans d1; have g2 := (hb6.cell (lt_of_cell d2)).trans d2; have g3 := (hb6.cell (lt_of_cell d3)).trans d3; have g4 := (hb6.cell (lt_of_cell d4)).trans d4; have g5 := (hb6.cell (lt_of_cell d5)).trans d5; have kp : canPut 9 34 w6 (.pointer (some ⟨w.heap.size, 0, none⟩)) (.agg #[.string M, .int .u8 (x0 : Nat), .int .u8 (x1 : Nat), .int .u8 (x2 : Nat), .int .u8 (x3 : Nat), .string S, .int .i64 (dP : Nat), .string ⟨#[]⟩, .slice none 0 0]) = true := canPut_row K6.out rfl rfl (by simp [Value.oneCell']); clear hb6 hb6'))
              all_goals (try go_wp2_with fail)
              all_goals refine bodyPost_ret (res_cell_tmp rfl _ _ w.heap.size 34 #[.string M, .int .u8 (x0 : Nat), .int .u8 (x1 : Nat), .int .u8 (x2 : Nat), .int .u8 (x3 : Nat), .string S, .int .i64 (dP : Nat), .string ⟨#[]⟩, .slice none 0 0] (0, 0) _ rfl (by exact setRow_heap _ _ _ _ _ K6.out) Tryz.underlying34 rfl info44) rfl ⟨(m, (([x0, x1, x2, x3], dN), dP), []), _, (by rw [HS.out, HM.out]; rfl), rfl, (by rw [HR.out]; exact I6.out.keep fun b C hb => setRow_ne _ _ _ _ fun e => by subst e; rw [K6.out] at hb; simp at hb), (fun h => by rw [HR.out] at h; cases h), (by exact below_setRow B6.out (Nat.le_refl _) _)⟩
          · rw [decide_eq_false hmc] at HMC
            obtain ⟨L8, hL8⟩ : ∃ L8, L8 = L + 8 := ⟨_, rfl⟩
            have hwr1 : (L : Int) + 1 + 7 = (L8 : Int) := by omega
            have hwr2 : IntKind.i64.wrap ((L : Int) + 1 + 7) = (L8 : Int) := by rw [hwr1]; exact wrap_nat L8 (by omega)
            have hwr3 : IntKind.i64.wrap (L8 : Int) = (L8 : Int) := wrap_nat L8 (by omega)
            have HTG : Hid (targ m g = if okT g = false then (noR, .one (L + 1) 82) else match goTo (cutT g).1 with
                | (d, .ok) => ((m, d, (cutT g).2), .ok)
                | (_, e) => (noR, .wr L8 e)) := by
              show _ = _
              unfold targ; rw [if_neg hmc, hL8, HL.out]; rfl
            clear hmc HPD hL8
            go_wp2_with fail
            refine (HCT.out _).mono ?_
            rintro e w33 ⟨A, Pt, rfl, hAP, hb33⟩
            have R33 := hide (keepB hb33 R3.out)
            have B33 := hide (B3.out.trans (hb33.mono B3.out.size))
            have V33 := hide (V3.out.below hb33)
            have E33 := hide (E3.out.below hb33)
            clear hb33 R3 B3 V3 E3
            cases hok : okT g with
            | false =>
              have HR : Hid (rline l = (noR, .one (L + 1) 82)) := by show _ = _; rw [HRL3.out, HTG.out, if_pos hok]
              clear hok hAP
              go_wp2_with fail
              refine (refuseH_er (L + 1) 82 w33).mono ?_
              rintro e wE ⟨vE, rfl, hE1, hE2⟩
              obtain ⟨W9, hW9, f2, f5, f3⟩ := fin9 (cs := z9) (keepB hE2 R33.out) (B33.out.trans (hE2.mono B33.out.size)) hE1
              have R9 := hide (keepB hE2 R33.out)
              have F2 := hide f2
              have F3 := hide f3
              have F5 := hide f5
              have HW9 := hide hW9
              clear hE1 hE2 hW9 f2 f5 f3
              go_wp2_with (first | (refine wpList_store_rowW rfl 34 _ _ rfl w.heap.size z9 rfl rfl 34 z9 R9.out info44 rfl z9_one W9 HW9.out ?_))
              refine bodyPost_ret (res_cell_tmp rfl _ _ w.heap.size 34 z9 (0, 0) _ rfl F2.out Tryz.underlying34 rfl info44) rfl ⟨noR, vE, rfl, rfl, (by rw [HR.out]; exact F3.out), (fun h => by rw [HR.out] at h; cases h), F5.out⟩
            | true =>
              obtain ⟨rfl, rfl⟩ := hAP hok
              obtain ⟨D, er, hd⟩ : ∃ D er, goTo (cutT g).1 = (D, er) := ⟨_, _, rfl⟩
              have HT1 : Hid (er = .ok → targ m g = ((m, D, (cutT g).2), .ok)) := fun h => by rw [HTG.out, if_neg (by simp [hok]), hd, h]
              have HT2 : Hid (er ≠ .ok → targ m g = (noR, .wr L8 er)) := fun h => by
                rw [HTG.out, if_neg (by simp [hok]), hd]
                cases er with
                | ok => exact absurd rfl h
                | one a c => rfl
                | two a b c => rfl
              rw [hd] at HRT
              simp only [] at HRT
              obtain ⟨pt, hpt⟩ : ∃ p, p = (cutT g).2 := ⟨_, rfl⟩
              rw [← hpt] at HT1 ⊢
              obtain ⟨TO, hTO⟩ : ∃ p, p = strN (cutT g).1 := ⟨_, rfl⟩
              rw [← hTO] at HRT ⊢
              obtain ⟨PT, hPT⟩ : ∃ p, p = strN pt := ⟨_, rfl⟩
              rw [← hPT]
              have HPT := hide hPT
              clear hok hd hpt hTO hPT HTG HCT hAP
              go_wp2_with fail
              refine (HRT.out _ V33.out E33.out).mono ?_
              rintro e w4 ⟨⟨⟨dA, dN⟩, dP⟩, u, rfl, hln, her, hdq, hb4⟩
              obtain ⟨x0, x1, x2, x3, rfl⟩ := four hln
              simp only [deC, nums, List.map_cons, List.map_nil, List.cons_append, List.nil_append]
              obtain ⟨S, hS⟩ : ∃ S, S = strN dN := ⟨_, rfl⟩
              rw [← hS]
              have HS := hide hS
              have HDQ := hide hdq
              clear hS hln hdq
              obtain ⟨W5, hW5⟩ : ∃ W5, W5 = w4.alloc (.cells #[.int .u8 (x0 : Nat), .int .u8 (x1 : Nat), .int .u8 (x2 : Nat), .int .u8 (x3 : Nat), .string S, .int .i64 (dP : Nat)] 31) := ⟨_, rfl⟩
              have b5 : Below w4.heap.size w4 W5 := by rw [hW5]; exact (Below.refl _ _).alloc (Nat.le_refl _) _
              have q5 : W5.heap[w4.heap.size]? = some (.cells #[.int .u8 (x0 : Nat), .int .u8 (x1 : Nat), .int .u8 (x2 : Nat), .int .u8 (x3 : Nat), .string S, .int .i64 (dP : Nat)] 31) := by rw [hW5]; exact alloc_new _ _
              have Q5 := hide q5
              have R5 := hide (keepB b5 (keepB hb4 R33.out))
              have bb : Below w.heap.size w w4 := B33.out.trans (hb4.mono B33.out.size)
              have B5 := hide (bb.trans (b5.mono bb.size))
              have E5 := hide ((E33.out.below hb4).below b5)
              have HER := hide (her.below b5)
              have HW5 : Hid (w4.alloc (.cells #[.int .u8 (x0 : Nat), .int .u8 (x1 : Nat), .int .u8 (x2 : Nat), .int .u8 (x3 : Nat), .string S, .int .i64 (dP : Nat)] 31) = W5) := hW5.symm
              clear hW5 b5 q5 bb hb4 her R33 B33 V33 E33
              by_cases hok : er = .ok
              · subst hok
                have hu : u = .nilIface := HER.out
                subst hu
                have HR : Hid (rline l = ((m, (([x0, x1, x2, x3], dN), dP), pt), .ok)) := by show _ = _; rw [HRL3.out, HT1.out rfl, HDQ.out rfl]
                go_wp2_with (first | rw [HW5.out])
                try (rw [HW5.out]; go_wp2_with fail)
                have d0 : W5.cell? ⟨w4.heap.size, 0, none⟩ = some (.int .u8 (x0 : Nat)) := by simp [World.cell?, Q5.out]
                have d1 : W5.cell? ⟨w4.heap.size, 1, none⟩ = some (.int .u8 (x1 : Nat)) := by simp [World.cell?, Q5.out]
                have d2 : W5.cell? ⟨w4.heap.size, 2, none⟩ = some (.int .u8 (x2 : Nat)) := by simp [World.cell?, Q5.out]
                have d3 : W5.cell? ⟨w4.heap.size, 3, none⟩ = some (.int .u8 (x3 : Nat)) := by simp [World.cell?, Q5.out]
                have d4 : W5.cell? ⟨w4.heap.size, 4, none⟩ = some (.string S) := by simp [World.cell?, Q5.out]
                have d5 : W5.cell? ⟨w4.heap.size, 5, none⟩ = some (.int .i64 (dP : Nat)) := by simp [World.cell?, Q5.out]
                go_region_with (first | (go_at_call 94; refine (wrapH_nil L8 _).mono ?_; rintro e w6 ⟨rfl, hb6'⟩; have hb6 : Below W5.heap.size W5 w6 := ⟨hb6'.os, hb6'.tape, hb6'.output, hb6'.size, hb6'.block⟩; have K6 := hide (keepB hb6 R5.out); have B6 := hide (B5.out.trans (hb6.mono B5.out.size)); have g0 := (hb6.cell (lt_of_cell d0)).trans d0; have g1 := (hb6.cell (lt_of_cell d1)).trans d1; have g2 := (hb6.cell (lt_of_cell d2)).trans d2; have g3 := (hb6.cell (lt_of_cell d3)).trans d3; have g4 := (hb6.cell (lt_of_cell d4)).trans d4; have g5 := (hb6.cell (lt_of_cell d5)).trans d5; have kp : canPut 9 34 w6 (.pointer (some ⟨w.heap.size, 0, none⟩)) (.agg #[.string M, .int .u8 (x0 : Nat), .int .u8 (x1 : Nat), .int .u8 (x2 : Nat), .int .u8 (x3 : Nat), .string S, .int .i64 (dP : Nat), .string PT, .slice none 0 0]) = true := canPut_row K6.out rfl rfl (by simp [Value.oneCell']); clear hb6 hb6'))
                all_goals (try go_wp2_with fail)
                all_goals refine bodyPost_ret (res_cell_tmp rfl _ _ w.heap.size 34 #[.string M, .int .u8 (x0 : Nat), .int .u8 (x1 : Nat), .int .u8 (x2 : Nat), .int .u8 (x3 : Nat), .string S, .int .i64 (dP : Nat), .string PT, .slice none 0 0] (0, 0) _ rfl (by exact setRow_heap _ _ _ _ _ K6.out) Tryz.underlying34 rfl info44) rfl ⟨(m, (([x0, x1, x2, x3], dN), dP), pt), _, (by rw [HS.out, HM.out, HPT.out]; rfl), rfl, (by rw [HR.out]; rfl), (fun _ => by rw [HR.out]), (by exact below_setRow B6.out (Nat.le_refl _) _)⟩
              · have HR : Hid (rline l = (noR, .wr L8 er)) := by show _ = _; rw [HRL3.out, HT2.out hok]
                have HOK := hide hok
                clear hok
                go_wp2_with (first | rw [HW5.out])
                try (rw [HW5.out]; go_wp2_with fail)
                have d0 : W5.cell? ⟨w4.heap.size, 0, none⟩ = some (.int .u8 (x0 : Nat)) := by simp [World.cell?, Q5.out]
                have d1 : W5.cell? ⟨w4.heap.size, 1, none⟩ = some (.int .u8 (x1 : Nat)) := by simp [World.cell?, Q5.out]
                have d2 : W5.cell? ⟨w4.heap.size, 2, none⟩ = some (.int .u8 (x2 : Nat)) := by simp [World.cell?, Q5.out]
                have d3 : W5.cell? ⟨w4.heap.size, 3, none⟩ = some (.int .u8 (x3 : Nat)) := by simp [World.cell?, Q5.out]
                have d4 : W5.cell? ⟨w4.heap.size, 4, none⟩ = some (.string S) := by simp [World.cell?, Q5.out]
                have d5 : W5.cell? ⟨w4.heap.size, 5, none⟩ = some (.int .i64 (dP : Nat)) := by simp [World.cell?, Q5.out]
                go_region_with (first | (go_at_call 94; refine (wrapH_er L8 er u _ (by exact E5.out) HOK.out (by exact HER.out)).mono ?_; rintro e w6 ⟨v6, rfl, hi6, hb6'⟩; have I6 := hide hi6; clear hi6; have hb6 : Below W5.heap.size W5 w6 := ⟨hb6'.os, hb6'.tape, hb6'.output, hb6'.size, hb6'.block⟩; have K6 := hide (keepB hb6 R5.out); have B6 := hide (B5.out.trans (hb6.mono B5.out.size)); have g0 := (hb6.cell (lt_of_cell d0)).trans d0; have g1 := (hb6.cell (lt_of_cell d1)).trans d1; have g2 := (hb6.cell (lt_of_cell d2)).trans d2; have g3 := (hb6.cell (lt_of_cell d3)).trans d3; have g4 := (hb6.cell (lt_of_cell d4)).trans d4; have g5 := (hb6.cell (lt_of_cell d5)).trans d5; have kp : canPut 9 34 w6 (.pointer (some ⟨w.heap.size, 0, none⟩)) (.agg #[.string M, .int .u8 (x0 : Nat), .int .u8 (x1 : Nat), .int .u8 (x2 : Nat), .int .u8 (x3 : Nat), .string S, .int .i64 (dP : Nat), .string PT, .slice none 0 0]) = true := canPut_row K6.out rfl rfl (by simp [Value.oneCell']); clear hb6 hb6'))
                all_goals (try go_wp2_with fail)
                all_goals refine bodyPost_ret (res_cell_tmp rfl _ _ w.heap.size 34 #[.string M, .int .u8 (x0 : Nat), .int .u8 (x1 : Nat), .int .u8 (x2 : Nat), .int .u8 (x3 : Nat), .string S, .int .i64 (dP : Nat), .string PT, .slice none 0 0] (0, 0) _ rfl (by exact setRow_heap _ _ _ _ _ K6.out) Tryz.underlying34 rfl info44) rfl ⟨(m, (([x0, x1, x2, x3], dN), dP), pt), _, (by rw [HS.out, HM.out, HPT.out]; rfl), rfl, (by rw [HR.out]; exact I6.out.keep fun b C hb => setRow_ne _ _ _ _ fun e => by subst e; rw [K6.out] at hb; simp at hb), (fun h => by rw [HR.out] at h; cases h), (by exact below_setRow B6.out (Nat.le_refl _) _)⟩
  · have HR : Hid (rline l = (noR, .one 0 80)) := by show _ = _; exact rline_not (by rw [← hps]; exact h3)
    have h3I : ((ps.length : Int) == 3) = false := by simp; omega
    have h3J : ((ps.length : Int) != 3) = true := by simp; omega
    have HRE := hide (refuseH_er 0 80 W1)
    obtain ⟨n, hn⟩ : ∃ n, n = ps.length := ⟨_, rfl⟩
    rw [← hn] at HSP h3I h3J
    clear hlb hll h3 P1 hl hm hn
    go_enter Tryz.func55, Tryz.ntmps55
    go_wp2_with fail
    rw [HW0.out]
    refine HSP.out.mono ?_
    rintro e w1 ⟨rfl, hw1⟩
    rw [hw1]
    clear hw1
    go_wp2_with fail
    refine (refuseH_er 0 80 W1).mono ?_
    rintro e wE ⟨vE, rfl, hE1, hE2⟩
    obtain ⟨W9, hW9, f2, f5, f3⟩ := fin9 (cs := z9) (keepB hE2 R1.out) (B1.out.trans (hE2.mono B1.out.size)) hE1
    have R9 := hide (keepB hE2 R1.out)
    have F2 := hide f2
    have F3 := hide f3
    have F5 := hide f5
    have HW9 := hide hW9
    clear hE1 hE2 hW9 f2 f5 f3
    go_wp2_with (first | (refine wpList_store_rowW rfl 34 _ _ rfl w.heap.size z9 rfl rfl 34 z9 R9.out info44 rfl z9_one W9 HW9.out ?_))
    refine bodyPost_ret (res_cell_tmp rfl _ _ w.heap.size 34 z9 (0, 0) _ rfl F2.out Tryz.underlying34 rfl info44) rfl ⟨noR, vE, rfl, rfl, (by rw [HR.out]; exact F3.out), (fun h => by rw [HR.out] at h; cases h), F5.out⟩
end Go.Proofs.YtccoddmdlbdfjaaGreatDoor
