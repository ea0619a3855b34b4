/-
  The reference's readers: target; conditions as each theorem has them.
-/
import Derived.Test.YthbnbnfhbkekpaaGreatDoorRZ
set_option linter.unusedSimpArgs false
set_option linter.unusedVariables false
namespace Go.Proofs.YthbnbnfhbkekpaaGreatDoor
open Go.RowKit
theorem res_ctc {P : Program} {fn : Func} {p u q : Tmp} {ty ty2 : TypeId} (h : fn.results = #[.cell p ty, .tmp u, .cell q ty2]) (tmps : Array Value) (w : World)
    (g : Nat) (t : TypeId) (cs : Array Value) (fr : Nat × Nat) (d : TypeDesc) (hp : tmps.getD p undef = .pointer (some ⟨g, 0, none⟩)) (hg : w.heap[g]? = some (.cells cs t fr))
    (hu : P.underlying ty = some d) (hd : (match d with | .struct _ | .array _ _ => true | _ => false) = true) (hi : (P.info? ty).map (·.size) = some cs.size)
    (g2 : Nat) (t2 : TypeId) (cs2 : Array Value) (fr2 : Nat × Nat) (d2 : TypeDesc) (hp2 : tmps.getD q undef = .pointer (some ⟨g2, 0, none⟩)) (hg2 : w.heap[g2]? = some (.cells cs2 t2 fr2))
    (hu2 : P.underlying ty2 = some d2) (hd2 : (match d2 with | .struct _ | .array _ _ => true | _ => false) = true) (hi2 : (P.info? ty2).map (·.size) = some cs2.size) :
    (results fn tmps).run P w = .ok (.tuple #[.agg cs, tmps.getD u undef, .agg cs2]) w := by
  have hp' : tmps[p]?.getD undef = .pointer (some ⟨g, 0, none⟩) := by simpa using hp
  have hp2' : tmps[q]?.getD undef = .pointer (some ⟨g2, 0, none⟩) := by simpa using hp2
  simp only [results, h]
  simp [Sem.run_bind, Result.andThen, hp', hp2', asAddr, run_loadVar_row w g t ty cs fr d hg hu hd hi, run_loadVar_row w g2 t2 ty2 cs2 fr2 d2 hg2 hu2 hd2 hi2]

set_option maxRecDepth 100000 in
set_option maxHeartbeats 8000000 in
theorem rtarget_at (m t : ByteArray) (AT : Nat) (w : World) (hm : m.size ≤ 8192) (ht : t.size ≤ 8192) (hAT : AT = (byt m).length + 1) : Calls Tryz.prog 48 #[.string m, .string t, .int .i64 (AT : Nat)] w fun e w' => e = .returned (.tuple #[.agg (deC (targ (byt m) (byt t)).1.2.1), .string (strN (targ (byt m) (byt t)).1.2.2), .agg (badG (targ (byt m) (byt t)).2)]) ∧ Below w.heap.size w w' := by
  obtain ⟨l, hl⟩ : ∃ l, l = byt t := ⟨_, rfl⟩
  rw [← hl]
  have HL : Hid (byt t = l) := hl.symm
  have HLB : Hid (∀ c ∈ l, c < 256) := by rw [hl]; exact byt_lt t
  obtain ⟨N, hN⟩ : ∃ N, N = t.size := ⟨_, rfl⟩
  have HNL : Hid (N = l.length) := by show _ = _; rw [hN, hl, byt_length]
  have hNI : (t.size : Int) = (N : Int) := by rw [hN]
  have HN := hide hN
  rw [← hN] at ht
  have hA2 : AT ≤ 8193 := by rw [hAT, byt_length]; omega
  have HAT := hide hAT
  obtain ⟨W0, hW0⟩ : ∃ W0, W0 = (w.alloc (.cells z6 41)).alloc (.cells (badC .ok) 32) := ⟨_, rfl⟩
  have HR0 : Hid (W0.heap[w.heap.size]? = some (.cells z6 41)) := by rw [hW0]; exact alloc_old _ (alloc_new _ _)
  have HR1 : Hid (W0.heap[w.heap.size + 1]? = some (.cells (badC .ok) 32)) := by rw [hW0]; exact alloc_new2 _ _ _
  have B0 : Hid (Below w.heap.size w W0) := by rw [hW0]; exact ((Below.refl _ _).alloc (Nat.le_refl _) _).alloc (by simp) _
  have HW0 : Hid ((w.alloc (.cells #[.int .u8 0, .int .u8 0, .int .u8 0, .int .u8 0, .string ⟨#[]⟩, .int .i64 0] 41)).alloc (.cells #[.int .i64 0, .string ⟨#[]⟩, .string ⟨#[]⟩, .string ⟨#[]⟩, .string ⟨#[]⟩, .int .i64 0, .int .i64 0, .int .i64 0, .int .i64 0, .int .i64 0] 32) = W0) := hW0.symm
  have hcn : (m.toList == [67, 79, 78, 78, 69, 67, 84]) = decide (byt m = conn) := toList_byt m _
  clear hl hN hW0 hAT
  by_cases hmc : byt m = conn
  · rw [decide_eq_true hmc] at hcn
    have HMC := hide hmc
    clear hmc
    go_enter Tryz.func48, Tryz.ntmps48
    go_wp2_with fail
    rw [HW0.out]
    obtain ⟨D, er, hD⟩ : ∃ D er, dest l = (D, er) := ⟨_, _, rfl⟩
    have hDl : D.1.1.length = 4 := by have := dest_len l; rw [hD] at this; exact this
    obtain ⟨⟨hA, hS⟩, pn⟩ := D
    obtain ⟨x0, x1, x2, x3, rfl⟩ := four hDl
    have HPD : Hid (∀ W, Calls Tryz.prog 83 #[.string t] W fun e w' => e = .returned (.tuple #[.agg (deC (([x0, x1, x2, x3], hS), pn)), .agg (badC er)]) ∧ Below W.heap.size W w') := fun W => by
      have := rparseDest_at t W (by rw [← HN.out]; unfold maxLen; omega)
      rwa [HL.out, hD, badV_badC] at this
    have HD := hide hD
    obtain ⟨HS, hHS⟩ : ∃ S, S = strN hS := ⟨_, rfl⟩
    have HHS := hide hHS
    simp only [deC, nums, List.map_cons, List.map_nil, List.cons_append, List.nil_append, ← hHS] at HPD
    clear hD hDl hHS
    go_wp2_with fail
    refine (HPD.out _).mono ?_
    rintro e w3 ⟨rfl, hb3⟩
    have H0 := keepB hb3 HR0.out
    have H1 := keepB hb3 HR1.out
    have B3 : Below w.heap.size w w3 := B0.out.trans (hb3.mono B0.out.size)
    have hlt0 := lt_of_some H0
    have hlt1 := lt_of_some H1
    obtain ⟨W4, hW4⟩ : ∃ W4, W4 = ((w3.alloc (.cells #[.int .u8 (x0 : Nat), .int .u8 (x1 : Nat), .int .u8 (x2 : Nat), .int .u8 (x3 : Nat), .string HS, .int .i64 (pn : Nat)] 41)).alloc (.cells (badC .ok) 32)).setRow (w3.heap.size + 1) (badC er) := ⟨_, rfl⟩
    have z4' : ((w3.alloc (.cells #[.int .u8 (x0 : Nat), .int .u8 (x1 : Nat), .int .u8 (x2 : Nat), .int .u8 (x3 : Nat), .string HS, .int .i64 (pn : Nat)] 41)).alloc (.cells (badC .ok) 32)).heap[w3.heap.size + 1]? = some (.cells (badC .ok) 32) := alloc_new2 _ _ _
    have k34 : Below w3.heap.size w3 W4 := by rw [hW4]; exact below_setRow (((Below.refl _ _).alloc (Nat.le_refl _) _).alloc (by simp) _) (by omega) _
    have q4 : W4.heap[w3.heap.size]? = some (.cells #[.int .u8 (x0 : Nat), .int .u8 (x1 : Nat), .int .u8 (x2 : Nat), .int .u8 (x3 : Nat), .string HS, .int .i64 (pn : Nat)] 41) := by rw [hW4, setRow_ne _ _ _ _ (by omega)]; exact alloc_old _ (alloc_new _ _)
    have p4 : W4.heap[w3.heap.size + 1]? = some (.cells (badC er) 32) := by rw [hW4]; exact setRow_heap _ _ _ _ _ z4'
    have r0 := keepB k34 H0
    have r1 := keepB k34 H1
    have b4 : Below w.heap.size w W4 := B3.trans (k34.mono B3.size)
    have hN4 : W4.cell? ⟨w3.heap.size + 1, 0, none⟩ = some (.int .i64 (erN er : Nat)) := by simp only [World.cell?, p4]; exact badC_N er
    have Z4 := hide z4'
    have HW4 := hide hW4
    have P4 := hide p4
    have Q4 := hide q4
    have R0 := hide r0
    have R1 := hide r1
    have B4 := hide b4
    clear hb3 H0 H1 B3 hW4 z4' k34 q4 p4 r0 r1 b4 hlt0 hlt1 HPD
    by_cases hok : er = .ok
    · subst hok
      simp only [erN] at hN4
      have HR : Hid (targ (byt m) l = ((byt m, (([x0, x1, x2, x3], hS), pn), []), .ok)) := by
        show _ = _
        rw [HMC.out, targ, if_pos rfl, HD.out]
      have h04 := R0.out
      have h14 := R1.out
      have hb := B4.out
      obtain ⟨f1, f2, f3, f4⟩ := fin2 h04 h14 #[.int .u8 (x0 : Nat), .int .u8 (x1 : Nat), .int .u8 (x2 : Nat), .int .u8 (x3 : Nat), .string HS, .int .i64 (pn : Nat)] (badG .ok)
      have f5 := f4 w (Nat.le_refl _) hb
      obtain ⟨Wa, hWa⟩ : ∃ W1, W1 = W4.setRow w.heap.size #[.int .u8 (x0 : Nat), .int .u8 (x1 : Nat), .int .u8 (x2 : Nat), .int .u8 (x3 : Nat), .string HS, .int .i64 (pn : Nat)] := ⟨_, rfl⟩
      rw [← hWa] at f1 f2 f3 f4 f5
      obtain ⟨Wb, hWb⟩ : ∃ W2, W2 = Wa.setRow (w.heap.size + 1) (badG .ok) := ⟨_, rfl⟩
      rw [← hWb] at f2 f3 f5
      have F0 := hide h04
      have F1 := hide f1
      have F2 := hide f2
      have F3 := hide f3
      have F5 := hide f5
      have HWa := hide hWa
      have HWb := hide hWb
      clear f1 f2 f3 f4 f5 hWa hWb h04 h14 hb
      go_wp2_with (first
        | (refine wpList_store_rowW rfl 32 _ _ rfl (w3.heap.size + 1) (badC .ok) rfl rfl 32 (badC .ok) Z4.out info32 rfl (badC_one _) W4 HW4.out ?_)
        | (refine wpList_load_rowG rfl 41 _ rfl w3.heap.size rfl 41 #[.int .u8 (x0 : Nat), .int .u8 (x1 : Nat), .int .u8 (x2 : Nat), .int .u8 (x3 : Nat), .string HS, .int .i64 (pn : Nat)] (0, 0) _ Q4.out Tryz.underlying41 rfl info41 ?_)
        | (refine wpList_store_rowW rfl 41 _ _ rfl w.heap.size #[.int .u8 (x0 : Nat), .int .u8 (x1 : Nat), .int .u8 (x2 : Nat), .int .u8 (x3 : Nat), .string HS, .int .i64 (pn : Nat)] rfl rfl 41 z6 F0.out info41 rfl (by simp [Value.oneCell']) Wa HWa.out ?_)
        | (refine wpList_store_rowW rfl 32 _ _ rfl (w.heap.size + 1) (badG .ok) rfl rfl 32 (badC .ok) F1.out (badGI .ok) (by simp [badC_size, badG_size]) (badG_one _) Wb HWb.out ?_))
      refine bodyPost_ret (res_ctc rfl _ _ w.heap.size 41 #[.int .u8 (x0 : Nat), .int .u8 (x1 : Nat), .int .u8 (x2 : Nat), .int .u8 (x3 : Nat), .string HS, .int .i64 (pn : Nat)] (0, 0) _ rfl F2.out Tryz.underlying41 rfl info41 (w.heap.size + 1) 32 (badG .ok) (0, 0) _ rfl F3.out Tryz.underlying32 rfl (badGI .ok)) rfl ⟨?_, F5.out⟩
      rw [HR.out, HHS.out]; rfl
    · have hpos : 0 < erN er := by
        cases er with
        | ok => exact absurd rfl hok
        | one a c => simp [erN]
        | two a b c => simp [erN]
      have HR : Hid (targ (byt m) l = (noR, .wr AT er)) := by
        show _ = _
        rw [HMC.out, targ, if_pos rfl, HD.out, HAT.out, HMC.out]
        cases er with
        | ok => exact absurd rfl hok
        | one a c => rfl
        | two a b c => rfl
      have HWR : Hid (∀ W, Calls Tryz.prog 53 #[.string ⟨#[104, 101, 97, 100]⟩, .int .i64 (AT), .agg (badC er)] W fun x w' => x = .returned (.agg (badG (.wr AT er))) ∧ Below W.heap.size W w') := fun W => by
        have := wrapBH_at AT er hok W
        simpa using this
      clear hok
      generalize erN er = en at hN4 hpos
      have qq : decide (0 < (en : Int)) = true := decide_eq_true (by omega)
      have qq' : decide (0 < en) = true := decide_eq_true hpos
      go_wp2_with (first
        | (refine wpList_store_rowW rfl 32 _ _ rfl (w3.heap.size + 1) (badC er) rfl rfl 32 (badC .ok) Z4.out (badI er) (by rw [badC_size, badC_size]) (badC_one _) W4 HW4.out ?_)
        | (refine wpList_load_rowG rfl 32 _ rfl (w3.heap.size + 1) rfl 32 (badC er) (0, 0) _ P4.out Tryz.underlying32 rfl (badI er) ?_))
      refine (HWR.out _).mono ?_
      rintro e w7 ⟨rfl, hb7⟩
      have h04 := keepB hb7 R0.out
      have h14 := keepB hb7 R1.out
      have hb := B4.out.trans (hb7.mono B4.out.size)
      obtain ⟨f1, f2, f3, f4⟩ := fin2 h04 h14 z6 (badG (.wr AT er))
      have f5 := f4 w (Nat.le_refl _) hb
      obtain ⟨Wa, hWa⟩ : ∃ W1, W1 = w7.setRow w.heap.size z6 := ⟨_, rfl⟩
      rw [← hWa] at f1 f2 f3 f4 f5
      obtain ⟨Wb, hWb⟩ : ∃ W2, W2 = Wa.setRow (w.heap.size + 1) (badG (.wr AT er)) := ⟨_, rfl⟩
      rw [← hWb] at f2 f3 f5
      have F0 := hide h04
      have F1 := hide f1
      have F2 := hide f2
      have F3 := hide f3
      have F5 := hide f5
      have HWa := hide hWa
      have HWb := hide hWb
      clear f1 f2 f3 f4 f5 hWa hWb h04 h14 hb hb7
      go_wp2_with (first
        | (refine wpList_store_rowW rfl 41 _ _ rfl w.heap.size z6 rfl rfl 41 z6 F0.out info41 rfl z6_one Wa HWa.out ?_)
        | (refine wpList_store_rowW rfl 32 _ _ rfl (w.heap.size + 1) (badG (.wr AT er)) rfl rfl 32 (badC .ok) F1.out (badGI (.wr AT er)) (by simp [badC_size, badG_size]) (badG_one _) Wb HWb.out ?_))
      refine bodyPost_ret (res_ctc rfl _ _ w.heap.size 41 z6 (0, 0) _ rfl F2.out Tryz.underlying41 rfl info41 (w.heap.size + 1) 32 (badG (.wr AT er)) (0, 0) _ rfl F3.out Tryz.underlying32 rfl (badGI (.wr AT er))) rfl ⟨?_, F5.out⟩
      rw [HR.out]; rfl
  · rw [decide_eq_false hmc] at hcn
    have HMC := hide hmc
    clear hmc
    have HBG : Hid (∀ W, Calls Tryz.prog 58 #[.string t, .string ⟨#[104, 116, 116, 112, 58, 47, 47]⟩] W fun e w' => e = .returned (.bool (decide (l.take 7 = sch))) ∧ W = w') := fun W => by
      have := rbegins_at t ⟨#[104, 116, 116, 112, 58, 47, 47]⟩ W (by rw [← HN.out]; unfold maxLen; omega) (by decide)
      rw [HL.out] at this; exact this
    by_cases hbg : l.take 7 = sch
    · have h7 : 7 ≤ N := by
        have := congrArg List.length hbg
        rw [List.length_take, ← HNL.out] at this
        have e : sch.length = 7 := rfl
        omega
      rw [decide_eq_true hbg] at HBG
      obtain ⟨q, hq⟩ : ∃ q, q = (cutT l).1 := ⟨_, rfl⟩
      obtain ⟨pp, hpp⟩ : ∃ p, p = (cutT l).2 := ⟨_, rfl⟩
      obtain ⟨Q, hQ⟩ : ∃ Q, Q = strN q := ⟨_, rfl⟩
      obtain ⟨PT, hPT⟩ : ∃ P, P = strN pp := ⟨_, rfl⟩
      have hqb : (∀ c ∈ q, c < 256) ∧ (∀ c ∈ pp, c < 256) ∧ q.length ≤ 8192 ∧ pp.length ≤ 8192 := by
        rw [hq, hpp]
        unfold cutT
        have hl8 : (l.drop 7).length ≤ 8192 := by rw [List.length_drop, ← HNL.out]; omega
        have hlb : ∀ c ∈ l.drop 7, c < 256 := fun c hc => HLB.out c (List.mem_of_mem_drop hc)
        cases fst 47 (l.drop 7) with
        | none => exact ⟨hlb, by intro c hc; simp at hc; omega, hl8, by simp⟩
        | some k => exact ⟨fun c hc => hlb c (List.mem_of_mem_take hc), fun c hc => hlb c (List.mem_of_mem_drop hc), by rw [List.length_take]; omega, by rw [List.length_drop]; omega⟩
      have HQ : Hid (byt Q = q) := by show _ = _; rw [hQ]; exact byt_strN q hqb.1
      have HQS : Hid (Q.size ≤ maxLen) := by show _ ≤ _; rw [hQ, strN_size]; unfold maxLen; have := hqb.2.2.1; omega
      have HPT := hide hPT
      have HCUT : Hid (cutT l = (q, pp)) := by show _ = _; rw [hq, hpp]
      have HOK : Hid (okT l = path pp) := by show _ = _; unfold okT; rw [hbg, hpp]; simp
      have HPL : Hid (∀ W, Calls Tryz.prog 51 #[.string PT, .int .u8 33, .int .i64 2048] W fun e w' => e = .returned (.bool (path pp)) ∧ W = w') := fun W => by
        have := rplain_at PT 33 2048 W (by rw [hPT, strN_size]; unfold maxLen; have := hqb.2.2.2; omega)
        rw [hPT, byt_strN pp hqb.2.1] at this
        rw [hpp, path_cut, ← hpp, hPT]; exact this
      have HFC : Hid (∀ W, Calls Tryz.prog 66 #[.string Q, .string ⟨#[58]⟩] W fun e w' => e = .returned (.int .i64 (fI (fst 58 q))) ∧ W = w') := fun W => by
        have := find_at Q 58 _ W (by have := HQS.out; unfold maxLen at this; rw [hQ, strN_size]; have := hqb.2.2.1; omega) (by decide) rfl
        rwa [HQ.out] at this
      obtain ⟨R, hR⟩ : ∃ R, R = strN (l.drop 7) := ⟨_, rfl⟩
      have hex : t.extract 7 t.size = R := by rw [hR, ← HL.out, ← byt_drop, strN_byt]
      have hRb : byt R = l.drop 7 := by rw [hR]; exact byt_strN _ (fun c hc => HLB.out c (List.mem_of_mem_drop hc))
      obtain ⟨N1, hN1⟩ : ∃ N, N = R.size := ⟨_, rfl⟩
      have hN1I : (R.size : Int) = (N1 : Int) := by rw [hN1]
      have hN1l : N1 = (l.drop 7).length := by rw [hN1, ← byt_length, hRb]
      have hN18 : N1 ≤ 8192 := by rw [hN1l, List.length_drop, ← HNL.out]; omega
      have HFS : Hid (∀ W, Calls Tryz.prog 66 #[.string R, .string ⟨#[47]⟩] W fun e w' => e = .returned (.int .i64 (fI (fst 47 (l.drop 7)))) ∧ W = w') := fun W => by
        have := find_at R 47 _ W (by rw [← hN1]; omega) (by decide) rfl
        rwa [hRb] at this
      have HCT : Hid (cutT l = match fst 47 (l.drop 7) with
        | none => (l.drop 7, [47])
        | some k => ((l.drop 7).take k, (l.drop 7).drop k)) := rfl
      cases hs : fst 47 (l.drop 7) with
      | none =>
        rw [hs] at HFS HCT
        have HFS2 : Hid (∀ W, Calls Tryz.prog 66 #[.string R, .string ⟨#[47]⟩] W fun e w' => e = .returned (.int .i64 (-1)) ∧ W = w') := HFS.out
        have hc := HCUT.out
        rw [HCT.out] at hc
        simp only [Prod.mk.injEq] at hc
        obtain rfl : Q = R := by rw [hQ, hR, hc.1]
        obtain rfl : PT = ⟨#[47]⟩ := by rw [hPT, ← hc.2]; rfl
        clear hq hpp hQ hPT hqb hR hRb hN1 hN1l hs hc HFS HCT
        go_enter Tryz.func48, Tryz.ntmps48
        go_wp2_with fail
        rw [HW0.out]
        refine (HBG.out _).mono ?_
        rintro e wq ⟨rfl, rfl⟩
        go_wp2_with fail
        try rw [hex]
        refine (HFS2.out _).mono ?_
        rintro e wq ⟨rfl, rfl⟩
        by_cases hpl : path pp = true
        · rw [hpl] at HPL
          have HTG : Hid (targ (byt m) l = match goTo q with
              | (d, .ok) => ((byt m, d, pp), .ok)
              | (_, e) => (noR, .wr (AT + 7) e)) := by
            show _ = _
            unfold targ
            rw [if_neg HMC.out, HOK.out, hpl, if_neg (by simp), HCUT.out, HAT.out]
            rfl
          clear hpl
          cases hf : fst 58 q with
          | none =>
            rw [hf] at HFC
            have HFC2 : Hid (∀ W, Calls Tryz.prog 66 #[.string Q, .string ⟨#[58]⟩] W fun e w' => e = .returned (.int .i64 (-1)) ∧ W = w') := HFC.out
            have HMEM : Hid (58 ∉ q) := fst_none_iff.1 hf
            clear hf HFC
            go_wp2_with fail
            refine (HPL.out _).mono ?_
            rintro e wq ⟨rfl, rfl⟩
            go_wp2_with fail
            refine (HFC2.out _).mono ?_
            rintro e wq ⟨rfl, rfl⟩
            obtain ⟨D, er, hD⟩ : ∃ D er, host q = (D, er) := ⟨_, _, rfl⟩
            have hDl : D.1.length = 4 := by have := host_len q; rw [hD] at this; exact this
            obtain ⟨hA, hS⟩ := D
            obtain ⟨x0, x1, x2, x3, rfl⟩ := four hDl
            have HPD : Hid (∀ W, Calls Tryz.prog 84 #[.string Q] W fun e w' => e = .returned (.tuple #[.agg (hoC ([x0, x1, x2, x3], hS)), .agg (badC er)]) ∧ Below W.heap.size W w') := fun W => by
              have := rparse_at Q W HQS.out
              rwa [HQ.out, hD, badV_badC] at this
            have HD := hide hD
            obtain ⟨HS, hHS⟩ : ∃ S, S = strN hS := ⟨_, rfl⟩
            have HHS := hide hHS
            simp only [hoC, nums, List.map_cons, List.map_nil, List.cons_append, List.nil_append, ← hHS] at HPD
            clear hD hDl hHS
            go_wp2_with fail
            refine (HPD.out _).mono ?_
            rintro e w3 ⟨rfl, hb3⟩
            have H0 := keepB hb3 HR0.out
            have H1 := keepB hb3 HR1.out
            have B3 : Below w.heap.size w w3 := B0.out.trans (hb3.mono B0.out.size)
            have hlt0 := lt_of_some H0
            have hlt1 := lt_of_some H1
            obtain ⟨W4, hW4⟩ : ∃ W4, W4 = ((w3.alloc (.cells #[.int .u8 (x0 : Nat), .int .u8 (x1 : Nat), .int .u8 (x2 : Nat), .int .u8 (x3 : Nat), .string HS] 39)).alloc (.cells (badC .ok) 32)).setRow (w3.heap.size + 1) (badC er) := ⟨_, rfl⟩
            have z4' : ((w3.alloc (.cells #[.int .u8 (x0 : Nat), .int .u8 (x1 : Nat), .int .u8 (x2 : Nat), .int .u8 (x3 : Nat), .string HS] 39)).alloc (.cells (badC .ok) 32)).heap[w3.heap.size + 1]? = some (.cells (badC .ok) 32) := alloc_new2 _ _ _
            have k34 : Below w3.heap.size w3 W4 := by rw [hW4]; exact below_setRow (((Below.refl _ _).alloc (Nat.le_refl _) _).alloc (by simp) _) (by omega) _
            have q4 : W4.heap[w3.heap.size]? = some (.cells #[.int .u8 (x0 : Nat), .int .u8 (x1 : Nat), .int .u8 (x2 : Nat), .int .u8 (x3 : Nat), .string HS] 39) := by rw [hW4, setRow_ne _ _ _ _ (by omega)]; exact alloc_old _ (alloc_new _ _)
            have p4 : W4.heap[w3.heap.size + 1]? = some (.cells (badC er) 32) := by rw [hW4]; exact setRow_heap _ _ _ _ _ z4'
            have r0 := keepB k34 H0
            have r1 := keepB k34 H1
            have b4 : Below w.heap.size w W4 := B3.trans (k34.mono B3.size)
            have hN4 : W4.cell? ⟨w3.heap.size + 1, 0, none⟩ = some (.int .i64 (erN er : Nat)) := by simp only [World.cell?, p4]; exact badC_N er
            have c0 : W4.cell? ⟨w3.heap.size, 0, none⟩ = some (.int .u8 (x0 : Nat)) := by simp [World.cell?, q4]
            have c1 : W4.cell? ⟨w3.heap.size, 1, none⟩ = some (.int .u8 (x1 : Nat)) := by simp [World.cell?, q4]
            have c2 : W4.cell? ⟨w3.heap.size, 2, none⟩ = some (.int .u8 (x2 : Nat)) := by simp [World.cell?, q4]
            have c3 : W4.cell? ⟨w3.heap.size, 3, none⟩ = some (.int .u8 (x3 : Nat)) := by simp [World.cell?, q4]
            have c4 : W4.cell? ⟨w3.heap.size, 4, none⟩ = some (.string HS) := by simp [World.cell?, q4]
            have Z4 := hide z4'
            have HW4 := hide hW4
            have P4 := hide p4
            have R0 := hide r0
            have R1 := hide r1
            have B4 := hide b4
            clear hb3 H0 H1 B3 hW4 z4' k34 q4 p4 r0 r1 b4 hlt0 hlt1 HPD
            by_cases hok : er = .ok
            · subst hok
              simp only [erN] at hN4
              have HR : Hid (targ (byt m) l = ((byt m, (([x0, x1, x2, x3], hS), 80), pp), .ok)) := by
                show _ = _
                rw [HTG.out, goTo_ok (by exact HMEM.out) HD.out]
              have h04 := R0.out
              have h14 := R1.out
              have hb := B4.out
              obtain ⟨f1, f2, f3, f4⟩ := fin2 h04 h14 #[.int .u8 (x0 : Nat), .int .u8 (x1 : Nat), .int .u8 (x2 : Nat), .int .u8 (x3 : Nat), .string HS, .int .i64 80] (badG .ok)
              have f5 := f4 w (Nat.le_refl _) hb
              obtain ⟨Wa, hWa⟩ : ∃ W1, W1 = W4.setRow w.heap.size #[.int .u8 (x0 : Nat), .int .u8 (x1 : Nat), .int .u8 (x2 : Nat), .int .u8 (x3 : Nat), .string HS, .int .i64 80] := ⟨_, rfl⟩
              rw [← hWa] at f1 f2 f3 f4 f5
              obtain ⟨Wb, hWb⟩ : ∃ W2, W2 = Wa.setRow (w.heap.size + 1) (badG .ok) := ⟨_, rfl⟩
              rw [← hWb] at f2 f3 f5
              have F0 := hide h04
              have F1 := hide f1
              have F2 := hide f2
              have F3 := hide f3
              have F5 := hide f5
              have HWa := hide hWa
              have HWb := hide hWb
              clear f1 f2 f3 f4 f5 hWa hWb h04 h14 hb
              go_wp2_with (first
                | (refine wpList_store_rowW rfl 32 _ _ rfl (w3.heap.size + 1) (badC .ok) rfl rfl 32 (badC .ok) Z4.out info32 rfl (badC_one _) W4 HW4.out ?_)
                | (refine wpList_store_rowW rfl 41 _ _ rfl w.heap.size #[.int .u8 (x0 : Nat), .int .u8 (x1 : Nat), .int .u8 (x2 : Nat), .int .u8 (x3 : Nat), .string HS, .int .i64 80] rfl rfl 41 z6 F0.out info41 rfl (by simp [Value.oneCell']) Wa HWa.out ?_)
                | (refine wpList_store_rowW rfl 32 _ _ rfl (w.heap.size + 1) (badG .ok) rfl rfl 32 (badC .ok) F1.out (badGI .ok) (by simp [badC_size, badG_size]) (badG_one _) Wb HWb.out ?_))
              refine bodyPost_ret (res_ctc rfl _ _ w.heap.size 41 #[.int .u8 (x0 : Nat), .int .u8 (x1 : Nat), .int .u8 (x2 : Nat), .int .u8 (x3 : Nat), .string HS, .int .i64 80] (0, 0) _ rfl F2.out Tryz.underlying41 rfl info41 (w.heap.size + 1) 32 (badG .ok) (0, 0) _ rfl F3.out Tryz.underlying32 rfl (badGI .ok)) rfl ⟨?_, F5.out⟩
              rw [HR.out, HHS.out, HPT.out]; rfl
            · have hpos : 0 < erN er := by
                cases er with
                | ok => exact absurd rfl hok
                | one a c => simp [erN]
                | two a b c => simp [erN]
              have HR : Hid (targ (byt m) l = (noR, .wr (AT + 7) er)) := by
                show _ = _
                have hg : (goTo q).2 = er := by rw [goTo_bad HMEM.out (by rw [HD.out]; exact hok), HD.out]
                rw [HTG.out]
                cases hgo : goTo q with
                | mk dd ee =>
                  rw [hgo] at hg
                  simp only at hg
                  subst hg
                  cases ee with
                  | ok => exact absurd rfl hok
                  | one a c => rfl
                  | two a b c => rfl
              have HWR : Hid (∀ W, Calls Tryz.prog 53 #[.string ⟨#[104, 101, 97, 100]⟩, .int .i64 ((AT : Int) + 7), .agg (badC er)] W fun x w' => x = .returned (.agg (badG (.wr (AT + 7) er))) ∧ Below W.heap.size W w') := fun W => by
                have := wrapBH_at (AT + 7) er hok W
                simpa using this
              clear hok
              generalize erN er = en at hN4 hpos
              have qq : decide (0 < (en : Int)) = true := decide_eq_true (by omega)
              have qq' : decide (0 < en) = true := decide_eq_true hpos
              clear c0 c1 c2 c3 c4
              go_wp2_with (first
                | (refine wpList_store_rowW rfl 32 _ _ rfl (w3.heap.size + 1) (badC er) rfl rfl 32 (badC .ok) Z4.out (badI er) (by rw [badC_size, badC_size]) (badC_one _) W4 HW4.out ?_)
                | (refine wpList_load_rowG rfl 32 _ rfl (w3.heap.size + 1) rfl 32 (badC er) (0, 0) _ P4.out Tryz.underlying32 rfl (badI er) ?_))
              refine (HWR.out _).mono ?_
              rintro e w7 ⟨rfl, hb7⟩
              have h04 := keepB hb7 R0.out
              have h14 := keepB hb7 R1.out
              have hb := B4.out.trans (hb7.mono B4.out.size)
              obtain ⟨f1, f2, f3, f4⟩ := fin2 h04 h14 z6 (badG (.wr (AT + 7) er))
              have f5 := f4 w (Nat.le_refl _) hb
              obtain ⟨Wa, hWa⟩ : ∃ W1, W1 = w7.setRow w.heap.size z6 := ⟨_, rfl⟩
              rw [← hWa] at f1 f2 f3 f4 f5
              obtain ⟨Wb, hWb⟩ : ∃ W2, W2 = Wa.setRow (w.heap.size + 1) (badG (.wr (AT + 7) er)) := ⟨_, rfl⟩
              rw [← hWb] at f2 f3 f5
              have F0 := hide h04
              have F1 := hide f1
              have F2 := hide f2
              have F3 := hide f3
              have F5 := hide f5
              have HWa := hide hWa
              have HWb := hide hWb
              clear f1 f2 f3 f4 f5 hWa hWb h04 h14 hb hb7
              go_wp2_with (first
                | (refine wpList_store_rowW rfl 41 _ _ rfl w.heap.size z6 rfl rfl 41 z6 F0.out info41 rfl z6_one Wa HWa.out ?_)
                | (refine wpList_store_rowW rfl 32 _ _ rfl (w.heap.size + 1) (badG (.wr (AT + 7) er)) rfl rfl 32 (badC .ok) F1.out (badGI (.wr (AT + 7) er)) (by simp [badC_size, badG_size]) (badG_one _) Wb HWb.out ?_))
              refine bodyPost_ret (res_ctc rfl _ _ w.heap.size 41 z6 (0, 0) _ rfl F2.out Tryz.underlying41 rfl info41 (w.heap.size + 1) 32 (badG (.wr (AT + 7) er)) (0, 0) _ rfl F3.out Tryz.underlying32 rfl (badGI (.wr (AT + 7) er))) rfl ⟨?_, F5.out⟩
              rw [HR.out]; rfl
          | some k2 =>
            rw [hf] at HFC
            have HFC2 : Hid (∀ W, Calls Tryz.prog 66 #[.string Q, .string ⟨#[58]⟩] W fun e w' => e = .returned (.int .i64 (k2 : Nat)) ∧ W = w') := HFC.out
            have HMEM : Hid (58 ∈ q) := by
              have := (fst_lt hf).2.1
              exact List.mem_of_getElem? this
            have q2 : decide ((k2 : Int) < 0) = false := decide_eq_false (by omega)
            clear hf HFC
            go_wp2_with fail
            refine (HPL.out _).mono ?_
            rintro e wq ⟨rfl, rfl⟩
            go_wp2_with fail
            refine (HFC2.out _).mono ?_
            rintro e wq ⟨rfl, rfl⟩
            obtain ⟨D, er, hD⟩ : ∃ D er, dest q = (D, er) := ⟨_, _, rfl⟩
            have hDl : D.1.1.length = 4 := by have := dest_len q; rw [hD] at this; exact this
            obtain ⟨⟨hA, hS⟩, pn⟩ := D
            obtain ⟨x0, x1, x2, x3, rfl⟩ := four hDl
            have HPD : Hid (∀ W, Calls Tryz.prog 83 #[.string Q] W fun e w' => e = .returned (.tuple #[.agg (deC (([x0, x1, x2, x3], hS), pn)), .agg (badC er)]) ∧ Below W.heap.size W w') := fun W => by
              have := rparseDest_at Q W HQS.out
              rwa [HQ.out, hD, badV_badC] at this
            have HD := hide hD
            obtain ⟨HS, hHS⟩ : ∃ S, S = strN hS := ⟨_, rfl⟩
            have HHS := hide hHS
            simp only [deC, nums, List.map_cons, List.map_nil, List.cons_append, List.nil_append, ← hHS] at HPD
            clear hD hDl hHS
            go_wp2_with fail
            refine (HPD.out _).mono ?_
            rintro e w3 ⟨rfl, hb3⟩
            have H0 := keepB hb3 HR0.out
            have H1 := keepB hb3 HR1.out
            have B3 : Below w.heap.size w w3 := B0.out.trans (hb3.mono B0.out.size)
            have hlt0 := lt_of_some H0
            have hlt1 := lt_of_some H1
            obtain ⟨W4, hW4⟩ : ∃ W4, W4 = ((w3.alloc (.cells #[.int .u8 (x0 : Nat), .int .u8 (x1 : Nat), .int .u8 (x2 : Nat), .int .u8 (x3 : Nat), .string HS, .int .i64 (pn : Nat)] 41)).alloc (.cells (badC .ok) 32)).setRow (w3.heap.size + 1) (badC er) := ⟨_, rfl⟩
            have z4' : ((w3.alloc (.cells #[.int .u8 (x0 : Nat), .int .u8 (x1 : Nat), .int .u8 (x2 : Nat), .int .u8 (x3 : Nat), .string HS, .int .i64 (pn : Nat)] 41)).alloc (.cells (badC .ok) 32)).heap[w3.heap.size + 1]? = some (.cells (badC .ok) 32) := alloc_new2 _ _ _
            have k34 : Below w3.heap.size w3 W4 := by rw [hW4]; exact below_setRow (((Below.refl _ _).alloc (Nat.le_refl _) _).alloc (by simp) _) (by omega) _
            have q4 : W4.heap[w3.heap.size]? = some (.cells #[.int .u8 (x0 : Nat), .int .u8 (x1 : Nat), .int .u8 (x2 : Nat), .int .u8 (x3 : Nat), .string HS, .int .i64 (pn : Nat)] 41) := by rw [hW4, setRow_ne _ _ _ _ (by omega)]; exact alloc_old _ (alloc_new _ _)
            have p4 : W4.heap[w3.heap.size + 1]? = some (.cells (badC er) 32) := by rw [hW4]; exact setRow_heap _ _ _ _ _ z4'
            have r0 := keepB k34 H0
            have r1 := keepB k34 H1
            have b4 : Below w.heap.size w W4 := B3.trans (k34.mono B3.size)
            have hN4 : W4.cell? ⟨w3.heap.size + 1, 0, none⟩ = some (.int .i64 (erN er : Nat)) := by simp only [World.cell?, p4]; exact badC_N er
            have Z4 := hide z4'
            have HW4 := hide hW4
            have P4 := hide p4
            have Q4 := hide q4
            have R0 := hide r0
            have R1 := hide r1
            have B4 := hide b4
            clear hb3 H0 H1 B3 hW4 z4' k34 q4 p4 r0 r1 b4 hlt0 hlt1 HPD
            by_cases hok : er = .ok
            · subst hok
              simp only [erN] at hN4
              have HR : Hid (targ (byt m) l = ((byt m, (([x0, x1, x2, x3], hS), pn), pp), .ok)) := by
                show _ = _
                have hg : goTo q = ((([x0, x1, x2, x3], hS), pn), .ok) := by rw [goTo, if_pos HMEM.out, HD.out]
                rw [HTG.out, hg]
              have h04 := R0.out
              have h14 := R1.out
              have hb := B4.out
              obtain ⟨f1, f2, f3, f4⟩ := fin2 h04 h14 #[.int .u8 (x0 : Nat), .int .u8 (x1 : Nat), .int .u8 (x2 : Nat), .int .u8 (x3 : Nat), .string HS, .int .i64 (pn : Nat)] (badG .ok)
              have f5 := f4 w (Nat.le_refl _) hb
              obtain ⟨Wa, hWa⟩ : ∃ W1, W1 = W4.setRow w.heap.size #[.int .u8 (x0 : Nat), .int .u8 (x1 : Nat), .int .u8 (x2 : Nat), .int .u8 (x3 : Nat), .string HS, .int .i64 (pn : Nat)] := ⟨_, rfl⟩
              rw [← hWa] at f1 f2 f3 f4 f5
              obtain ⟨Wb, hWb⟩ : ∃ W2, W2 = Wa.setRow (w.heap.size + 1) (badG .ok) := ⟨_, rfl⟩
              rw [← hWb] at f2 f3 f5
              have F0 := hide h04
              have F1 := hide f1
              have F2 := hide f2
              have F3 := hide f3
              have F5 := hide f5
              have HWa := hide hWa
              have HWb := hide hWb
              clear f1 f2 f3 f4 f5 hWa hWb h04 h14 hb
              go_wp2_with (first
                | (refine wpList_store_rowW rfl 32 _ _ rfl (w3.heap.size + 1) (badC .ok) rfl rfl 32 (badC .ok) Z4.out info32 rfl (badC_one _) W4 HW4.out ?_)
                | (refine wpList_load_rowG rfl 41 _ rfl w3.heap.size rfl 41 #[.int .u8 (x0 : Nat), .int .u8 (x1 : Nat), .int .u8 (x2 : Nat), .int .u8 (x3 : Nat), .string HS, .int .i64 (pn : Nat)] (0, 0) _ Q4.out Tryz.underlying41 rfl info41 ?_)
                | (refine wpList_store_rowW rfl 41 _ _ rfl w.heap.size #[.int .u8 (x0 : Nat), .int .u8 (x1 : Nat), .int .u8 (x2 : Nat), .int .u8 (x3 : Nat), .string HS, .int .i64 (pn : Nat)] rfl rfl 41 z6 F0.out info41 rfl (by simp [Value.oneCell']) Wa HWa.out ?_)
                | (refine wpList_store_rowW rfl 32 _ _ rfl (w.heap.size + 1) (badG .ok) rfl rfl 32 (badC .ok) F1.out (badGI .ok) (by simp [badC_size, badG_size]) (badG_one _) Wb HWb.out ?_))
              refine bodyPost_ret (res_ctc rfl _ _ w.heap.size 41 #[.int .u8 (x0 : Nat), .int .u8 (x1 : Nat), .int .u8 (x2 : Nat), .int .u8 (x3 : Nat), .string HS, .int .i64 (pn : Nat)] (0, 0) _ rfl F2.out Tryz.underlying41 rfl info41 (w.heap.size + 1) 32 (badG .ok) (0, 0) _ rfl F3.out Tryz.underlying32 rfl (badGI .ok)) rfl ⟨?_, F5.out⟩
              rw [HR.out, HHS.out, HPT.out]; rfl
            · have hpos : 0 < erN er := by
                cases er with
                | ok => exact absurd rfl hok
                | one a c => simp [erN]
                | two a b c => simp [erN]
              have HR : Hid (targ (byt m) l = (noR, .wr (AT + 7) er)) := by
                show _ = _
                have hg : (goTo q).2 = er := by rw [goTo, if_pos HMEM.out, HD.out]
                rw [HTG.out]
                cases hgo : goTo q with
                | mk dd ee =>
                  rw [hgo] at hg
                  simp only at hg
                  subst hg
                  cases ee with
                  | ok => exact absurd rfl hok
                  | one a c => rfl
                  | two a b c => rfl
              have HWR : Hid (∀ W, Calls Tryz.prog 53 #[.string ⟨#[104, 101, 97, 100]⟩, .int .i64 ((AT : Int) + 7), .agg (badC er)] W fun x w' => x = .returned (.agg (badG (.wr (AT + 7) er))) ∧ Below W.heap.size W w') := fun W => by
                have := wrapBH_at (AT + 7) er hok W
                simpa using this
              clear hok
              generalize erN er = en at hN4 hpos
              have qq : decide (0 < (en : Int)) = true := decide_eq_true (by omega)
              have qq' : decide (0 < en) = true := decide_eq_true hpos
              go_wp2_with (first
                | (refine wpList_store_rowW rfl 32 _ _ rfl (w3.heap.size + 1) (badC er) rfl rfl 32 (badC .ok) Z4.out (badI er) (by rw [badC_size, badC_size]) (badC_one _) W4 HW4.out ?_)
                | (refine wpList_load_rowG rfl 32 _ rfl (w3.heap.size + 1) rfl 32 (badC er) (0, 0) _ P4.out Tryz.underlying32 rfl (badI er) ?_))
              refine (HWR.out _).mono ?_
              rintro e w7 ⟨rfl, hb7⟩
              have h04 := keepB hb7 R0.out
              have h14 := keepB hb7 R1.out
              have hb := B4.out.trans (hb7.mono B4.out.size)
              obtain ⟨f1, f2, f3, f4⟩ := fin2 h04 h14 z6 (badG (.wr (AT + 7) er))
              have f5 := f4 w (Nat.le_refl _) hb
              obtain ⟨Wa, hWa⟩ : ∃ W1, W1 = w7.setRow w.heap.size z6 := ⟨_, rfl⟩
              rw [← hWa] at f1 f2 f3 f4 f5
              obtain ⟨Wb, hWb⟩ : ∃ W2, W2 = Wa.setRow (w.heap.size + 1) (badG (.wr (AT + 7) er)) := ⟨_, rfl⟩
              rw [← hWb] at f2 f3 f5
              have F0 := hide h04
              have F1 := hide f1
              have F2 := hide f2
              have F3 := hide f3
              have F5 := hide f5
              have HWa := hide hWa
              have HWb := hide hWb
              clear f1 f2 f3 f4 f5 hWa hWb h04 h14 hb hb7
              go_wp2_with (first
                | (refine wpList_store_rowW rfl 41 _ _ rfl w.heap.size z6 rfl rfl 41 z6 F0.out info41 rfl z6_one Wa HWa.out ?_)
                | (refine wpList_store_rowW rfl 32 _ _ rfl (w.heap.size + 1) (badG (.wr (AT + 7) er)) rfl rfl 32 (badC .ok) F1.out (badGI (.wr (AT + 7) er)) (by simp [badC_size, badG_size]) (badG_one _) Wb HWb.out ?_))
              refine bodyPost_ret (res_ctc rfl _ _ w.heap.size 41 z6 (0, 0) _ rfl F2.out Tryz.underlying41 rfl info41 (w.heap.size + 1) 32 (badG (.wr (AT + 7) er)) (0, 0) _ rfl F3.out Tryz.underlying32 rfl (badGI (.wr (AT + 7) er))) rfl ⟨?_, F5.out⟩
              rw [HR.out]; rfl
        · have hpf : path pp = false := by simpa using hpl
          rw [hpf] at HPL
          have HR : Hid (targ (byt m) l = (noR, .one AT 82)) := by
            show _ = _
            unfold targ
            rw [if_neg HMC.out, HOK.out, hpf, if_pos (by simp), HAT.out]
          clear hpl hpf
          go_wp2_with fail
          refine (HPL.out _).mono ?_
          rintro e wq ⟨rfl, rfl⟩
          go_wp2_with fail
          refine (rfaultH_at AT 82 _).mono ?_
          rintro e w4 ⟨rfl, hb4⟩
          have h04 := keepB hb4 HR0.out
          have h14 := keepB hb4 HR1.out
          have hb := B0.out.trans (hb4.mono B0.out.size)
          obtain ⟨f1, f2, f3, f4⟩ := fin2 h04 h14 z6 (badG (.one AT 82))
          have f5 := f4 w (Nat.le_refl _) hb
          obtain ⟨Wa, hWa⟩ : ∃ W1, W1 = w4.setRow w.heap.size z6 := ⟨_, rfl⟩
          rw [← hWa] at f1 f2 f3 f4 f5
          obtain ⟨Wb, hWb⟩ : ∃ W2, W2 = Wa.setRow (w.heap.size + 1) (badG (.one AT 82)) := ⟨_, rfl⟩
          rw [← hWb] at f2 f3 f5
          have F0 := hide h04
          have F1 := hide f1
          have F2 := hide f2
          have F3 := hide f3
          have F5 := hide f5
          have HWa := hide hWa
          have HWb := hide hWb
          clear f1 f2 f3 f4 f5 hWa hWb h04 h14 hb4 hb
          go_wp2_with (first
            | (refine wpList_store_rowW rfl 41 _ _ rfl w.heap.size z6 rfl rfl 41 z6 F0.out info41 rfl z6_one Wa HWa.out ?_)
            | (refine wpList_store_rowW rfl 32 _ _ rfl (w.heap.size + 1) (badG (.one AT 82)) rfl rfl 32 (badC .ok) F1.out (badGI (.one AT 82)) (by simp [badC_size, badG_size]) (badG_one _) Wb HWb.out ?_))
          refine bodyPost_ret (res_ctc rfl _ _ w.heap.size 41 z6 (0, 0) _ rfl F2.out Tryz.underlying41 rfl info41 (w.heap.size + 1) 32 (badG (.one AT 82)) (0, 0) _ rfl F3.out Tryz.underlying32 rfl (badGI (.one AT 82))) rfl ⟨?_, F5.out⟩
          rw [HR.out]; rfl
      | some k =>
        have hkN : k < N1 := by rw [hN1l]; exact (fst_lt hs).1
        rw [hs] at HFS HCT
        have HFS2 : Hid (∀ W, Calls Tryz.prog 66 #[.string R, .string ⟨#[47]⟩] W fun e w' => e = .returned (.int .i64 (k : Nat)) ∧ W = w') := HFS.out
        have hc := HCUT.out
        rw [HCT.out] at hc
        simp only [Prod.mk.injEq] at hc
        have hexQ : R.extract 0 k = Q := by rw [hQ, ← hc.1, ← hRb, ← byt_take, strN_byt]
        have hexP : R.extract k R.size = PT := by rw [hPT, ← hc.2, ← hRb, ← byt_drop, strN_byt]
        have q1 : decide (0 ≤ (k : Int)) = true := decide_eq_true (by omega)
        clear hq hpp hQ hPT hqb hR hRb hN1 hN1l hs hc HFS HCT
        go_enter Tryz.func48, Tryz.ntmps48
        go_wp2_with fail
        rw [HW0.out]
        refine (HBG.out _).mono ?_
        rintro e wq ⟨rfl, rfl⟩
        go_wp2_with fail
        try rw [hex]
        refine (HFS2.out _).mono ?_
        rintro e wq ⟨rfl, rfl⟩
        by_cases hpl : path pp = true
        · rw [hpl] at HPL
          have HTG : Hid (targ (byt m) l = match goTo q with
              | (d, .ok) => ((byt m, d, pp), .ok)
              | (_, e) => (noR, .wr (AT + 7) e)) := by
            show _ = _
            unfold targ
            rw [if_neg HMC.out, HOK.out, hpl, if_neg (by simp), HCUT.out, HAT.out]
            rfl
          clear hpl
          cases hf : fst 58 q with
          | none =>
            rw [hf] at HFC
            have HFC2 : Hid (∀ W, Calls Tryz.prog 66 #[.string Q, .string ⟨#[58]⟩] W fun e w' => e = .returned (.int .i64 (-1)) ∧ W = w') := HFC.out
            have HMEM : Hid (58 ∉ q) := fst_none_iff.1 hf
            clear hf HFC
            go_wp2_with fail
            refine (HPL.out _).mono ?_
            rintro e wq ⟨rfl, rfl⟩
            go_wp2_with fail
            refine (HFC2.out _).mono ?_
            rintro e wq ⟨rfl, rfl⟩
            obtain ⟨D, er, hD⟩ : ∃ D er, host q = (D, er) := ⟨_, _, rfl⟩
            have hDl : D.1.length = 4 := by have := host_len q; rw [hD] at this; exact this
            obtain ⟨hA, hS⟩ := D
            obtain ⟨x0, x1, x2, x3, rfl⟩ := four hDl
            have HPD : Hid (∀ W, Calls Tryz.prog 84 #[.string Q] W fun e w' => e = .returned (.tuple #[.agg (hoC ([x0, x1, x2, x3], hS)), .agg (badC er)]) ∧ Below W.heap.size W w') := fun W => by
              have := rparse_at Q W HQS.out
              rwa [HQ.out, hD, badV_badC] at this
            have HD := hide hD
            obtain ⟨HS, hHS⟩ : ∃ S, S = strN hS := ⟨_, rfl⟩
            have HHS := hide hHS
            simp only [hoC, nums, List.map_cons, List.map_nil, List.cons_append, List.nil_append, ← hHS] at HPD
            clear hD hDl hHS
            go_wp2_with fail
            refine (HPD.out _).mono ?_
            rintro e w3 ⟨rfl, hb3⟩
            have H0 := keepB hb3 HR0.out
            have H1 := keepB hb3 HR1.out
            have B3 : Below w.heap.size w w3 := B0.out.trans (hb3.mono B0.out.size)
            have hlt0 := lt_of_some H0
            have hlt1 := lt_of_some H1
            obtain ⟨W4, hW4⟩ : ∃ W4, W4 = ((w3.alloc (.cells #[.int .u8 (x0 : Nat), .int .u8 (x1 : Nat), .int .u8 (x2 : Nat), .int .u8 (x3 : Nat), .string HS] 39)).alloc (.cells (badC .ok) 32)).setRow (w3.heap.size + 1) (badC er) := ⟨_, rfl⟩
            have z4' : ((w3.alloc (.cells #[.int .u8 (x0 : Nat), .int .u8 (x1 : Nat), .int .u8 (x2 : Nat), .int .u8 (x3 : Nat), .string HS] 39)).alloc (.cells (badC .ok) 32)).heap[w3.heap.size + 1]? = some (.cells (badC .ok) 32) := alloc_new2 _ _ _
            have k34 : Below w3.heap.size w3 W4 := by rw [hW4]; exact below_setRow (((Below.refl _ _).alloc (Nat.le_refl _) _).alloc (by simp) _) (by omega) _
            have q4 : W4.heap[w3.heap.size]? = some (.cells #[.int .u8 (x0 : Nat), .int .u8 (x1 : Nat), .int .u8 (x2 : Nat), .int .u8 (x3 : Nat), .string HS] 39) := by rw [hW4, setRow_ne _ _ _ _ (by omega)]; exact alloc_old _ (alloc_new _ _)
            have p4 : W4.heap[w3.heap.size + 1]? = some (.cells (badC er) 32) := by rw [hW4]; exact setRow_heap _ _ _ _ _ z4'
            have r0 := keepB k34 H0
            have r1 := keepB k34 H1
            have b4 : Below w.heap.size w W4 := B3.trans (k34.mono B3.size)
            have hN4 : W4.cell? ⟨w3.heap.size + 1, 0, none⟩ = some (.int .i64 (erN er : Nat)) := by simp only [World.cell?, p4]; exact badC_N er
            have c0 : W4.cell? ⟨w3.heap.size, 0, none⟩ = some (.int .u8 (x0 : Nat)) := by simp [World.cell?, q4]
            have c1 : W4.cell? ⟨w3.heap.size, 1, none⟩ = some (.int .u8 (x1 : Nat)) := by simp [World.cell?, q4]
            have c2 : W4.cell? ⟨w3.heap.size, 2, none⟩ = some (.int .u8 (x2 : Nat)) := by simp [World.cell?, q4]
            have c3 : W4.cell? ⟨w3.heap.size, 3, none⟩ = some (.int .u8 (x3 : Nat)) := by simp [World.cell?, q4]
            have c4 : W4.cell? ⟨w3.heap.size, 4, none⟩ = some (.string HS) := by simp [World.cell?, q4]
            have Z4 := hide z4'
            have HW4 := hide hW4
            have P4 := hide p4
            have R0 := hide r0
            have R1 := hide r1
            have B4 := hide b4
            clear hb3 H0 H1 B3 hW4 z4' k34 q4 p4 r0 r1 b4 hlt0 hlt1 HPD
            by_cases hok : er = .ok
            · subst hok
              simp only [erN] at hN4
              have HR : Hid (targ (byt m) l = ((byt m, (([x0, x1, x2, x3], hS), 80), pp), .ok)) := by
                show _ = _
                rw [HTG.out, goTo_ok (by exact HMEM.out) HD.out]
              have h04 := R0.out
              have h14 := R1.out
              have hb := B4.out
              obtain ⟨f1, f2, f3, f4⟩ := fin2 h04 h14 #[.int .u8 (x0 : Nat), .int .u8 (x1 : Nat), .int .u8 (x2 : Nat), .int .u8 (x3 : Nat), .string HS, .int .i64 80] (badG .ok)
              have f5 := f4 w (Nat.le_refl _) hb
              obtain ⟨Wa, hWa⟩ : ∃ W1, W1 = W4.setRow w.heap.size #[.int .u8 (x0 : Nat), .int .u8 (x1 : Nat), .int .u8 (x2 : Nat), .int .u8 (x3 : Nat), .string HS, .int .i64 80] := ⟨_, rfl⟩
              rw [← hWa] at f1 f2 f3 f4 f5
              obtain ⟨Wb, hWb⟩ : ∃ W2, W2 = Wa.setRow (w.heap.size + 1) (badG .ok) := ⟨_, rfl⟩
              rw [← hWb] at f2 f3 f5
              have F0 := hide h04
              have F1 := hide f1
              have F2 := hide f2
              have F3 := hide f3
              have F5 := hide f5
              have HWa := hide hWa
              have HWb := hide hWb
              clear f1 f2 f3 f4 f5 hWa hWb h04 h14 hb
              go_wp2_with (first
                | (refine wpList_store_rowW rfl 32 _ _ rfl (w3.heap.size + 1) (badC .ok) rfl rfl 32 (badC .ok) Z4.out info32 rfl (badC_one _) W4 HW4.out ?_)
                | (refine wpList_store_rowW rfl 41 _ _ rfl w.heap.size #[.int .u8 (x0 : Nat), .int .u8 (x1 : Nat), .int .u8 (x2 : Nat), .int .u8 (x3 : Nat), .string HS, .int .i64 80] rfl rfl 41 z6 F0.out info41 rfl (by simp [Value.oneCell']) Wa HWa.out ?_)
                | (refine wpList_store_rowW rfl 32 _ _ rfl (w.heap.size + 1) (badG .ok) rfl rfl 32 (badC .ok) F1.out (badGI .ok) (by simp [badC_size, badG_size]) (badG_one _) Wb HWb.out ?_))
              refine bodyPost_ret (res_ctc rfl _ _ w.heap.size 41 #[.int .u8 (x0 : Nat), .int .u8 (x1 : Nat), .int .u8 (x2 : Nat), .int .u8 (x3 : Nat), .string HS, .int .i64 80] (0, 0) _ rfl F2.out Tryz.underlying41 rfl info41 (w.heap.size + 1) 32 (badG .ok) (0, 0) _ rfl F3.out Tryz.underlying32 rfl (badGI .ok)) rfl ⟨?_, F5.out⟩
              rw [HR.out, HHS.out, HPT.out]; rfl
            · have hpos : 0 < erN er := by
                cases er with
                | ok => exact absurd rfl hok
                | one a c => simp [erN]
                | two a b c => simp [erN]
              have HR : Hid (targ (byt m) l = (noR, .wr (AT + 7) er)) := by
                show _ = _
                have hg : (goTo q).2 = er := by rw [goTo_bad HMEM.out (by rw [HD.out]; exact hok), HD.out]
                rw [HTG.out]
                cases hgo : goTo q with
                | mk dd ee =>
                  rw [hgo] at hg
                  simp only at hg
                  subst hg
                  cases ee with
                  | ok => exact absurd rfl hok
                  | one a c => rfl
                  | two a b c => rfl
              have HWR : Hid (∀ W, Calls Tryz.prog 53 #[.string ⟨#[104, 101, 97, 100]⟩, .int .i64 ((AT : Int) + 7), .agg (badC er)] W fun x w' => x = .returned (.agg (badG (.wr (AT + 7) er))) ∧ Below W.heap.size W w') := fun W => by
                have := wrapBH_at (AT + 7) er hok W
                simpa using this
              clear hok
              generalize erN er = en at hN4 hpos
              have qq : decide (0 < (en : Int)) = true := decide_eq_true (by omega)
              have qq' : decide (0 < en) = true := decide_eq_true hpos
              clear c0 c1 c2 c3 c4
              go_wp2_with (first
                | (refine wpList_store_rowW rfl 32 _ _ rfl (w3.heap.size + 1) (badC er) rfl rfl 32 (badC .ok) Z4.out (badI er) (by rw [badC_size, badC_size]) (badC_one _) W4 HW4.out ?_)
                | (refine wpList_load_rowG rfl 32 _ rfl (w3.heap.size + 1) rfl 32 (badC er) (0, 0) _ P4.out Tryz.underlying32 rfl (badI er) ?_))
              refine (HWR.out _).mono ?_
              rintro e w7 ⟨rfl, hb7⟩
              have h04 := keepB hb7 R0.out
              have h14 := keepB hb7 R1.out
              have hb := B4.out.trans (hb7.mono B4.out.size)
              obtain ⟨f1, f2, f3, f4⟩ := fin2 h04 h14 z6 (badG (.wr (AT + 7) er))
              have f5 := f4 w (Nat.le_refl _) hb
              obtain ⟨Wa, hWa⟩ : ∃ W1, W1 = w7.setRow w.heap.size z6 := ⟨_, rfl⟩
              rw [← hWa] at f1 f2 f3 f4 f5
              obtain ⟨Wb, hWb⟩ : ∃ W2, W2 = Wa.setRow (w.heap.size + 1) (badG (.wr (AT + 7) er)) := ⟨_, rfl⟩
              rw [← hWb] at f2 f3 f5
              have F0 := hide h04
              have F1 := hide f1
              have F2 := hide f2
              have F3 := hide f3
              have F5 := hide f5
              have HWa := hide hWa
              have HWb := hide hWb
              clear f1 f2 f3 f4 f5 hWa hWb h04 h14 hb hb7
              go_wp2_with (first
                | (refine wpList_store_rowW rfl 41 _ _ rfl w.heap.size z6 rfl rfl 41 z6 F0.out info41 rfl z6_one Wa HWa.out ?_)
                | (refine wpList_store_rowW rfl 32 _ _ rfl (w.heap.size + 1) (badG (.wr (AT + 7) er)) rfl rfl 32 (badC .ok) F1.out (badGI (.wr (AT + 7) er)) (by simp [badC_size, badG_size]) (badG_one _) Wb HWb.out ?_))
              refine bodyPost_ret (res_ctc rfl _ _ w.heap.size 41 z6 (0, 0) _ rfl F2.out Tryz.underlying41 rfl info41 (w.heap.size + 1) 32 (badG (.wr (AT + 7) er)) (0, 0) _ rfl F3.out Tryz.underlying32 rfl (badGI (.wr (AT + 7) er))) rfl ⟨?_, F5.out⟩
              rw [HR.out]; rfl
          | some k2 =>
            rw [hf] at HFC
            have HFC2 : Hid (∀ W, Calls Tryz.prog 66 #[.string Q, .string ⟨#[58]⟩] W fun e w' => e = .returned (.int .i64 (k2 : Nat)) ∧ W = w') := HFC.out
            have HMEM : Hid (58 ∈ q) := by
              have := (fst_lt hf).2.1
              exact List.mem_of_getElem? this
            have q2 : decide ((k2 : Int) < 0) = false := decide_eq_false (by omega)
            clear hf HFC
            go_wp2_with fail
            refine (HPL.out _).mono ?_
            rintro e wq ⟨rfl, rfl⟩
            go_wp2_with fail
            refine (HFC2.out _).mono ?_
            rintro e wq ⟨rfl, rfl⟩
            obtain ⟨D, er, hD⟩ : ∃ D er, dest q = (D, er) := ⟨_, _, rfl⟩
            have hDl : D.1.1.length = 4 := by have := dest_len q; rw [hD] at this; exact this
            obtain ⟨⟨hA, hS⟩, pn⟩ := D
            obtain ⟨x0, x1, x2, x3, rfl⟩ := four hDl
            have HPD : Hid (∀ W, Calls Tryz.prog 83 #[.string Q] W fun e w' => e = .returned (.tuple #[.agg (deC (([x0, x1, x2, x3], hS), pn)), .agg (badC er)]) ∧ Below W.heap.size W w') := fun W => by
              have := rparseDest_at Q W HQS.out
              rwa [HQ.out, hD, badV_badC] at this
            have HD := hide hD
            obtain ⟨HS, hHS⟩ : ∃ S, S = strN hS := ⟨_, rfl⟩
            have HHS := hide hHS
            simp only [deC, nums, List.map_cons, List.map_nil, List.cons_append, List.nil_append, ← hHS] at HPD
            clear hD hDl hHS
            go_wp2_with fail
            refine (HPD.out _).mono ?_
            rintro e w3 ⟨rfl, hb3⟩
            have H0 := keepB hb3 HR0.out
            have H1 := keepB hb3 HR1.out
            have B3 : Below w.heap.size w w3 := B0.out.trans (hb3.mono B0.out.size)
            have hlt0 := lt_of_some H0
            have hlt1 := lt_of_some H1
            obtain ⟨W4, hW4⟩ : ∃ W4, W4 = ((w3.alloc (.cells #[.int .u8 (x0 : Nat), .int .u8 (x1 : Nat), .int .u8 (x2 : Nat), .int .u8 (x3 : Nat), .string HS, .int .i64 (pn : Nat)] 41)).alloc (.cells (badC .ok) 32)).setRow (w3.heap.size + 1) (badC er) := ⟨_, rfl⟩
            have z4' : ((w3.alloc (.cells #[.int .u8 (x0 : Nat), .int .u8 (x1 : Nat), .int .u8 (x2 : Nat), .int .u8 (x3 : Nat), .string HS, .int .i64 (pn : Nat)] 41)).alloc (.cells (badC .ok) 32)).heap[w3.heap.size + 1]? = some (.cells (badC .ok) 32) := alloc_new2 _ _ _
            have k34 : Below w3.heap.size w3 W4 := by rw [hW4]; exact below_setRow (((Below.refl _ _).alloc (Nat.le_refl _) _).alloc (by simp) _) (by omega) _
            have q4 : W4.heap[w3.heap.size]? = some (.cells #[.int .u8 (x0 : Nat), .int .u8 (x1 : Nat), .int .u8 (x2 : Nat), .int .u8 (x3 : Nat), .string HS, .int .i64 (pn : Nat)] 41) := by rw [hW4, setRow_ne _ _ _ _ (by omega)]; exact alloc_old _ (alloc_new _ _)
            have p4 : W4.heap[w3.heap.size + 1]? = some (.cells (badC er) 32) := by rw [hW4]; exact setRow_heap _ _ _ _ _ z4'
            have r0 := keepB k34 H0
            have r1 := keepB k34 H1
            have b4 : Below w.heap.size w W4 := B3.trans (k34.mono B3.size)
            have hN4 : W4.cell? ⟨w3.heap.size + 1, 0, none⟩ = some (.int .i64 (erN er : Nat)) := by simp only [World.cell?, p4]; exact badC_N er
            have Z4 := hide z4'
            have HW4 := hide hW4
            have P4 := hide p4
            have Q4 := hide q4
            have R0 := hide r0
            have R1 := hide r1
            have B4 := hide b4
            clear hb3 H0 H1 B3 hW4 z4' k34 q4 p4 r0 r1 b4 hlt0 hlt1 HPD
            by_cases hok : er = .ok
            · subst hok
              simp only [erN] at hN4
              have HR : Hid (targ (byt m) l = ((byt m, (([x0, x1, x2, x3], hS), pn), pp), .ok)) := by
                show _ = _
                have hg : goTo q = ((([x0, x1, x2, x3], hS), pn), .ok) := by rw [goTo, if_pos HMEM.out, HD.out]
                rw [HTG.out, hg]
              have h04 := R0.out
              have h14 := R1.out
              have hb := B4.out
              obtain ⟨f1, f2, f3, f4⟩ := fin2 h04 h14 #[.int .u8 (x0 : Nat), .int .u8 (x1 : Nat), .int .u8 (x2 : Nat), .int .u8 (x3 : Nat), .string HS, .int .i64 (pn : Nat)] (badG .ok)
              have f5 := f4 w (Nat.le_refl _) hb
              obtain ⟨Wa, hWa⟩ : ∃ W1, W1 = W4.setRow w.heap.size #[.int .u8 (x0 : Nat), .int .u8 (x1 : Nat), .int .u8 (x2 : Nat), .int .u8 (x3 : Nat), .string HS, .int .i64 (pn : Nat)] := ⟨_, rfl⟩
              rw [← hWa] at f1 f2 f3 f4 f5
              obtain ⟨Wb, hWb⟩ : ∃ W2, W2 = Wa.setRow (w.heap.size + 1) (badG .ok) := ⟨_, rfl⟩
              rw [← hWb] at f2 f3 f5
              have F0 := hide h04
              have F1 := hide f1
              have F2 := hide f2
              have F3 := hide f3
              have F5 := hide f5
              have HWa := hide hWa
              have HWb := hide hWb
              clear f1 f2 f3 f4 f5 hWa hWb h04 h14 hb
              go_wp2_with (first
                | (refine wpList_store_rowW rfl 32 _ _ rfl (w3.heap.size + 1) (badC .ok) rfl rfl 32 (badC .ok) Z4.out info32 rfl (badC_one _) W4 HW4.out ?_)
                | (refine wpList_load_rowG rfl 41 _ rfl w3.heap.size rfl 41 #[.int .u8 (x0 : Nat), .int .u8 (x1 : Nat), .int .u8 (x2 : Nat), .int .u8 (x3 : Nat), .string HS, .int .i64 (pn : Nat)] (0, 0) _ Q4.out Tryz.underlying41 rfl info41 ?_)
                | (refine wpList_store_rowW rfl 41 _ _ rfl w.heap.size #[.int .u8 (x0 : Nat), .int .u8 (x1 : Nat), .int .u8 (x2 : Nat), .int .u8 (x3 : Nat), .string HS, .int .i64 (pn : Nat)] rfl rfl 41 z6 F0.out info41 rfl (by simp [Value.oneCell']) Wa HWa.out ?_)
                | (refine wpList_store_rowW rfl 32 _ _ rfl (w.heap.size + 1) (badG .ok) rfl rfl 32 (badC .ok) F1.out (badGI .ok) (by simp [badC_size, badG_size]) (badG_one _) Wb HWb.out ?_))
              refine bodyPost_ret (res_ctc rfl _ _ w.heap.size 41 #[.int .u8 (x0 : Nat), .int .u8 (x1 : Nat), .int .u8 (x2 : Nat), .int .u8 (x3 : Nat), .string HS, .int .i64 (pn : Nat)] (0, 0) _ rfl F2.out Tryz.underlying41 rfl info41 (w.heap.size + 1) 32 (badG .ok) (0, 0) _ rfl F3.out Tryz.underlying32 rfl (badGI .ok)) rfl ⟨?_, F5.out⟩
              rw [HR.out, HHS.out, HPT.out]; rfl
            · have hpos : 0 < erN er := by
                cases er with
                | ok => exact absurd rfl hok
                | one a c => simp [erN]
                | two a b c => simp [erN]
              have HR : Hid (targ (byt m) l = (noR, .wr (AT + 7) er)) := by
                show _ = _
                have hg : (goTo q).2 = er := by rw [goTo, if_pos HMEM.out, HD.out]
                rw [HTG.out]
                cases hgo : goTo q with
                | mk dd ee =>
                  rw [hgo] at hg
                  simp only at hg
                  subst hg
                  cases ee with
                  | ok => exact absurd rfl hok
                  | one a c => rfl
                  | two a b c => rfl
              have HWR : Hid (∀ W, Calls Tryz.prog 53 #[.string ⟨#[104, 101, 97, 100]⟩, .int .i64 ((AT : Int) + 7), .agg (badC er)] W fun x w' => x = .returned (.agg (badG (.wr (AT + 7) er))) ∧ Below W.heap.size W w') := fun W => by
                have := wrapBH_at (AT + 7) er hok W
                simpa using this
              clear hok
              generalize erN er = en at hN4 hpos
              have qq : decide (0 < (en : Int)) = true := decide_eq_true (by omega)
              have qq' : decide (0 < en) = true := decide_eq_true hpos
              go_wp2_with (first
                | (refine wpList_store_rowW rfl 32 _ _ rfl (w3.heap.size + 1) (badC er) rfl rfl 32 (badC .ok) Z4.out (badI er) (by rw [badC_size, badC_size]) (badC_one _) W4 HW4.out ?_)
                | (refine wpList_load_rowG rfl 32 _ rfl (w3.heap.size + 1) rfl 32 (badC er) (0, 0) _ P4.out Tryz.underlying32 rfl (badI er) ?_))
              refine (HWR.out _).mono ?_
              rintro e w7 ⟨rfl, hb7⟩
              have h04 := keepB hb7 R0.out
              have h14 := keepB hb7 R1.out
              have hb := B4.out.trans (hb7.mono B4.out.size)
              obtain ⟨f1, f2, f3, f4⟩ := fin2 h04 h14 z6 (badG (.wr (AT + 7) er))
              have f5 := f4 w (Nat.le_refl _) hb
              obtain ⟨Wa, hWa⟩ : ∃ W1, W1 = w7.setRow w.heap.size z6 := ⟨_, rfl⟩
              rw [← hWa] at f1 f2 f3 f4 f5
              obtain ⟨Wb, hWb⟩ : ∃ W2, W2 = Wa.setRow (w.heap.size + 1) (badG (.wr (AT + 7) er)) := ⟨_, rfl⟩
              rw [← hWb] at f2 f3 f5
              have F0 := hide h04
              have F1 := hide f1
              have F2 := hide f2
              have F3 := hide f3
              have F5 := hide f5
              have HWa := hide hWa
              have HWb := hide hWb
              clear f1 f2 f3 f4 f5 hWa hWb h04 h14 hb hb7
              go_wp2_with (first
                | (refine wpList_store_rowW rfl 41 _ _ rfl w.heap.size z6 rfl rfl 41 z6 F0.out info41 rfl z6_one Wa HWa.out ?_)
                | (refine wpList_store_rowW rfl 32 _ _ rfl (w.heap.size + 1) (badG (.wr (AT + 7) er)) rfl rfl 32 (badC .ok) F1.out (badGI (.wr (AT + 7) er)) (by simp [badC_size, badG_size]) (badG_one _) Wb HWb.out ?_))
              refine bodyPost_ret (res_ctc rfl _ _ w.heap.size 41 z6 (0, 0) _ rfl F2.out Tryz.underlying41 rfl info41 (w.heap.size + 1) 32 (badG (.wr (AT + 7) er)) (0, 0) _ rfl F3.out Tryz.underlying32 rfl (badGI (.wr (AT + 7) er))) rfl ⟨?_, F5.out⟩
              rw [HR.out]; rfl
        · have hpf : path pp = false := by simpa using hpl
          rw [hpf] at HPL
          have HR : Hid (targ (byt m) l = (noR, .one AT 82)) := by
            show _ = _
            unfold targ
            rw [if_neg HMC.out, HOK.out, hpf, if_pos (by simp), HAT.out]
          clear hpl hpf
          go_wp2_with fail
          refine (HPL.out _).mono ?_
          rintro e wq ⟨rfl, rfl⟩
          go_wp2_with fail
          refine (rfaultH_at AT 82 _).mono ?_
          rintro e w4 ⟨rfl, hb4⟩
          have h04 := keepB hb4 HR0.out
          have h14 := keepB hb4 HR1.out
          have hb := B0.out.trans (hb4.mono B0.out.size)
          obtain ⟨f1, f2, f3, f4⟩ := fin2 h04 h14 z6 (badG (.one AT 82))
          have f5 := f4 w (Nat.le_refl _) hb
          obtain ⟨Wa, hWa⟩ : ∃ W1, W1 = w4.setRow w.heap.size z6 := ⟨_, rfl⟩
          rw [← hWa] at f1 f2 f3 f4 f5
          obtain ⟨Wb, hWb⟩ : ∃ W2, W2 = Wa.setRow (w.heap.size + 1) (badG (.one AT 82)) := ⟨_, rfl⟩
          rw [← hWb] at f2 f3 f5
          have F0 := hide h04
          have F1 := hide f1
          have F2 := hide f2
          have F3 := hide f3
          have F5 := hide f5
          have HWa := hide hWa
          have HWb := hide hWb
          clear f1 f2 f3 f4 f5 hWa hWb h04 h14 hb4 hb
          go_wp2_with (first
            | (refine wpList_store_rowW rfl 41 _ _ rfl w.heap.size z6 rfl rfl 41 z6 F0.out info41 rfl z6_one Wa HWa.out ?_)
            | (refine wpList_store_rowW rfl 32 _ _ rfl (w.heap.size + 1) (badG (.one AT 82)) rfl rfl 32 (badC .ok) F1.out (badGI (.one AT 82)) (by simp [badC_size, badG_size]) (badG_one _) Wb HWb.out ?_))
          refine bodyPost_ret (res_ctc rfl _ _ w.heap.size 41 z6 (0, 0) _ rfl F2.out Tryz.underlying41 rfl info41 (w.heap.size + 1) 32 (badG (.one AT 82)) (0, 0) _ rfl F3.out Tryz.underlying32 rfl (badGI (.one AT 82))) rfl ⟨?_, F5.out⟩
          rw [HR.out]; rfl
    · rw [decide_eq_false hbg] at HBG
      have HR : Hid (targ (byt m) l = (noR, .one AT 82)) := by
        show _ = _
        unfold targ
        rw [if_neg HMC.out, if_pos (by unfold okT; rw [decide_eq_false hbg]; rfl), HAT.out]
      clear hbg
      go_enter Tryz.func48, Tryz.ntmps48
      go_wp2_with fail
      rw [HW0.out]
      refine (HBG.out _).mono ?_
      rintro e wq ⟨rfl, rfl⟩
      go_wp2_with fail
      refine (rfaultH_at AT 82 _).mono ?_
      rintro e w4 ⟨rfl, hb4⟩
      have h04 := keepB hb4 HR0.out
      have h14 := keepB hb4 HR1.out
      have hb := B0.out.trans (hb4.mono B0.out.size)
      obtain ⟨f1, f2, f3, f4⟩ := fin2 h04 h14 z6 (badG (.one AT 82))
      have f5 := f4 w (Nat.le_refl _) hb
      obtain ⟨Wa, hWa⟩ : ∃ W1, W1 = w4.setRow w.heap.size z6 := ⟨_, rfl⟩
      rw [← hWa] at f1 f2 f3 f4 f5
      obtain ⟨Wb, hWb⟩ : ∃ W2, W2 = Wa.setRow (w.heap.size + 1) (badG (.one AT 82)) := ⟨_, rfl⟩
      rw [← hWb] at f2 f3 f5
      have F0 := hide h04
      have F1 := hide f1
      have F2 := hide f2
      have F3 := hide f3
      have F5 := hide f5
      have HWa := hide hWa
      have HWb := hide hWb
      clear f1 f2 f3 f4 f5 hWa hWb h04 h14 hb4 hb
      go_wp2_with (first
        | (refine wpList_store_rowW rfl 41 _ _ rfl w.heap.size z6 rfl rfl 41 z6 F0.out info41 rfl z6_one Wa HWa.out ?_)
        | (refine wpList_store_rowW rfl 32 _ _ rfl (w.heap.size + 1) (badG (.one AT 82)) rfl rfl 32 (badC .ok) F1.out (badGI (.one AT 82)) (by simp [badC_size, badG_size]) (badG_one _) Wb HWb.out ?_))
      refine bodyPost_ret (res_ctc rfl _ _ w.heap.size 41 z6 (0, 0) _ rfl F2.out Tryz.underlying41 rfl info41 (w.heap.size + 1) 32 (badG (.one AT 82)) (0, 0) _ rfl F3.out Tryz.underlying32 rfl (badGI (.one AT 82))) rfl ⟨?_, F5.out⟩
      rw [HR.out]; rfl
end Go.Proofs.YthbnbnfhbkekpaaGreatDoor
