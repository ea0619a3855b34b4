/-
  The reference's readers: fields; conditions as each theorem has them.
-/
import Derived.Test.YthbnbnfhbkekpaaGreatDoorRZ
import Derived.Deep.RegionHeld3
set_option linter.unusedSimpArgs false
set_option linter.unusedVariables false
namespace Go.Proofs.YthbnbnfhbkekpaaGreatDoor
open Go.RowKit

/-- The operation 'append' at a step of a drawn region, where its run is known by an equation. -/
theorem step_app_run2 {P : Program} (w : World) {ops : Array Oper} {o : Oper} {a : Act} {K : Act → World → Prop} {Q : Exit → Act → World → Prop} {E : Prop} (hgd : o.guard = none) (d s : Operand) (t t' : TypeId)
    (ho : o.op = .call { callee := .builtin .append, args := #[d, s], argTypes := #[t, t'] }) (v u : Value) (hd : a.eval d = v) (hs : a.eval s = u) {v' : Value} {w' : World}
    (hr : (Builtin.append_ #[t, t'] o.type #[v, u]).run P w = .ok v' w') (h : K (a.put o.dst v') w') : if Region.wanted o (yielded ops a.tmps) = true then Oper.wp P o a w K Q else E := by
  have hw : Region.wanted o (yielded ops a.tmps) = true := by simp [Region.wanted, hgd]
  rw [if_pos hw]
  unfold Oper.wp execOp
  simp only [ho, resolve, invoke, builtin, Sem.run_bind, Sem.run_pure, Result.andThen_ok, List.map_toArray, List.map_cons, List.map_nil, hd, hs, hr]
  exact h
theorem OwnF.mono {w : World} {B B' : Nat} {v : Value} {fs : List Fd} (h : OwnF w B v fs) (hb : B' ≤ B) : OwnF w B' v fs := by
  refine ⟨h.1, ?_⟩
  rcases h.2 with h | ⟨g, cap, cur, e, hg, r⟩
  · exact Or.inl h
  · exact Or.inr ⟨g, cap, cur, e, Nat.le_trans hb hg, r⟩
theorem fin10 {w wN : World} (e : Hr) (h1 : wN.heap[w.heap.size]? = some (.cells (badC .ok) 32)) (h2 : Below w.heap.size w wN) : ∃ W2, W2 = wN.setRow w.heap.size (badG e) ∧ W2.heap[w.heap.size]? = some (.cells (badG e) 32) ∧ Below w.heap.size w W2 :=
  ⟨_, rfl, setRow_heap _ _ _ _ _ h1, below_setRow h2 (Nat.le_refl _) _⟩
theorem SrcV.at_ {w w' : World} {a : Option Addr} {n c : Nat} {xs : List Value} (h : SrcV w a n c xs) (k : Below w.heap.size w w') {i : Nat} {u : Value} (hi : xs[i]? = some u) : ∃ b o, a = some ⟨b, o, none⟩ ∧ b < w.heap.size ∧ w'.cell? ⟨b, o + i, none⟩ = some u := by
  have hlt := (List.getElem?_eq_some_iff.1 hi).1
  obtain ⟨b, o, e, hb, hc⟩ := h.lies (by rw [← h.hlen]; omega)
  exact ⟨b, o, e, hb, (k.cell (p := ⟨b, o + i, none⟩) hb).trans (hc i u hi)⟩

set_option maxRecDepth 100000 in
set_option maxHeartbeats 16000000 in
theorem rfields_at (A n : Nat) (ls : List (List Nat)) (a1 a2 : Option Addr) (c1 c2 : Nat) (w : World) (h1 : SrcV w a1 n c1 (strs ls)) (h2 : SrcV w a2 n c2 (ints (begs A ls))) (hb : ∀ x ∈ ls, ∀ c ∈ x, c < 256) (hl : ∀ x ∈ ls, x.length ≤ 8192) : Calls Tryz.prog 49 #[.slice a1 n c1, .slice a2 n c2] w fun e w' => ∃ v, e = .returned (.tuple #[v, .agg (badG (flds A ls []).2)]) ∧ OwnF w' w.heap.size v (flds A ls []).1 ∧ Below w.heap.size w w' := by
  have hn : n = ls.length := by rw [← h1.hlen, strs_length]
  have hcl := h1.hcap
  have hmx := h1.hmax
  have hcl2 := h2.hcap
  have hmx2 := h2.hmax
  unfold maxLen at hmx hmx2
  obtain ⟨W0, hW0⟩ : ∃ W0, W0 = (w.alloc (.cells (badC .ok) 32)).alloc (.cells #[] 76) := ⟨_, rfl⟩
  have r0 : W0.heap[w.heap.size]? = some (.cells (badC .ok) 32) := by rw [hW0]; exact alloc_old _ (alloc_new _ _)
  have o0 : OwnF W0 (w.heap.size + 1) (.slice (some ⟨w.heap.size + 1, 0, none⟩) 0 0) [] := by
    rw [hW0]
    have := own_new76 (w.alloc (.cells (badC .ok) 32))
    simpa using this
  have b0 : Below w.heap.size w W0 := by rw [hW0]; exact ((Below.refl _ _).alloc (Nat.le_refl _) _).alloc (by simp) _
  have HI : Hid (OwnF W0 (w.heap.size + 1) (.slice (some ⟨w.heap.size + 1, 0, none⟩) 0 0) [] ∧ Below w.heap.size w W0 ∧ W0.heap[w.heap.size]? = some (.cells (badC .ok) 32)) := ⟨o0, b0, r0⟩
  have HW0 : Hid ((w.alloc (.cells #[.int .i64 0, .string ⟨#[]⟩, .string ⟨#[]⟩, .string ⟨#[]⟩, .string ⟨#[]⟩, .int .i64 0, .int .i64 0, .int .i64 0, .int .i64 0, .int .i64 0] 32)).alloc (.cells #[] 76) = W0) := hW0.symm
  have H1 := hide h1
  have H2 := hide h2
  have HB := hide hb
  have HL := hide hl
  have HN := hide hn
  clear h1 h2 hb hl hn hW0 r0 o0 b0
  go_enter Tryz.func49, Tryz.ntmps49
  go_wp2_with fail
  rw [HW0.out]
  go_loopw [6, 7] (fun v i wr => ∃ k : Nat, k ≤ n ∧ k ≤ 64 ∧ i = .int .i64 k ∧ Hid (∃ fs : List Fd, FlSt A ls k fs ∧ OwnF wr (w.heap.size + 1) v fs ∧ Below w.heap.size w wr ∧ wr.heap[w.heap.size]? = some (.cells (badC .ok) 32))) (fun _ i _ => n - (intOf i).toNat)
  case atStart => exact ⟨0, by omega, by omega, rfl, [], FlSt.start _ _, HI.out⟩
  case round =>
    obtain ⟨k, hk, hk64, rfl, HR⟩ := hrel
    obtain ⟨fs, i1, i2, i3, i4⟩ := HR.out
    by_cases hkn : k < n
    · have hdk : decide ((k : Int) < (n : Int)) = true := decide_eq_true (by omega)
      have hdk' : decide (k < n) = true := decide_eq_true hkn
      have hkl : k < ls.length := by rw [← HN.out]; exact hkn
      obtain ⟨x, hx⟩ : ∃ x, x = ls.getD k [] := ⟨_, rfl⟩
      have hxm : x ∈ ls := by rw [hx]; exact getD_mem hkl
      have hxb := HB.out x hxm
      have hxl := HL.out x hxm
      obtain ⟨X, hX⟩ : ∃ X, X = strN x := ⟨_, rfl⟩
      have hXb : byt X = x := by rw [hX]; exact byt_strN x hxb
      have hXs : X.size = x.length := by rw [hX, strN_size]
      obtain ⟨P, hP⟩ : ∃ P, P = A + (fla (ls.take k)).length := ⟨_, rfl⟩
      obtain ⟨x1, y1, rfl, lx1, d1⟩ := H1.out.at_ i3 (strs_get ls k hkl)
      obtain ⟨x2, y2, rfl, _, d2⟩ := H2.out.at_ i3 (show (ints (begs A ls))[k]? = some (.int .i64 (P : Nat)) by rw [hP]; unfold ints; rw [List.getElem?_map, begs_at ls A k hkl]; rfl)
      rw [← hx, ← hX] at d1
      have HX1 := hide lx1
      clear lx1
      have J2 := hide i2
      have J3 := hide i3
      have J4 := hide i4
      by_cases h64 : k = 64
      · have q64 : ((k : Int) == 64) = true := by simp; omega
        have HF : Hid (flds A ls [] = ([], .one P 3)) := by show _ = _; subst h64; rw [hP]; exact i1.long hkl
        clear i1 i2 i3 i4 HR hx hxm hxb hxl hX hXb hXs hP hkl h64 d1
        go_wp2_with fail
        refine (rfaultH_at P 3 _).mono ?_
        rintro e w4 ⟨rfl, hb4⟩
        obtain ⟨W2, hW2, f3, f5⟩ := fin10 (w := w) (.one P 3) (keepB hb4 J4.out) (J3.out.trans (hb4.mono J3.out.size))
        have F1 := hide (keepB hb4 J4.out)
        have F3 := hide f3
        have F5 := hide f5
        have HW2 := hide hW2
        clear hW2 f3 f5 hb4
        go_wp2_with (first
          | (refine wpList_store_rowW rfl 32 _ _ rfl w.heap.size (badG (.one P 3)) rfl rfl 32 (badC .ok) F1.out (badGI (.one P 3)) (by simp [badC_size, badG_size]) (badG_one _) W2 HW2.out ?_))
        refine bodyPost_ret (res_tmp_cell rfl _ _ w.heap.size 32 (badG (.one P 3)) (0, 0) _ rfl F3.out Tryz.underlying32 rfl (badGI (.one P 3))) rfl ⟨.slice none 0 0, by rw [HF.out]; rfl, by rw [HF.out]; exact OwnF.nilS _ _, F5.out⟩
      have q64 : ((k : Int) == 64) = false := by simp; omega
      obtain ⟨N, hN⟩ : ∃ N, N = X.size := ⟨_, rfl⟩
      have hN8 : N ≤ 8192 := by rw [hN, hXs]; exact hxl
      have hNI : (X.size : Int) = (N : Int) := by rw [hN]
      have HNS := hide hN
      have HXN : Hid (N = x.length) := by show _ = _; rw [hN, hXs]
      have HIX : Hid (∀ i, i < X.size → ∀ w, (Instr.index 9 (.string X) (.int .i64 (i : Nat))).run Tryz.prog w = .ok (.int .u8 (x.getD i 0 : Nat)) w) := fun i hi w => by rw [← hXb]; exact run_ixstr X i hi w
      have HSUB : Hid (∀ i j, i ≤ j → j ≤ N → X.extract i j = strN ((x.drop i).take (j - i))) := fun i j h1 h2 => by
        rw [← strN_byt (X.extract i j)]
        congr 1
        unfold byt
        rw [ByteArray.data_extract, Array.toList_extract, List.extract_eq_take_drop, List.map_take, List.map_drop, ← hXb]
        rfl
      have HFI : Hid (∀ W, Calls Tryz.prog 66 #[.string X, .string ⟨#[58]⟩] W fun e w' => e = .returned (.int .i64 (fI (fst 58 x))) ∧ W = w') := fun W => by
        have := find_at X 58 _ W (by rw [← hN]; omega) (by decide) rfl
        rwa [hXb] at this
      have HAL : Hid (∀ W, Calls Tryz.prog 46 #[.string X] W fun e w' => e = .returned (.bool (lone x)) ∧ W = w') := fun W => by
        have := raloneH_at X W (by rw [← hN]; omega)
        rwa [hXb] at this
      have HXB := hide hxb
      have HXE := hide hx
      have HPE := hide hP
      have HKL := hide hkl
      have JS := hide i1
      clear i1 i2 i3 i4 HR hx hxm hxb hxl hX hXb hXs hP hkl hN
      cases hf : fst 58 x with
      | none =>
        rw [hf] at HFI
        have HFI2 : Hid (∀ W, Calls Tryz.prog 66 #[.string X, .string ⟨#[58]⟩] W fun e w' => e = .returned (.int .i64 (-1)) ∧ W = w') := HFI.out
        have HF : Hid (flds A ls [] = ([], .one P 80)) := by
          have hfl : fld x = (([], []), 80) := by unfold fld; rw [hf]
          show _ = _
          rw [JS.out.bad HKL.out h64 (by rw [← HXE.out, hfl]; simp), ← HPE.out, ← HXE.out, hfl]
        clear hf HFI
        go_wp2_with fail
        refine (HFI2.out _).mono ?_
        rintro e wq ⟨rfl, rfl⟩
        go_wp2_with fail
        refine (rfaultH_at P 80 _).mono ?_
        rintro e w4 ⟨rfl, hb4⟩
        obtain ⟨W2, hW2, f3, f5⟩ := fin10 (w := w) (.one P 80) (keepB hb4 J4.out) (J3.out.trans (hb4.mono J3.out.size))
        have F1 := hide (keepB hb4 J4.out)
        have F3 := hide f3
        have F5 := hide f5
        have HW2 := hide hW2
        clear hW2 f3 f5 hb4
        go_wp2_with (first
          | (refine wpList_store_rowW rfl 32 _ _ rfl w.heap.size (badG (.one P 80)) rfl rfl 32 (badC .ok) F1.out (badGI (.one P 80)) (by simp [badC_size, badG_size]) (badG_one _) W2 HW2.out ?_))
        refine bodyPost_ret (res_tmp_cell rfl _ _ w.heap.size 32 (badG (.one P 80)) (0, 0) _ rfl F3.out Tryz.underlying32 rfl (badGI (.one P 80))) rfl ⟨.slice none 0 0, by rw [HF.out]; rfl, by rw [HF.out]; exact OwnF.nilS _ _, F5.out⟩
      | some kk =>
        have hkk : kk < N := by rw [HXN.out]; exact (fst_lt hf).1
        rw [hf] at HFI
        have HFI2 : Hid (∀ W, Calls Tryz.prog 66 #[.string X, .string ⟨#[58]⟩] W fun e w' => e = .returned (.int .i64 (kk : Nat)) ∧ W = w') := HFI.out
        have q1 : decide ((kk : Int) < 0) = false := decide_eq_false (by omega)
        have hkk2 : kk ≤ N := by omega
        have HFST := hide hf
        clear hf HFI
        by_cases hln : lone x = true
        · rw [hln] at HAL
          have HF : Hid (flds A ls [] = ([], .one P 80)) := by
            have hfl : fld x = (([], []), 80) := by unfold fld; rw [HFST.out]; simp only []; rw [if_pos hln]
            show _ = _
            rw [JS.out.bad HKL.out h64 (by rw [← HXE.out, hfl]; simp), ← HPE.out, ← HXE.out, hfl]
          clear hln
          go_wp2_with fail
          refine (HFI2.out _).mono ?_
          rintro e wq ⟨rfl, rfl⟩
          go_wp2_with fail
          refine (HAL.out _).mono ?_
          rintro e wq ⟨rfl, rfl⟩
          go_wp2_with fail
          refine (rfaultH_at P 80 _).mono ?_
          rintro e w4 ⟨rfl, hb4⟩
          obtain ⟨W2, hW2, f3, f5⟩ := fin10 (w := w) (.one P 80) (keepB hb4 J4.out) (J3.out.trans (hb4.mono J3.out.size))
          have F1 := hide (keepB hb4 J4.out)
          have F3 := hide f3
          have F5 := hide f5
          have HW2 := hide hW2
          clear hW2 f3 f5 hb4
          go_wp2_with (first
            | (refine wpList_store_rowW rfl 32 _ _ rfl w.heap.size (badG (.one P 80)) rfl rfl 32 (badC .ok) F1.out (badGI (.one P 80)) (by simp [badC_size, badG_size]) (badG_one _) W2 HW2.out ?_))
          refine bodyPost_ret (res_tmp_cell rfl _ _ w.heap.size 32 (badG (.one P 80)) (0, 0) _ rfl F3.out Tryz.underlying32 rfl (badGI (.one P 80))) rfl ⟨.slice none 0 0, by rw [HF.out]; rfl, by rw [HF.out]; exact OwnF.nilS _ _, F5.out⟩
        have hlf : lone x = false := by simpa using hln
        rw [hlf] at HAL
        have HLN := hide hlf
        obtain ⟨M, hM⟩ : ∃ M, M = strN (x.take kk) := ⟨_, rfl⟩
        have hexM : X.extract 0 kk = M := by rw [HSUB.out 0 kk (by omega) (by omega), hM]; simp
        have HTK : Hid (∀ W, Calls Tryz.prog 30 #[.string M] W fun e w' => e = .returned (.bool (tok (x.take kk))) ∧ Below W.heap.size W w') := fun W => by
          have := rtoken_at M W (by rw [hM, strN_size, List.length_take]; omega)
          have hMb : byt M = x.take kk := by rw [hM]; exact byt_strN _ (fun c hc => HXB.out c (List.mem_of_mem_take hc))
          rwa [hMb] at this
        have HM := hide hM
        clear hln hlf hM
        by_cases htk : tok (x.take kk) = true
        · rw [htk] at HTK
          have HTOK := hide htk
          clear htk
          go_wp2_with fail
          refine (HFI2.out _).mono ?_
          rintro e wq ⟨rfl, rfl⟩
          go_wp2_with fail
          refine (HAL.out _).mono ?_
          rintro e wq ⟨rfl, rfl⟩
          go_wp2_with fail
          try rw [hexM]
          refine (HTK.out _).mono ?_
          rintro e wk ⟨rfl, hbk⟩
          have K2 := hide (J2.out.below hbk)
          have K3 := hide (J3.out.trans (hbk.mono J3.out.size))
          have K4 := hide (keepB hbk J4.out)
          have d1' := (hbk.cell (lt_of_cell d1)).trans d1
          have d2' := (hbk.cell (lt_of_cell d2)).trans d2
          clear d1 d2 hbk HTK HAL HFI2 J2 J3 J4
          have d1 := d1'
          have d2 := d2'
          clear d1' d2'
          go_wp2_with fail
          go_region
          go_wp2_with fail
          obtain ⟨wz, hwz⟩ : ∃ W, W = wk.drew := ⟨_, rfl⟩
          rw [← hwz]
          have L2 : Hid (OwnF wz (w.heap.size + 1) u6 fs) := by rw [hwz]; exact K2.out.keep fun _ _ => rfl
          have L3 : Hid (Below w.heap.size w wz) := by rw [hwz]; exact K3.out.drew
          have L4 : Hid (wz.heap[w.heap.size]? = some (.cells (badC .ok) 32)) := by rw [hwz]; exact K4.out
          have e1 : wz.cell? ⟨x1, y1 + k, none⟩ = some (.string X) := by rw [hwz]; exact d1
          have e2 : wz.cell? ⟨x2, y2 + k, none⟩ = some (.int .i64 (P : Nat)) := by rw [hwz]; exact d2
          clear d1 d2 K2 K3 K4 hwz
          have d1 := e1
          have d2 := e2
          have K2 := L2
          have K3 := L3
          have K4 := L4
          clear e1 e2 L2 L3 L4
          go_loop [9] (fun f => ∃ F : Nat, kk + 1 ≤ F ∧ F ≤ N ∧ f = .int .i64 F ∧ Hid (∀ j, kk + 1 ≤ j → j < F → bk (x.getD j 0) = true)) (fun f => N - (intOf f).toNat)
          case atStart => exact ⟨kk + 1, by omega, by omega, by go_num, fun j h1 h2 => by omega⟩
          case round =>
            obtain ⟨F, hF1, hFN, rfl, HFA⟩ := hrel
            by_cases hFN2 : F < N
            · have q4 : decide ((F : Int) < (N : Int)) = true := decide_eq_true (by omega)
              have q4' : decide (F < N) = true := decide_eq_true hFN2
              obtain ⟨c, hc⟩ : ∃ c, c = x.getD F 0 := ⟨_, rfl⟩
              have hix := HIX.out F (by rw [← HNS.out]; omega)
              rw [← hc] at hix
              have HBL := hide (blank_at c)
              have HC := hide hc
              clear hc
              by_cases hbk : bk c = true
              · have HN2 : Hid (∀ j, kk + 1 ≤ j → j < F + 1 → bk (x.getD j 0) = true) := fun j h1 h2 => by
                  by_cases e : j = F
                  · rw [e, ← HC.out]; exact hbk
                  · exact HFA.out j h1 (by omega)
                rw [hbk] at HBL
                clear hbk
                go_wp2_with fail
                refine (HBL.out _).mono ?_
                rintro e wq ⟨rfl, rfl⟩
                go_wp2_with fail
                go_round
                case rel => exact ⟨F + 1, by omega, by omega, by go_num, HN2.out⟩
                case measure => simp [intOf]; omega
              · have hbf : bk c = false := by simpa using hbk
                have HTL : Hid (trimL (x.drop (kk + 1)) = x.drop F) := trimL_from hF1 (by rw [← HXN.out]; exact hFN) HFA.out (Or.inr (by rw [← HC.out]; exact hbf))
                rw [hbf] at HBL
                clear hbk hbf
                go_wp2_with fail
                refine (HBL.out _).mono ?_
                rintro e wq ⟨rfl, rfl⟩
                clear hix q4 q4' HC HBL HFA
                go_wp2_with fail
                go_loop [10] (fun t => ∃ T : Nat, F ≤ T ∧ T ≤ N ∧ t = .int .i64 T ∧ Hid (∀ j, T ≤ j → j < N → bk (x.getD j 0) = true)) (fun t => (intOf t).toNat)
                case atStart => exact ⟨N, by omega, by omega, rfl, fun j h1 h2 => by omega⟩
                case round =>
                  obtain ⟨T, hFT, hTN, rfl, HTA⟩ := hrel
                  by_cases hFT2 : F < T
                  · have q5 : decide ((F : Int) < (T : Int)) = true := decide_eq_true (by omega)
                    have q5' : decide (F < T) = true := decide_eq_true hFT2
                    obtain ⟨c, hc⟩ : ∃ c, c = x.getD (T - 1) 0 := ⟨_, rfl⟩
                    have hix : ∀ w, (Instr.index 9 (.string X) (.int .i64 ((T : Int) - 1))).run Tryz.prog w = .ok (.int .u8 (c : Nat)) w := fun w => by
                      have := HIX.out (T - 1) (by rw [← HNS.out]; omega) w
                      rw [← hc, show ((T - 1 : Nat) : Int) = (T : Int) - 1 by omega] at this; exact this
                    have HBL := hide (blank_at c)
                    have HC := hide hc
                    clear hc
                    by_cases hbk : bk c = true
                    · have HBT : Hid (bk (x.getD (T - 1) 0) = true) := by rw [← HC.out]; exact hbk
                      rw [hbk] at HBL
                      clear hbk
                      go_wp2_with fail
                      refine (HBL.out _).mono ?_
                      rintro e wq ⟨rfl, rfl⟩
                      go_wp2_with fail
                      go_round
                      case rel => exact ⟨T - 1, by omega, by omega, by go_num, fun j h1 h2 => by
                        by_cases e : j = T - 1
                        · rw [e]; exact HBT.out
                        · exact HTA.out j (by omega) h2⟩
                      case measure => simp [intOf]; omega
                    · have hbf : bk c = false := by simpa using hbk
                      have HTR : Hid (trimR (x.drop F) = (x.drop F).take (T - F)) := trimR_to hFT (by rw [← HXN.out]; exact hTN) (fun j h1 h2 => HTA.out j h1 (by rw [HXN.out]; exact h2)) (Or.inr (by rw [← HC.out]; exact hbf))
                      rw [hbf] at HBL
                      clear hbk hbf
                      go_wp2_with fail
                      refine (HBL.out _).mono ?_
                      rintro e wq ⟨rfl, rfl⟩
                      obtain ⟨v, hv⟩ : ∃ v, v = (x.drop F).take (T - F) := ⟨_, rfl⟩
                      have htr : trim (x.drop (kk + 1)) = v := by rw [trim_comm, HTL.out, HTR.out, hv]
                      have hvb : ∀ c ∈ v, c < 256 := fun c hc => HXB.out c (by rw [hv] at hc; exact List.mem_of_mem_drop (List.mem_of_mem_take hc))
                      obtain ⟨V, hV⟩ : ∃ V, V = strN v := ⟨_, rfl⟩
                      have hexV : X.extract F T = V := by rw [HSUB.out F T hFT (by omega), hV, hv]
                      have HVL : Hid (∀ W, Calls Tryz.prog 32 #[.string V] W fun e w' => e = .returned (.bool (value v)) ∧ Below W.heap.size W w') := fun W => by
                        have := rvalue_at V W (by rw [hV, strN_size, hv, List.length_take, List.length_drop, ← HXN.out]; omega)
                        have hVb : byt V = v := by rw [hV]; exact byt_strN v hvb
                        rwa [hVb] at this
                      have HFLD : Hid (fld x = if value v = false then (([], []), 83) else ((x.take kk, v), 0)) := by
                        show _ = _
                        unfold fld
                        rw [HFST.out]
                        simp only []
                        rw [if_neg (by rw [HLN.out]; simp), if_neg (by rw [HTOK.out]; simp), htr]
                      have HV := hide hV
                      have HVB := hide hvb
                      clear hv htr hV hvb
                      by_cases hvl : value v = true
                      · rw [hvl] at HVL HFLD
                        obtain ⟨W5, hW5⟩ : ∃ W5 : World → World, W5 = fun W => W.alloc (.cells #[.string M, .string V] 76) := ⟨_, rfl⟩
                        have HFF : Hid (fld x = ((x.take kk, v), 0)) := by show _ = _; rw [HFLD.out]; rfl
                        clear hvl
                        go_wp2_with fail
                        try rw [hexV]
                        refine (HVL.out _).mono ?_
                        rintro e w6 ⟨rfl, hb6⟩
                        obtain ⟨wd, hwd⟩ : ∃ W, W = w6.drew := ⟨_, rfl⟩
                        have k2 : OwnF wd (w.heap.size + 1) u6 fs := by rw [hwd]; exact (K2.out.below hb6).keep fun _ _ => rfl
                        have k3 : Below w.heap.size w wd := by rw [hwd]; exact (K3.out.trans (hb6.mono K3.out.size)).drew
                        have k4 : wd.heap[w.heap.size]? = some (.cells (badC .ok) 32) := by have := keepB hb6 K4.out; rw [hwd]; exact this
                        have e1 : w6.cell? ⟨x1, y1 + k, none⟩ = some (.string X) := (hb6.cell (lt_of_cell d1)).trans d1
                        have e1l : x1 < wd.heap.size := by rw [hwd]; exact lt_of_cell (a := ⟨x1, y1 + k, none⟩) e1
                        obtain ⟨W7, hW7⟩ : ∃ W7, W7 = wd.alloc (.cells #[.string M, .string V] 76) := ⟨_, rfl⟩
                        have b7 : Below wd.heap.size wd W7 := by rw [hW7]; exact (Below.refl _ _).alloc (Nat.le_refl _) _
                        have q7 : W7.heap[wd.heap.size]? = some (.cells #[.string M, .string V] 76) := by rw [hW7]; exact alloc_new _ _
                        have hwz : w.heap.size + 1 ≤ W7.heap.size := by have := lt_of_some k4; have := b7.size; omega
                        obtain ⟨v8, w8, hap, o8, b8, k8⟩ := own_appF (k2.below b7) ⟨wd.heap.size, 0, none⟩ 1 1 [(x.take kk, v)] rfl (fun j u hu => by
                          rw [add_none, Nat.zero_add]
                          simp only [fcs] at hu
                          rw [← HM.out, ← HV.out] at hu
                          simp only [World.cell?, q7]
                          simpa using hu) (by rw [JS.out.len]; omega) hwz
                        have HAP : Hid ((Builtin.append_ #[42, 42] 42 #[u6, .slice (some ⟨w6.heap.size, 0, none⟩) 1 1]).run Tryz.prog (w6.drew.alloc (.cells #[.string M, .string V] 76)) = .ok v8 w8) := by rw [hW7, hwd] at hap; exact hap
                        have HALL : Hid (∃ fs : List Fd, FlSt A ls (k + 1) fs ∧ OwnF w8 (w.heap.size + 1) v8 fs ∧ Below w.heap.size w w8 ∧ w8.heap[w.heap.size]? = some (.cells (badC .ok) 32)) := by
                          refine ⟨fs ++ [(x.take kk, v)], ?_, o8, ?_, ?_⟩
                          · have := JS.out.go HKL.out h64 (by rw [← HXE.out, HFF.out])
                            rwa [← HXE.out, HFF.out] at this
                          · exact (k3.trans (b7.mono k3.size)).trans (b8.mono (by omega))
                          · have g4 := keepB b7 k4
                            exact (b8.block _ (by omega)).trans g4
                        have e8 : w8.cell? ⟨x1, y1 + k, none⟩ = some (.string X) := by
                          have hx1 := HX1.out
                          have e7 : W7.cell? ⟨x1, y1 + k, none⟩ = some (.string X) := by
                            have e6 : wd.cell? ⟨x1, y1 + k, none⟩ = some (.string X) := by rw [hwd]; exact e1
                            exact (b7.cell (p := ⟨x1, y1 + k, none⟩) e1l).trans e6
                          exact (b8.cell (p := ⟨x1, y1 + k, none⟩) (by show x1 < _; omega)).trans e7
                        clear hap o8 b8 k8 q7 b7 hW7 k2 k3 k4 hb6 d1 hwz hwd e1l
                        go_wp2_with fail
                        go_region_held3 (fun w' => w'.cell? ⟨x1, y1 + k, none⟩ = some (.string X)) (go_keep) (first
                          | (refine step_app_run2 _ (by rfl) _ _ 42 42 (by rfl) _ _ (by rfl) (by rfl) HAP.out ?_))
                        all_goals go_wp2_with fail
                        go_roundw
                        case rel => exact ⟨k + 1, by omega, by omega, by go_num, HALL.out⟩
                        case measure => simp [intOf]; omega
                      · have hvf : value v = false := by simpa using hvl
                        rw [hvf] at HVL HFLD
                        have HF : Hid (flds A ls [] = ([], .one P 83)) := by
                          show _ = _
                          rw [JS.out.bad HKL.out h64 (by rw [← HXE.out, HFLD.out]; simp), ← HPE.out, ← HXE.out, HFLD.out]; rfl
                        clear hvl hvf
                        go_wp2_with fail
                        try rw [hexV]
                        refine (HVL.out _).mono ?_
                        rintro e w6 ⟨rfl, hb6⟩
                        have L3 := hide (K3.out.trans (hb6.mono K3.out.size))
                        have L4 := hide (keepB hb6 K4.out)
                        have e2 := (hb6.cell (lt_of_cell d2)).trans d2
                        clear hb6 d1 d2
                        go_wp2_with fail
                        refine (rfaultH_at P 83 _).mono ?_
                        rintro e w4 ⟨rfl, hb4⟩
                        obtain ⟨W2, hW2, f3, f5⟩ := fin10 (w := w) (.one P 83) (keepB hb4 L4.out) (L3.out.trans (hb4.mono L3.out.size))
                        have F1 := hide (keepB hb4 L4.out)
                        have F3 := hide f3
                        have F5 := hide f5
                        have HW2 := hide hW2
                        clear hW2 f3 f5 hb4
                        go_wp2_with (first
                          | (refine wpList_store_rowW rfl 32 _ _ rfl w.heap.size (badG (.one P 83)) rfl rfl 32 (badC .ok) F1.out (badGI (.one P 83)) (by simp [badC_size, badG_size]) (badG_one _) W2 HW2.out ?_))
                        refine bodyPost_ret (res_tmp_cell rfl _ _ w.heap.size 32 (badG (.one P 83)) (0, 0) _ rfl F3.out Tryz.underlying32 rfl (badGI (.one P 83))) rfl ⟨.slice none 0 0, by rw [HF.out]; rfl, by rw [HF.out]; exact OwnF.nilS _ _, F5.out⟩
                  · have q5 : decide ((F : Int) < (T : Int)) = false := decide_eq_false (by omega)
                    have q5' : decide (F < T) = false := decide_eq_false hFT2
                    have HTR : Hid (trimR (x.drop F) = (x.drop F).take (T - F)) := trimR_to hFT (by rw [← HXN.out]; exact hTN) (fun j h1 h2 => HTA.out j h1 (by rw [HXN.out]; exact h2)) (Or.inl (by omega))
                    obtain ⟨v, hv⟩ : ∃ v, v = (x.drop F).take (T - F) := ⟨_, rfl⟩
                    have htr : trim (x.drop (kk + 1)) = v := by rw [trim_comm, HTL.out, HTR.out, hv]
                    have hvb : ∀ c ∈ v, c < 256 := fun c hc => HXB.out c (by rw [hv] at hc; exact List.mem_of_mem_drop (List.mem_of_mem_take hc))
                    obtain ⟨V, hV⟩ : ∃ V, V = strN v := ⟨_, rfl⟩
                    have hexV : X.extract F T = V := by rw [HSUB.out F T hFT (by omega), hV, hv]
                    have HVL : Hid (∀ W, Calls Tryz.prog 32 #[.string V] W fun e w' => e = .returned (.bool (value v)) ∧ Below W.heap.size W w') := fun W => by
                      have := rvalue_at V W (by rw [hV, strN_size, hv, List.length_take, List.length_drop, ← HXN.out]; omega)
                      have hVb : byt V = v := by rw [hV]; exact byt_strN v hvb
                      rwa [hVb] at this
                    have HFLD : Hid (fld x = if value v = false then (([], []), 83) else ((x.take kk, v), 0)) := by
                      show _ = _
                      unfold fld
                      rw [HFST.out]
                      simp only []
                      rw [if_neg (by rw [HLN.out]; simp), if_neg (by rw [HTOK.out]; simp), htr]
                    have HV := hide hV
                    have HVB := hide hvb
                    clear hv htr hV hvb
                    by_cases hvl : value v = true
                    · rw [hvl] at HVL HFLD
                      obtain ⟨W5, hW5⟩ : ∃ W5 : World → World, W5 = fun W => W.alloc (.cells #[.string M, .string V] 76) := ⟨_, rfl⟩
                      have HFF : Hid (fld x = ((x.take kk, v), 0)) := by show _ = _; rw [HFLD.out]; rfl
                      clear hvl
                      go_wp2_with fail
                      try rw [hexV]
                      refine (HVL.out _).mono ?_
                      rintro e w6 ⟨rfl, hb6⟩
                      obtain ⟨wd, hwd⟩ : ∃ W, W = w6.drew := ⟨_, rfl⟩
                      have k2 : OwnF wd (w.heap.size + 1) u6 fs := by rw [hwd]; exact (K2.out.below hb6).keep fun _ _ => rfl
                      have k3 : Below w.heap.size w wd := by rw [hwd]; exact (K3.out.trans (hb6.mono K3.out.size)).drew
                      have k4 : wd.heap[w.heap.size]? = some (.cells (badC .ok) 32) := by have := keepB hb6 K4.out; rw [hwd]; exact this
                      have e1 : w6.cell? ⟨x1, y1 + k, none⟩ = some (.string X) := (hb6.cell (lt_of_cell d1)).trans d1
                      have e1l : x1 < wd.heap.size := by rw [hwd]; exact lt_of_cell (a := ⟨x1, y1 + k, none⟩) e1
                      obtain ⟨W7, hW7⟩ : ∃ W7, W7 = wd.alloc (.cells #[.string M, .string V] 76) := ⟨_, rfl⟩
                      have b7 : Below wd.heap.size wd W7 := by rw [hW7]; exact (Below.refl _ _).alloc (Nat.le_refl _) _
                      have q7 : W7.heap[wd.heap.size]? = some (.cells #[.string M, .string V] 76) := by rw [hW7]; exact alloc_new _ _
                      have hwz : w.heap.size + 1 ≤ W7.heap.size := by have := lt_of_some k4; have := b7.size; omega
                      obtain ⟨v8, w8, hap, o8, b8, k8⟩ := own_appF (k2.below b7) ⟨wd.heap.size, 0, none⟩ 1 1 [(x.take kk, v)] rfl (fun j u hu => by
                        rw [add_none, Nat.zero_add]
                        simp only [fcs] at hu
                        rw [← HM.out, ← HV.out] at hu
                        simp only [World.cell?, q7]
                        simpa using hu) (by rw [JS.out.len]; omega) hwz
                      have HAP : Hid ((Builtin.append_ #[42, 42] 42 #[u6, .slice (some ⟨w6.heap.size, 0, none⟩) 1 1]).run Tryz.prog (w6.drew.alloc (.cells #[.string M, .string V] 76)) = .ok v8 w8) := by rw [hW7, hwd] at hap; exact hap
                      have HALL : Hid (∃ fs : List Fd, FlSt A ls (k + 1) fs ∧ OwnF w8 (w.heap.size + 1) v8 fs ∧ Below w.heap.size w w8 ∧ w8.heap[w.heap.size]? = some (.cells (badC .ok) 32)) := by
                        refine ⟨fs ++ [(x.take kk, v)], ?_, o8, ?_, ?_⟩
                        · have := JS.out.go HKL.out h64 (by rw [← HXE.out, HFF.out])
                          rwa [← HXE.out, HFF.out] at this
                        · exact (k3.trans (b7.mono k3.size)).trans (b8.mono (by omega))
                        · have g4 := keepB b7 k4
                          exact (b8.block _ (by omega)).trans g4
                      have e8 : w8.cell? ⟨x1, y1 + k, none⟩ = some (.string X) := by
                        have hx1 := HX1.out
                        have e7 : W7.cell? ⟨x1, y1 + k, none⟩ = some (.string X) := by
                          have e6 : wd.cell? ⟨x1, y1 + k, none⟩ = some (.string X) := by rw [hwd]; exact e1
                          exact (b7.cell (p := ⟨x1, y1 + k, none⟩) e1l).trans e6
                        exact (b8.cell (p := ⟨x1, y1 + k, none⟩) (by show x1 < _; omega)).trans e7
                      clear hap o8 b8 k8 q7 b7 hW7 k2 k3 k4 hb6 d1 hwz hwd e1l
                      go_wp2_with fail
                      go_region_held3 (fun w' => w'.cell? ⟨x1, y1 + k, none⟩ = some (.string X)) (go_keep) (first
                        | (refine step_app_run2 _ (by rfl) _ _ 42 42 (by rfl) _ _ (by rfl) (by rfl) HAP.out ?_))
                      all_goals go_wp2_with fail
                      go_roundw
                      case rel => exact ⟨k + 1, by omega, by omega, by go_num, HALL.out⟩
                      case measure => simp [intOf]; omega
                    · have hvf : value v = false := by simpa using hvl
                      rw [hvf] at HVL HFLD
                      have HF : Hid (flds A ls [] = ([], .one P 83)) := by
                        show _ = _
                        rw [JS.out.bad HKL.out h64 (by rw [← HXE.out, HFLD.out]; simp), ← HPE.out, ← HXE.out, HFLD.out]; rfl
                      clear hvl hvf
                      go_wp2_with fail
                      try rw [hexV]
                      refine (HVL.out _).mono ?_
                      rintro e w6 ⟨rfl, hb6⟩
                      have L3 := hide (K3.out.trans (hb6.mono K3.out.size))
                      have L4 := hide (keepB hb6 K4.out)
                      have e2 := (hb6.cell (lt_of_cell d2)).trans d2
                      clear hb6 d1 d2
                      go_wp2_with fail
                      refine (rfaultH_at P 83 _).mono ?_
                      rintro e w4 ⟨rfl, hb4⟩
                      obtain ⟨W2, hW2, f3, f5⟩ := fin10 (w := w) (.one P 83) (keepB hb4 L4.out) (L3.out.trans (hb4.mono L3.out.size))
                      have F1 := hide (keepB hb4 L4.out)
                      have F3 := hide f3
                      have F5 := hide f5
                      have HW2 := hide hW2
                      clear hW2 f3 f5 hb4
                      go_wp2_with (first
                        | (refine wpList_store_rowW rfl 32 _ _ rfl w.heap.size (badG (.one P 83)) rfl rfl 32 (badC .ok) F1.out (badGI (.one P 83)) (by simp [badC_size, badG_size]) (badG_one _) W2 HW2.out ?_))
                      refine bodyPost_ret (res_tmp_cell rfl _ _ w.heap.size 32 (badG (.one P 83)) (0, 0) _ rfl F3.out Tryz.underlying32 rfl (badGI (.one P 83))) rfl ⟨.slice none 0 0, by rw [HF.out]; rfl, by rw [HF.out]; exact OwnF.nilS _ _, F5.out⟩
            · have q4 : decide ((F : Int) < (N : Int)) = false := decide_eq_false (by omega)
              have q4' : decide (F < N) = false := decide_eq_false hFN2
              have HTL : Hid (trimL (x.drop (kk + 1)) = x.drop F) := trimL_from hF1 (by rw [← HXN.out]; exact hFN) HFA.out (Or.inl (by rw [← HXN.out]; omega))
              clear HFA
              go_wp2_with fail
              go_loop [10] (fun t => ∃ T : Nat, F ≤ T ∧ T ≤ N ∧ t = .int .i64 T ∧ Hid (∀ j, T ≤ j → j < N → bk (x.getD j 0) = true)) (fun t => (intOf t).toNat)
              case atStart => exact ⟨N, by omega, by omega, rfl, fun j h1 h2 => by omega⟩
              case round =>
                obtain ⟨T, hFT, hTN, rfl, HTA⟩ := hrel
                by_cases hFT2 : F < T
                · have q5 : decide ((F : Int) < (T : Int)) = true := decide_eq_true (by omega)
                  have q5' : decide (F < T) = true := decide_eq_true hFT2
                  obtain ⟨c, hc⟩ : ∃ c, c = x.getD (T - 1) 0 := ⟨_, rfl⟩
                  have hix : ∀ w, (Instr.index 9 (.string X) (.int .i64 ((T : Int) - 1))).run Tryz.prog w = .ok (.int .u8 (c : Nat)) w := fun w => by
                    have := HIX.out (T - 1) (by rw [← HNS.out]; omega) w
                    rw [← hc, show ((T - 1 : Nat) : Int) = (T : Int) - 1 by omega] at this; exact this
                  have HBL := hide (blank_at c)
                  have HC := hide hc
                  clear hc
                  by_cases hbk : bk c = true
                  · have HBT : Hid (bk (x.getD (T - 1) 0) = true) := by rw [← HC.out]; exact hbk
                    rw [hbk] at HBL
                    clear hbk
                    go_wp2_with fail
                    refine (HBL.out _).mono ?_
                    rintro e wq ⟨rfl, rfl⟩
                    go_wp2_with fail
                    go_round
                    case rel => exact ⟨T - 1, by omega, by omega, by go_num, fun j h1 h2 => by
                      by_cases e : j = T - 1
                      · rw [e]; exact HBT.out
                      · exact HTA.out j (by omega) h2⟩
                    case measure => simp [intOf]; omega
                  · have hbf : bk c = false := by simpa using hbk
                    have HTR : Hid (trimR (x.drop F) = (x.drop F).take (T - F)) := trimR_to hFT (by rw [← HXN.out]; exact hTN) (fun j h1 h2 => HTA.out j h1 (by rw [HXN.out]; exact h2)) (Or.inr (by rw [← HC.out]; exact hbf))
                    rw [hbf] at HBL
                    clear hbk hbf
                    go_wp2_with fail
                    refine (HBL.out _).mono ?_
                    rintro e wq ⟨rfl, rfl⟩
                    obtain ⟨v, hv⟩ : ∃ v, v = (x.drop F).take (T - F) := ⟨_, rfl⟩
                    have htr : trim (x.drop (kk + 1)) = v := by rw [trim_comm, HTL.out, HTR.out, hv]
                    have hvb : ∀ c ∈ v, c < 256 := fun c hc => HXB.out c (by rw [hv] at hc; exact List.mem_of_mem_drop (List.mem_of_mem_take hc))
                    obtain ⟨V, hV⟩ : ∃ V, V = strN v := ⟨_, rfl⟩
                    have hexV : X.extract F T = V := by rw [HSUB.out F T hFT (by omega), hV, hv]
                    have HVL : Hid (∀ W, Calls Tryz.prog 32 #[.string V] W fun e w' => e = .returned (.bool (value v)) ∧ Below W.heap.size W w') := fun W => by
                      have := rvalue_at V W (by rw [hV, strN_size, hv, List.length_take, List.length_drop, ← HXN.out]; omega)
                      have hVb : byt V = v := by rw [hV]; exact byt_strN v hvb
                      rwa [hVb] at this
                    have HFLD : Hid (fld x = if value v = false then (([], []), 83) else ((x.take kk, v), 0)) := by
                      show _ = _
                      unfold fld
                      rw [HFST.out]
                      simp only []
                      rw [if_neg (by rw [HLN.out]; simp), if_neg (by rw [HTOK.out]; simp), htr]
                    have HV := hide hV
                    have HVB := hide hvb
                    clear hv htr hV hvb
                    by_cases hvl : value v = true
                    · rw [hvl] at HVL HFLD
                      obtain ⟨W5, hW5⟩ : ∃ W5 : World → World, W5 = fun W => W.alloc (.cells #[.string M, .string V] 76) := ⟨_, rfl⟩
                      have HFF : Hid (fld x = ((x.take kk, v), 0)) := by show _ = _; rw [HFLD.out]; rfl
                      clear hvl
                      go_wp2_with fail
                      try rw [hexV]
                      refine (HVL.out _).mono ?_
                      rintro e w6 ⟨rfl, hb6⟩
                      obtain ⟨wd, hwd⟩ : ∃ W, W = w6.drew := ⟨_, rfl⟩
                      have k2 : OwnF wd (w.heap.size + 1) u6 fs := by rw [hwd]; exact (K2.out.below hb6).keep fun _ _ => rfl
                      have k3 : Below w.heap.size w wd := by rw [hwd]; exact (K3.out.trans (hb6.mono K3.out.size)).drew
                      have k4 : wd.heap[w.heap.size]? = some (.cells (badC .ok) 32) := by have := keepB hb6 K4.out; rw [hwd]; exact this
                      have e1 : w6.cell? ⟨x1, y1 + k, none⟩ = some (.string X) := (hb6.cell (lt_of_cell d1)).trans d1
                      have e1l : x1 < wd.heap.size := by rw [hwd]; exact lt_of_cell (a := ⟨x1, y1 + k, none⟩) e1
                      obtain ⟨W7, hW7⟩ : ∃ W7, W7 = wd.alloc (.cells #[.string M, .string V] 76) := ⟨_, rfl⟩
                      have b7 : Below wd.heap.size wd W7 := by rw [hW7]; exact (Below.refl _ _).alloc (Nat.le_refl _) _
                      have q7 : W7.heap[wd.heap.size]? = some (.cells #[.string M, .string V] 76) := by rw [hW7]; exact alloc_new _ _
                      have hwz : w.heap.size + 1 ≤ W7.heap.size := by have := lt_of_some k4; have := b7.size; omega
                      obtain ⟨v8, w8, hap, o8, b8, k8⟩ := own_appF (k2.below b7) ⟨wd.heap.size, 0, none⟩ 1 1 [(x.take kk, v)] rfl (fun j u hu => by
                        rw [add_none, Nat.zero_add]
                        simp only [fcs] at hu
                        rw [← HM.out, ← HV.out] at hu
                        simp only [World.cell?, q7]
                        simpa using hu) (by rw [JS.out.len]; omega) hwz
                      have HAP : Hid ((Builtin.append_ #[42, 42] 42 #[u6, .slice (some ⟨w6.heap.size, 0, none⟩) 1 1]).run Tryz.prog (w6.drew.alloc (.cells #[.string M, .string V] 76)) = .ok v8 w8) := by rw [hW7, hwd] at hap; exact hap
                      have HALL : Hid (∃ fs : List Fd, FlSt A ls (k + 1) fs ∧ OwnF w8 (w.heap.size + 1) v8 fs ∧ Below w.heap.size w w8 ∧ w8.heap[w.heap.size]? = some (.cells (badC .ok) 32)) := by
                        refine ⟨fs ++ [(x.take kk, v)], ?_, o8, ?_, ?_⟩
                        · have := JS.out.go HKL.out h64 (by rw [← HXE.out, HFF.out])
                          rwa [← HXE.out, HFF.out] at this
                        · exact (k3.trans (b7.mono k3.size)).trans (b8.mono (by omega))
                        · have g4 := keepB b7 k4
                          exact (b8.block _ (by omega)).trans g4
                      have e8 : w8.cell? ⟨x1, y1 + k, none⟩ = some (.string X) := by
                        have hx1 := HX1.out
                        have e7 : W7.cell? ⟨x1, y1 + k, none⟩ = some (.string X) := by
                          have e6 : wd.cell? ⟨x1, y1 + k, none⟩ = some (.string X) := by rw [hwd]; exact e1
                          exact (b7.cell (p := ⟨x1, y1 + k, none⟩) e1l).trans e6
                        exact (b8.cell (p := ⟨x1, y1 + k, none⟩) (by show x1 < _; omega)).trans e7
                      clear hap o8 b8 k8 q7 b7 hW7 k2 k3 k4 hb6 d1 hwz hwd e1l
                      go_wp2_with fail
                      go_region_held3 (fun w' => w'.cell? ⟨x1, y1 + k, none⟩ = some (.string X)) (go_keep) (first
                        | (refine step_app_run2 _ (by rfl) _ _ 42 42 (by rfl) _ _ (by rfl) (by rfl) HAP.out ?_))
                      all_goals go_wp2_with fail
                      go_roundw
                      case rel => exact ⟨k + 1, by omega, by omega, by go_num, HALL.out⟩
                      case measure => simp [intOf]; omega
                    · have hvf : value v = false := by simpa using hvl
                      rw [hvf] at HVL HFLD
                      have HF : Hid (flds A ls [] = ([], .one P 83)) := by
                        show _ = _
                        rw [JS.out.bad HKL.out h64 (by rw [← HXE.out, HFLD.out]; simp), ← HPE.out, ← HXE.out, HFLD.out]; rfl
                      clear hvl hvf
                      go_wp2_with fail
                      try rw [hexV]
                      refine (HVL.out _).mono ?_
                      rintro e w6 ⟨rfl, hb6⟩
                      have L3 := hide (K3.out.trans (hb6.mono K3.out.size))
                      have L4 := hide (keepB hb6 K4.out)
                      have e2 := (hb6.cell (lt_of_cell d2)).trans d2
                      clear hb6 d1 d2
                      go_wp2_with fail
                      refine (rfaultH_at P 83 _).mono ?_
                      rintro e w4 ⟨rfl, hb4⟩
                      obtain ⟨W2, hW2, f3, f5⟩ := fin10 (w := w) (.one P 83) (keepB hb4 L4.out) (L3.out.trans (hb4.mono L3.out.size))
                      have F1 := hide (keepB hb4 L4.out)
                      have F3 := hide f3
                      have F5 := hide f5
                      have HW2 := hide hW2
                      clear hW2 f3 f5 hb4
                      go_wp2_with (first
                        | (refine wpList_store_rowW rfl 32 _ _ rfl w.heap.size (badG (.one P 83)) rfl rfl 32 (badC .ok) F1.out (badGI (.one P 83)) (by simp [badC_size, badG_size]) (badG_one _) W2 HW2.out ?_))
                      refine bodyPost_ret (res_tmp_cell rfl _ _ w.heap.size 32 (badG (.one P 83)) (0, 0) _ rfl F3.out Tryz.underlying32 rfl (badGI (.one P 83))) rfl ⟨.slice none 0 0, by rw [HF.out]; rfl, by rw [HF.out]; exact OwnF.nilS _ _, F5.out⟩
                · have q5 : decide ((F : Int) < (T : Int)) = false := decide_eq_false (by omega)
                  have q5' : decide (F < T) = false := decide_eq_false hFT2
                  have HTR : Hid (trimR (x.drop F) = (x.drop F).take (T - F)) := trimR_to hFT (by rw [← HXN.out]; exact hTN) (fun j h1 h2 => HTA.out j h1 (by rw [HXN.out]; exact h2)) (Or.inl (by omega))
                  obtain ⟨v, hv⟩ : ∃ v, v = (x.drop F).take (T - F) := ⟨_, rfl⟩
                  have htr : trim (x.drop (kk + 1)) = v := by rw [trim_comm, HTL.out, HTR.out, hv]
                  have hvb : ∀ c ∈ v, c < 256 := fun c hc => HXB.out c (by rw [hv] at hc; exact List.mem_of_mem_drop (List.mem_of_mem_take hc))
                  obtain ⟨V, hV⟩ : ∃ V, V = strN v := ⟨_, rfl⟩
                  have hexV : X.extract F T = V := by rw [HSUB.out F T hFT (by omega), hV, hv]
                  have HVL : Hid (∀ W, Calls Tryz.prog 32 #[.string V] W fun e w' => e = .returned (.bool (value v)) ∧ Below W.heap.size W w') := fun W => by
                    have := rvalue_at V W (by rw [hV, strN_size, hv, List.length_take, List.length_drop, ← HXN.out]; omega)
                    have hVb : byt V = v := by rw [hV]; exact byt_strN v hvb
                    rwa [hVb] at this
                  have HFLD : Hid (fld x = if value v = false then (([], []), 83) else ((x.take kk, v), 0)) := by
                    show _ = _
                    unfold fld
                    rw [HFST.out]
                    simp only []
                    rw [if_neg (by rw [HLN.out]; simp), if_neg (by rw [HTOK.out]; simp), htr]
                  have HV := hide hV
                  have HVB := hide hvb
                  clear hv htr hV hvb
                  by_cases hvl : value v = true
                  · rw [hvl] at HVL HFLD
                    obtain ⟨W5, hW5⟩ : ∃ W5 : World → World, W5 = fun W => W.alloc (.cells #[.string M, .string V] 76) := ⟨_, rfl⟩
                    have HFF : Hid (fld x = ((x.take kk, v), 0)) := by show _ = _; rw [HFLD.out]; rfl
                    clear hvl
                    go_wp2_with fail
                    try rw [hexV]
                    refine (HVL.out _).mono ?_
                    rintro e w6 ⟨rfl, hb6⟩
                    obtain ⟨wd, hwd⟩ : ∃ W, W = w6.drew := ⟨_, rfl⟩
                    have k2 : OwnF wd (w.heap.size + 1) u6 fs := by rw [hwd]; exact (K2.out.below hb6).keep fun _ _ => rfl
                    have k3 : Below w.heap.size w wd := by rw [hwd]; exact (K3.out.trans (hb6.mono K3.out.size)).drew
                    have k4 : wd.heap[w.heap.size]? = some (.cells (badC .ok) 32) := by have := keepB hb6 K4.out; rw [hwd]; exact this
                    have e1 : w6.cell? ⟨x1, y1 + k, none⟩ = some (.string X) := (hb6.cell (lt_of_cell d1)).trans d1
                    have e1l : x1 < wd.heap.size := by rw [hwd]; exact lt_of_cell (a := ⟨x1, y1 + k, none⟩) e1
                    obtain ⟨W7, hW7⟩ : ∃ W7, W7 = wd.alloc (.cells #[.string M, .string V] 76) := ⟨_, rfl⟩
                    have b7 : Below wd.heap.size wd W7 := by rw [hW7]; exact (Below.refl _ _).alloc (Nat.le_refl _) _
                    have q7 : W7.heap[wd.heap.size]? = some (.cells #[.string M, .string V] 76) := by rw [hW7]; exact alloc_new _ _
                    have hwz : w.heap.size + 1 ≤ W7.heap.size := by have := lt_of_some k4; have := b7.size; omega
                    obtain ⟨v8, w8, hap, o8, b8, k8⟩ := own_appF (k2.below b7) ⟨wd.heap.size, 0, none⟩ 1 1 [(x.take kk, v)] rfl (fun j u hu => by
                      rw [add_none, Nat.zero_add]
                      simp only [fcs] at hu
                      rw [← HM.out, ← HV.out] at hu
                      simp only [World.cell?, q7]
                      simpa using hu) (by rw [JS.out.len]; omega) hwz
                    have HAP : Hid ((Builtin.append_ #[42, 42] 42 #[u6, .slice (some ⟨w6.heap.size, 0, none⟩) 1 1]).run Tryz.prog (w6.drew.alloc (.cells #[.string M, .string V] 76)) = .ok v8 w8) := by rw [hW7, hwd] at hap; exact hap
                    have HALL : Hid (∃ fs : List Fd, FlSt A ls (k + 1) fs ∧ OwnF w8 (w.heap.size + 1) v8 fs ∧ Below w.heap.size w w8 ∧ w8.heap[w.heap.size]? = some (.cells (badC .ok) 32)) := by
                      refine ⟨fs ++ [(x.take kk, v)], ?_, o8, ?_, ?_⟩
                      · have := JS.out.go HKL.out h64 (by rw [← HXE.out, HFF.out])
                        rwa [← HXE.out, HFF.out] at this
                      · exact (k3.trans (b7.mono k3.size)).trans (b8.mono (by omega))
                      · have g4 := keepB b7 k4
                        exact (b8.block _ (by omega)).trans g4
                    have e8 : w8.cell? ⟨x1, y1 + k, none⟩ = some (.string X) := by
                      have hx1 := HX1.out
                      have e7 : W7.cell? ⟨x1, y1 + k, none⟩ = some (.string X) := by
                        have e6 : wd.cell? ⟨x1, y1 + k, none⟩ = some (.string X) := by rw [hwd]; exact e1
                        exact (b7.cell (p := ⟨x1, y1 + k, none⟩) e1l).trans e6
                      exact (b8.cell (p := ⟨x1, y1 + k, none⟩) (by show x1 < _; omega)).trans e7
                    clear hap o8 b8 k8 q7 b7 hW7 k2 k3 k4 hb6 d1 hwz hwd e1l
                    go_wp2_with fail
                    go_region_held3 (fun w' => w'.cell? ⟨x1, y1 + k, none⟩ = some (.string X)) (go_keep) (first
                      | (refine step_app_run2 _ (by rfl) _ _ 42 42 (by rfl) _ _ (by rfl) (by rfl) HAP.out ?_))
                    all_goals go_wp2_with fail
                    go_roundw
                    case rel => exact ⟨k + 1, by omega, by omega, by go_num, HALL.out⟩
                    case measure => simp [intOf]; omega
                  · have hvf : value v = false := by simpa using hvl
                    rw [hvf] at HVL HFLD
                    have HF : Hid (flds A ls [] = ([], .one P 83)) := by
                      show _ = _
                      rw [JS.out.bad HKL.out h64 (by rw [← HXE.out, HFLD.out]; simp), ← HPE.out, ← HXE.out, HFLD.out]; rfl
                    clear hvl hvf
                    go_wp2_with fail
                    try rw [hexV]
                    refine (HVL.out _).mono ?_
                    rintro e w6 ⟨rfl, hb6⟩
                    have L3 := hide (K3.out.trans (hb6.mono K3.out.size))
                    have L4 := hide (keepB hb6 K4.out)
                    have e2 := (hb6.cell (lt_of_cell d2)).trans d2
                    clear hb6 d1 d2
                    go_wp2_with fail
                    refine (rfaultH_at P 83 _).mono ?_
                    rintro e w4 ⟨rfl, hb4⟩
                    obtain ⟨W2, hW2, f3, f5⟩ := fin10 (w := w) (.one P 83) (keepB hb4 L4.out) (L3.out.trans (hb4.mono L3.out.size))
                    have F1 := hide (keepB hb4 L4.out)
                    have F3 := hide f3
                    have F5 := hide f5
                    have HW2 := hide hW2
                    clear hW2 f3 f5 hb4
                    go_wp2_with (first
                      | (refine wpList_store_rowW rfl 32 _ _ rfl w.heap.size (badG (.one P 83)) rfl rfl 32 (badC .ok) F1.out (badGI (.one P 83)) (by simp [badC_size, badG_size]) (badG_one _) W2 HW2.out ?_))
                    refine bodyPost_ret (res_tmp_cell rfl _ _ w.heap.size 32 (badG (.one P 83)) (0, 0) _ rfl F3.out Tryz.underlying32 rfl (badGI (.one P 83))) rfl ⟨.slice none 0 0, by rw [HF.out]; rfl, by rw [HF.out]; exact OwnF.nilS _ _, F5.out⟩
        · have htf : tok (x.take kk) = false := by simpa using htk
          rw [htf] at HTK
          have HF : Hid (flds A ls [] = ([], .one P 81)) := by
            have hfl : fld x = (([], []), 81) := by unfold fld; rw [HFST.out]; simp only []; rw [if_neg (by rw [HLN.out]; simp), if_pos htf]
            show _ = _
            rw [JS.out.bad HKL.out h64 (by rw [← HXE.out, hfl]; simp), ← HPE.out, ← HXE.out, hfl]
          clear htk htf
          go_wp2_with fail
          refine (HFI2.out _).mono ?_
          rintro e wq ⟨rfl, rfl⟩
          go_wp2_with fail
          refine (HAL.out _).mono ?_
          rintro e wq ⟨rfl, rfl⟩
          go_wp2_with fail
          try rw [hexM]
          refine (HTK.out _).mono ?_
          rintro e wk ⟨rfl, hbk⟩
          have K3 := hide (J3.out.trans (hbk.mono J3.out.size))
          have K4 := hide (keepB hbk J4.out)
          have d2' := (hbk.cell (lt_of_cell d2)).trans d2
          clear d1 d2 hbk
          go_wp2_with fail
          refine (rfaultH_at P 81 _).mono ?_
          rintro e w4 ⟨rfl, hb4⟩
          obtain ⟨W2, hW2, f3, f5⟩ := fin10 (w := w) (.one P 81) (keepB hb4 K4.out) (K3.out.trans (hb4.mono K3.out.size))
          have F1 := hide (keepB hb4 K4.out)
          have F3 := hide f3
          have F5 := hide f5
          have HW2 := hide hW2
          clear hW2 f3 f5 hb4
          go_wp2_with (first
            | (refine wpList_store_rowW rfl 32 _ _ rfl w.heap.size (badG (.one P 81)) rfl rfl 32 (badC .ok) F1.out (badGI (.one P 81)) (by simp [badC_size, badG_size]) (badG_one _) W2 HW2.out ?_))
          refine bodyPost_ret (res_tmp_cell rfl _ _ w.heap.size 32 (badG (.one P 81)) (0, 0) _ rfl F3.out Tryz.underlying32 rfl (badGI (.one P 81))) rfl ⟨.slice none 0 0, by rw [HF.out]; rfl, by rw [HF.out]; exact OwnF.nilS _ _, F5.out⟩
    · have hdk : decide ((k : Int) < (n : Int)) = false := decide_eq_false (by omega)
      have hdk' : decide (k < n) = false := decide_eq_false hkn
      have HF := hide (i1.fin (by rw [← HN.out]; exact hkn))
      obtain ⟨W2, hW2, f3, f5⟩ := fin10 (w := w) .ok i4 i3
      have J2 : Hid (OwnF W2 w.heap.size u6 fs) := by
        rw [hW2]
        refine (i2.mono (by omega)).keep fun g hg => setRow_ne _ _ _ _ ?_
        have := (i2.block hg).1; omega
      have F1 := hide i4
      have F3 := hide f3
      have F5 := hide f5
      have HW2 := hide hW2
      clear hW2 f3 f5 i1 i2 i3 i4 HR
      go_wp2_with (first
        | (refine wpList_store_rowW rfl 32 _ _ rfl w.heap.size (badG .ok) rfl rfl 32 (badC .ok) F1.out (badGI .ok) (by simp [badC_size, badG_size]) (badG_one _) W2 HW2.out ?_))
      refine bodyPost_ret (res_tmp_cell rfl _ _ w.heap.size 32 (badG .ok) (0, 0) _ rfl F3.out Tryz.underlying32 rfl (badGI .ok)) rfl ⟨u6, by rw [HF.out]; rfl, by rw [HF.out]; exact J2.out, F5.out⟩
end Go.Proofs.YthbnbnfhbkekpaaGreatDoor
