/-
  The reader of messages: addresses; conditions as each theorem has them.
-/
import Derived.Test.YtabkelhipmijfaaGreatDoorJoinedMF
import Derived.Test.YtabkelhipmijfaaGreatDoorMH
import Derived.Test.YtabkelhipmijfaaGreatDoorJoined6
set_option linter.unusedSimpArgs false
set_option linter.unusedVariables false
namespace Go.Proofs.YtabkelhipmijfaaGreatDoor
open Go.RowKit
/-- What has been read so far of the answers. -/
structure Ads (w wr : World) (g : Nat) (a : Option Addr) (n c : Nat) (b : List Nat) (v : Value) (s : Sr) (nm : List Nat) (l : List Ad) : Prop where
  nb : ∀ x ∈ nm, x < 256
  own : OwnA wr w.heap.size v l
  len : l.length ≤ 16
  rd : Rdr wr g 148 [] a n c b s
  kp : Kept g g w wr
  va : Vars wr
set_option maxRecDepth 100000 in
set_option maxHeartbeats 8000000 in
theorem addrs_at (g : Nat) (a : Option Addr) (n c : Nat) (b : List Nat) (s0 : Sr) (nm0 : List Nat) (an : Nat) (w : World) (h : Rdr w g 148 [] a n c b s0) (hV : Vars w) (hn : n ≤ 140737488351232) (hg0 : 0 < g) (hnb : ∀ x ∈ nm0, x < 256) (han : an < 65536) :
    Calls Tryz.prog 85 #[.pointer (some ⟨g, 0, none⟩), .string (strN nm0), .int .i64 (an : Nat)] w fun e w' => ∃ v, e = .returned (.tuple #[v, .int .i64 ((if (rloop b an (s0, nm0, [], 1048576)).2.2.1 = [] then 0 else (rloop b an (s0, nm0, [], 1048576)).2.2.2 : Nat) : Int)]) ∧ OwnA w' w.heap.size v (rloop b an (s0, nm0, [], 1048576)).2.2.1 ∧ Rdr w' g 148 [] a n c b (rloop b an (s0, nm0, [], 1048576)).1 ∧ Kept g g w w' ∧ Vars w' := by
  obtain ⟨T, hT⟩ : ∃ T, T = rloop b an (s0, nm0, [], 1048576) := ⟨_, rfl⟩
  rw [← hT]
  have HT := hide hT
  obtain ⟨TT, hTT⟩ : ∃ TT : Nat, TT = if T.2.2.1 = [] then 0 else T.2.2.2 := ⟨_, rfl⟩
  rw [← hTT]
  have HTT := hide hTT
  clear hTT
  have A0 : Hid (Ads w w g a n c b (.slice none 0 0) s0 nm0 []) := ⟨hnb, OwnA.nil _ _, by simp, h, Kept.refl _ _ _, hV⟩
  have hgs := h.block
  have HBY := hide h.src.byte
  have HLN := hide h.src.hlen
  have HSB : Hid (∀ x o, a = some ⟨x, o, none⟩ → 0 < n → x < w.heap.size) := fun x o e h0 => h.src.lt h0 e
  clear h hV hT hnb
  go_enter Tryz.func85, Tryz.ntmps85
  go_wp2_with fail
  go_loopw [1, 2, 8, 9] (fun v1 v2 v8 v9 wr => ∃ (k tt : Nat) (X : ByteArray), v1 = .string X ∧ v2 = .int .i64 (k : Nat) ∧ v9 = .int .i64 (tt : Nat) ∧ k < 65536 ∧ tt ≤ 1048576 ∧ Hid (∃ s nm l, X = strN nm ∧ Ads w wr g a n c b v8 s nm l ∧ T = rloop b k (s, nm, l, tt))) (fun _ v2 _ _ _ => (intOf v2).toNat)
  case atStart => exact ⟨an, 1048576, _, rfl, rfl, rfl, han, by omega, s0, nm0, [], rfl, A0.out, HT.out⟩
  case round =>
    obtain ⟨k, tt, X, rfl, rfl, rfl, hk, htt, HJ⟩ := hrel
    obtain ⟨s, nm, l, hX, ad, hrec⟩ := HJ.out
    have HX := hide hX
    have AD := hide ad
    have HREC := hide hrec
    obtain ⟨va, vc, rfl⟩ := ad.own.shape
    have hgb := ad.rd.block
    obtain ⟨⟨v, p1, i1⟩, _⟩ := ad.rd
    have c2 : wr.cell? ⟨g, 2, none⟩ = some v := p1.cell 2
    have HRW := hide p1
    have HEX : Hid (rloop b k (s, nm, l, tt) = (s, nm, l, tt) → ∀ v9 : Value, True) := fun _ _ => trivial
    clear HJ hX p1 hrec
    by_cases hk0 : k = 0
    · subst hk0
      have HT2 : Hid (T = (s, nm, l, tt)) := HREC.out
      clear ad i1 HREC c2
      by_cases hl : l = []
      · have d0 : ((l.length : Int) == 0) = true := by rw [hl]; simp
        have HR : Hid (TT = 0) := by show _ = _; rw [HTT.out, HT2.out]; exact if_pos hl
        clear hl
        go_wp2_with fail
        go_ret2
        refine ⟨_, ?_, by rw [HT2.out]; exact AD.out.own, by rw [HT2.out]; exact AD.out.rd, AD.out.kp, AD.out.va⟩
        rw [HR.out]; rfl
      · have d0 : ((l.length : Int) == 0) = false := by simp; exact hl
        have HR : Hid (TT = tt) := by show _ = _; rw [HTT.out, HT2.out]; exact if_neg hl
        clear hl
        go_wp2_with fail
        go_ret2
        refine ⟨_, ?_, by rw [HT2.out]; exact AD.out.own, by rw [HT2.out]; exact AD.out.rd, AD.out.kp, AD.out.va⟩
        rw [HR.out]; rfl
    · have hkp : decide (0 < (k : Int)) = true := decide_eq_true (by omega)
      have hkp' : decide (0 < k) = true := decide_eq_true (by omega)
      by_cases hok : s.2 = .ok
      · obtain rfl := i1.nil hok
        have HOK := hide hok
        have HREC2 : Hid (T = rloop b (k - 1) (rstep b (s, nm, l, tt))) := by
          show _ = _
          have : rloop b k (s, nm, l, tt) = rloop b (k - 1 + 1) (s, nm, l, tt) := by rw [Nat.sub_add_cancel (by omega)]
          rw [HREC.out, this, rloop_ok hok]
        have HRC := hide (record_at g a n c b s wr ad.rd ad.va hn hg0)
        clear hok ad i1 HREC
        go_wp2_with fail
        refine HRC.out.mono ?_
        rintro e w1 ⟨x, L, y, rfl, r1, k1, v1, z1⟩
        obtain ⟨RX, hRX⟩ : ∃ RX, RX = strN (rc b s).nm := ⟨_, rfl⟩
        obtain ⟨kd, hkd⟩ : ∃ z, z = (rc b s).kd := ⟨_, rfl⟩
        obtain ⟨cl, hcl⟩ : ∃ z, z = (rc b s).cl := ⟨_, rfl⟩
        obtain ⟨sc, hsc⟩ : ∃ z, z = (rc b s).sc := ⟨_, rfl⟩
        obtain ⟨da, hda⟩ : ∃ z, z = (rc b s).da := ⟨_, rfl⟩
        rw [← hRX, ← hkd, ← hcl, ← hsc, ← hda]
        obtain ⟨W2, hW2⟩ : ∃ W2, W2 = w1.alloc (.cells #[.string RX, .int .i64 (kd : Nat), .int .i64 (cl : Nat), .int .i64 (sc : Nat), .int .i64 (da : Nat), .slice x L y] 187) := ⟨_, rfl⟩
        obtain ⟨hb, hhb⟩ : ∃ hb, hb = w1.heap.size := ⟨_, rfl⟩
        have q2 : Row W2 hb 187 [.string RX, .int .i64 (kd : Nat), .int .i64 (cl : Nat), .int .i64 (sc : Nat), .int .i64 (da : Nat), .slice x L y] := by rw [hW2, hhb]; exact Row.new w1 _ 187
        have kW : Kept g g wr W2 := by rw [hW2]; exact k1.alloc _
        have A2 : Hid (Ads w W2 g a n c b (.slice va l.length vc) (rcS b s) nm l) := ⟨AD.out.nb, (by rw [hW2]; exact ((AD.out.own.kept HRW.out (by decide) k1).below ((Below.refl _ _).alloc (Nat.le_refl _) _))), AD.out.len, (by rw [hW2]; exact r1.alloc _), AD.out.kp.trans kW, AD.out.va.kept kW hg0⟩
        have hs1 := k1.size
        have hs2 := AD.out.kp.size
        obtain ⟨⟨fv, fp, fi⟩, _⟩ := r1
        have fc2 : w1.cell? ⟨g, 2, none⟩ = some fv := fp.cell 2
        have hgW := fp.lt
        have Q2 := hide q2
        have HW2 := hide hW2.symm
        have HHB := hide hhb.symm
        have HZ1 : Hid ((rcS b s).2 = .ok → L = (rc b s).sz ∧ Src W2 x L y (pc b (rc b s).da (rc b s).sz)) := fun ho => by
          obtain ⟨e1, e2⟩ := z1 ho
          exact ⟨e1, by rw [hW2]; exact e2.below ((Below.refl _ _).alloc (Nat.le_refl _) _)⟩
        have HRX := hide hRX
        have HKD := hide hkd
        have HCL := hide hcl
        have HSC := hide hsc
        have HDA := hide hda
        clear k1 v1 z1 hRX hkd hcl hsc hda hW2 hhb q2 kW HRC c2
        by_cases hf : (rcS b s).2 = .ok
        · obtain rfl := fi.nil hf
          have HF := hide hf
          obtain ⟨eL, sS⟩ := HZ1.out hf
          have HEL := hide eL
          have SS := hide sS
          clear hf fp fi eL sS
          by_cases hnm : (rc b s).nm = nm
          · have qn : (RX.toList == X.toList) = true := by rw [HRX.out, HX.out, hnm]; simp
            have qn' : (RX.toList != X.toList) = false := by simp [bne, qn]
            have HNM := hide hnm
            clear hnm
            by_cases hc1 : cl = 1
            · have qc : ((cl : Int) != 1) = false := by simp; omega
              have HC1 : Hid ((rc b s).cl = 1) := by show _ = _; rw [← HCL.out]; exact hc1
              clear hc1
              by_cases h5 : kd = 5
              · have q5 : ((kd : Int) == 5) = true := by simp; omega
                have H5 : Hid ((rc b s).kd = 5) := by show _ = _; rw [← HKD.out]; exact h5
                have hdl : da + L ≤ n := by have := (rcS_ok HF.out).2.2.1; rw [HDA.out, HEL.out, ← HLN.out]; exact this
                have HAL := hide (alias_at g a n c b (rcS b s) W2 RX kd cl sc da L x y A2.out.rd HF.out A2.out.va hn hg0 hdl)
                have HAE : Hid (alE b da L (rcS b s).1 = alS b (rc b s) (rcS b s)) := by show _ = _; rw [HDA.out, HEL.out]; rfl
                have hmn : min (tt : Int) (sc : Int) = ((min tt sc : Nat) : Int) := by omega
                have HT3 : Hid (T = rloop b (k - 1) (alS b (rc b s) (rcS b s), (nam b da).1, l, min tt sc)) := by show _ = _; rw [HREC2.out, HDA.out, HSC.out]; exact congrArg (rloop b (k - 1)) (rstep_def_alias (x := (s, nm, l, tt)) HF.out HNM.out HC1.out H5.out)
                rw [HAE.out] at HAL
                obtain ⟨X3, hX3⟩ : ∃ X3, X3 = strN (nam b da).1 := ⟨_, rfl⟩
                rw [← hX3] at HAL
                have HX3 := hide hX3
                clear h5 hX3 hdl
                go_wp2_with fail
                rw [HW2.out]
                refine HAL.out.mono ?_
                rintro e w3 ⟨rfl, r3, k3, v3⟩
                have q3 := Q2.out.kept k3 (by rw [← HHB.out]; omega) (by rw [← HHB.out]; omega)
                rw [← HHB.out] at q3
                have e3 : w3.cell? ⟨w1.heap.size, 3, none⟩ = some (.int .i64 (sc : Nat)) := q3.cell 3
                have l3 := q3.lt
                have A3 : Hid (Ads w w3 g a n c b (.slice va l.length vc) (alS b (rc b s) (rcS b s)) (nam b da).1 l) := ⟨nam_byte HBY.out _, (by obtain ⟨⟨v9, p9, _⟩, _⟩ := A2.out.rd; exact A2.out.own.kept p9 (by decide) k3), A2.out.len, r3, A2.out.kp.trans k3, v3⟩
                clear r3 k3 v3 q3 fc2
                go_wp2_with fail
                go_roundw
                case rel => exact ⟨k - 1, min tt sc, X3, rfl, by go_num, rfl, by omega, Nat.le_trans (Nat.min_le_left _ _) htt, _, _, l, HX3.out, A3.out, HT3.out⟩
                case measure => simp [intOf]; omega
              · have q5 : ((kd : Int) == 5) = false := by simp; omega
                have H5 : Hid ((rc b s).kd ≠ 5) := by show _ ≠ _; rw [← HKD.out]; exact h5
                clear h5
                by_cases hk1 : kd = 1
                · have q1 : ((kd : Int) == 1) = true := by simp; omega
                  by_cases hL : L = 4
                  · have HL4 : Hid (L = 4) := hL
                    have HK1 : Hid ((rc b s).kd = 1) := by show _ = _; rw [← HKD.out]; exact hk1
                    have qL : ((L : Int) == 4) = true := by simp; omega
                    have hsz4 : (rc b s).sz = 4 := by rw [← HEL.out]; exact hL
                    have HSS : Hid (Src W2 x 4 y (pc b da 4)) := by have := SS.out; rw [hL, hsz4, ← HDA.out] at this; exact this
                    have HAP := hide (appendAddr_at (.slice va l.length vc) l w.heap.size W2 x y (pc b da 4) A2.out.own (A2.out.kp.size) A2.out.len HSS.out)
                    have had : ((pc b da 4).getD 0 0, (pc b da 4).getD 1 0, (pc b da 4).getD 2 0, (pc b da 4).getD 3 0) = adAt b da := by unfold adAt; rw [pc_getD (by omega), pc_getD (by omega), pc_getD (by omega), pc_getD (by omega)]; rfl
                    rw [had] at HAP
                    have hmn : min (tt : Int) (sc : Int) = ((min tt sc : Nat) : Int) := by omega
                    have HT3 : Hid (T = rloop b (k - 1) (rcS b s, nm, more l (adAt b da), min tt sc)) := by show _ = _; rw [HREC2.out, HDA.out, HSC.out]; exact congrArg (rloop b (k - 1)) (rstep_def_addr (x := (s, nm, l, tt)) HF.out HNM.out HC1.out HK1.out hsz4)
                    obtain rfl := HL4.out.symm
                    clear hk1 hsz4 had
                    go_wp2_with fail
                    rw [HW2.out]
                    refine HAP.out.mono ?_
                    rintro e w3 ⟨v3, rfl, o3, b3, u3⟩
                    have q3 := A2.out.own.but Q2.out (by decide) u3
                    rw [← HHB.out] at q3
                    have e3 : w3.cell? ⟨w1.heap.size, 3, none⟩ = some (.int .i64 (sc : Nat)) := q3.cell 3
                    have l3 := q3.lt
                    have A3 : Hid (Ads w w3 g a n c b v3 (rcS b s) nm (more l (adAt b da))) := by
                      obtain ⟨⟨v9, p9, i9⟩, s9, o9, t9, l9⟩ := A2.out.rd
                      refine ⟨AD.out.nb, o3, more_len _ AD.out.len, ⟨⟨v9, A2.out.own.but p9 (by decide) u3, ?_⟩, s9.belowB b3 (fun g' hg' h0 bl of e => by have := HSB.out bl of e h0; omega), o9, t9, l9⟩, A2.out.kp.trans' b3, A2.out.va.below' b3 (by omega)⟩
                      exact (i9.nil HF.out) ▸ (by rw [HF.out]; rfl)
                    clear o3 b3 u3 q3 fc2
                    go_wp2_with fail
                    go_roundw
                    case rel => exact ⟨k - 1, min tt sc, X, rfl, by go_num, rfl, by omega, Nat.le_trans (Nat.min_le_left _ _) htt, _, _, _, HX.out, A3.out, HT3.out⟩
                    case measure => simp [intOf]; omega
                  · have qL : ((L : Int) == 4) = false := by simp; omega
                    have HN5 : Hid (¬ ((rc b s).kd = 1 ∧ (rc b s).sz = 4)) := fun h => hL (by rw [HEL.out]; exact h.2)
                    clear hL hk1
                    have HT3 : Hid (T = rloop b (k - 1) (rcS b s, nm, l, tt)) := by show _ = _; rw [HREC2.out]; exact congrArg (rloop b (k - 1)) (rstep_def_other (x := (s, nm, l, tt)) HF.out HNM.out HC1.out H5.out HN5.out)
                    go_wp2_with fail
                    rw [HW2.out]
                    go_roundw
                    case rel => exact ⟨k - 1, tt, X, rfl, by go_num, rfl, by omega, htt, rcS b s, nm, l, HX.out, A2.out, HT3.out⟩
                    case measure => simp [intOf]; omega
                · have q1 : ((kd : Int) == 1) = false := by simp; omega
                  have HN5 : Hid (¬ ((rc b s).kd = 1 ∧ (rc b s).sz = 4)) := fun h => hk1 (by rw [HKD.out]; exact h.1)
                  clear hk1
                  have HT3 : Hid (T = rloop b (k - 1) (rcS b s, nm, l, tt)) := by show _ = _; rw [HREC2.out]; exact congrArg (rloop b (k - 1)) (rstep_def_other (x := (s, nm, l, tt)) HF.out HNM.out HC1.out H5.out HN5.out)
                  go_wp2_with fail
                  rw [HW2.out]
                  go_roundw
                  case rel => exact ⟨k - 1, tt, X, rfl, by go_num, rfl, by omega, htt, rcS b s, nm, l, HX.out, A2.out, HT3.out⟩
                  case measure => simp [intOf]; omega
            · have qc : ((cl : Int) != 1) = true := by simp; omega
              have HC1 : Hid ((rc b s).cl ≠ 1) := by show _ ≠ _; rw [← HCL.out]; exact hc1
              clear hc1
              have HT3 : Hid (T = rloop b (k - 1) (rcS b s, nm, l, tt)) := by show _ = _; rw [HREC2.out]; exact congrArg (rloop b (k - 1)) (rstep_def_bad (x := (s, nm, l, tt)) (Or.inr (Or.inr HC1.out)))
              go_wp2_with fail
              rw [HW2.out]
              go_roundw
              case rel => exact ⟨k - 1, tt, X, rfl, by go_num, rfl, by omega, htt, rcS b s, nm, l, HX.out, A2.out, HT3.out⟩
              case measure => simp [intOf]; omega
          · have qn : (RX.toList == X.toList) = false := by rw [HRX.out, HX.out, eq_byt, byt_strN (rc b s).nm (mn_byte HBY.out s), byt_strN nm AD.out.nb]; exact decide_eq_false hnm
            have qn' : (RX.toList != X.toList) = true := by simp [bne, qn]
            have HNM : Hid ((rc b s).nm ≠ nm) := hnm
            clear hnm
            have HT3 : Hid (T = rloop b (k - 1) (rcS b s, nm, l, tt)) := by show _ = _; rw [HREC2.out]; exact congrArg (rloop b (k - 1)) (rstep_def_bad (x := (s, nm, l, tt)) (Or.inr (Or.inl HNM.out)))
            go_wp2_with fail
            rw [HW2.out]
            go_roundw
            case rel => exact ⟨k - 1, tt, X, rfl, by go_num, rfl, by omega, htt, rcS b s, nm, l, HX.out, A2.out, HT3.out⟩
            case measure => simp [intOf]; omega
        · obtain ⟨x9, rfl⟩ := fi.ptr hf
          have HF : Hid ((rcS b s).2 ≠ .ok) := hf
          clear hf fp fi
          have HT3 : Hid (T = rloop b (k - 1) (rcS b s, nm, l, tt)) := by show _ = _; rw [HREC2.out]; exact congrArg (rloop b (k - 1)) (rstep_def_bad (x := (s, nm, l, tt)) (Or.inl HF.out))
          go_wp2_with fail
          rw [HW2.out]
          go_roundw
          case rel => exact ⟨k - 1, tt, X, rfl, by go_num, rfl, by omega, htt, rcS b s, nm, l, HX.out, A2.out, HT3.out⟩
          case measure => simp [intOf]; omega
      · obtain ⟨x9, rfl⟩ := i1.ptr hok
        have HT2 : Hid (T = (s, nm, l, tt)) := by show _ = _; rw [HREC.out, rloop_bad hok]
        clear ad i1 HREC hok
        by_cases hl : l = []
        · have d0 : ((l.length : Int) == 0) = true := by rw [hl]; simp
          have HR : Hid (TT = 0) := by show _ = _; rw [HTT.out, HT2.out]; exact if_pos hl
          clear hl
          go_wp2_with fail
          go_ret2
          refine ⟨_, ?_, by rw [HT2.out]; exact AD.out.own, by rw [HT2.out]; exact AD.out.rd, AD.out.kp, AD.out.va⟩
          rw [HR.out]; rfl
        · have d0 : ((l.length : Int) == 0) = false := by simp; exact hl
          have HR : Hid (TT = tt) := by show _ = _; rw [HTT.out, HT2.out]; exact if_neg hl
          clear hl
          go_wp2_with fail
          go_ret2
          refine ⟨_, ?_, by rw [HT2.out]; exact AD.out.own, by rw [HT2.out]; exact AD.out.rd, AD.out.kp, AD.out.va⟩
          rw [HR.out]; rfl
end Go.Proofs.YtabkelhipmijfaaGreatDoor
