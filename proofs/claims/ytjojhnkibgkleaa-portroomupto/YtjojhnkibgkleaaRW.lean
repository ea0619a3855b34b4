/-
  The walk of PortRoom: whatever came in, of no more than 1048576 texts, the call answers true and turns nothing that was there.
-/
import Derived.Test.YtjojhnkibgkleaaRV
set_option linter.unusedSimpArgs false
set_option linter.unusedVariables false
set_option maxRecDepth 8000
namespace Go.Proofs.Ytjojhnkibgkleaa
open Go.RowKit Go.Lib

/-- How a round stands. -/
structure Rnd (B : Nat) (w1 wr : World) (b k : Nat) (fin : Int) (gv : Int) (I : ByteArray) (o : Bool) (ou : List Ot) : Prop where
  port : PB B wr b (RoP (gv - I.size) o ou)
  below : Below B w1 wr
  told : bi I = tolB ou
  size : (I.size : Int) ≤ gv
  given : gv ≤ k * 5000
  many : ou.length ≤ 2 * k
  over : o = decide (0 ≤ fin ∧ fin < k)
set_option maxRecDepth 100000 in
set_option maxHeartbeats 8000000 in
theorem room_walk (a2 : Option Addr) (n2 c2 : Nat) (T : Nat → Int) (a1 : Option Addr) (n1 c1 : Nat) (S : Nat → ByteArray) (fin : Int) (w : World) (hT : SrcN w a2 n2 n2 T) (hS : SrcS w a1 n1 n1 S) (hn : n1 ≤ 1048576) :
    Calls Try.prog 5 #[.slice a2 n2 c2, .slice a1 n1 c1, .int .i64 fin] w fun e w' => e = .returned (.bool true) ∧ Below w.heap.size w w' := by
  have hm2 := hT.hmax
  have HS := hide hS
  have HT := hide hT
  clear hS hT
  go_enter Try.func5, Try.ntmps5
  go_wp2_with fail
  refine (works_at _).mono ?_
  rintro x w1 ⟨rfl, hb⟩
  have B1 := hide hb
  clear hb
  go_wp2_with fail
  refine (new_B (B := w1.heap.size) 1 0 8 w1 (Nat.le_refl _) (by omega) (by omega) (by omega) (by omega)).mono ?_
  rintro x w3 ⟨b, rfl, hp, kb⟩
  have HP := hide hp
  have K3 := hide kb
  clear hp kb
  go_wp2_with fail
  refine (event_B HP.out K3.out.size 1 0 0 emp (by omega) (by decide) none 0 0).mono ?_
  rintro x w4 ⟨rfl, h4, k4⟩
  rw [ro_open] at h4
  have HR0 : Hid (Rnd w1.heap.size w1 w4 b 0 fin 0 emp false []) := ⟨h4, K3.out.trans k4, rfl, by decide, by omega, by simp, by simp⟩
  clear h4 k4
  go_wp2_with fail
  go_loopw [9, 10, 11, 12] (fun vg vi vo i wr => ∃ (k : Nat) (gv : Int) (I : ByteArray) (o : Bool) (ou : List Ot), k ≤ n1 ∧ vg = .int .i64 gv ∧ vi = .string I ∧ vo = .bool o ∧ i = .int .i64 k ∧ Hid (Rnd w1.heap.size w1 wr b k fin gv I o ou)) (fun _ _ _ i _ => n1 - (Go.RowKit.intOf i).toNat)
  case atStart => exact ⟨0, 0, emp, false, [], Nat.zero_le _, rfl, rfl, rfl, rfl, HR0⟩
  case round =>
    obtain ⟨k, gv, I, o, ou, hk, rfl, rfl, rfl, rfl, HR⟩ := hrel
    have hsz := HR.out.size
    have hgv := HR.out.given
    have hov := HR.out.over
    have HOV := hide hov
    clear hov
    by_cases hlt : k < n1
    · skip
      obtain ⟨b1, o1, e1, cS, hSz⟩ := HS.out.at_ (B1.out.trans (HR.out.below.mono B1.out.size)) hlt
      subst e1
      obtain ⟨d, hd⟩ : ∃ d, d = S k := ⟨_, rfl⟩
      have HCL : Hid (∀ W, Below w1.heap.size w1 W → W.cell? ⟨b1, o1 + k, none⟩ = some (.string d)) := fun W kk => by
        obtain ⟨b', o', e', c', _⟩ := HS.out.at_ (B1.out.trans (kk.mono B1.out.size)) hlt
        simp at e'
        rw [e'.1, e'.2, hd]
        exact c'
      rw [← hd] at hSz
      have hd63 : d.size ≤ 9223372036854775807 := by unfold maxLen at hSz; omega
      have hcv := fun W => run_conv d W
      clear hd cS
      have HA := hide HR.out.port
      have KA := hide HR.out.below
      have HTOLD := hide HR.out.told
      have hmany := HR.out.many
      clear HR
      by_cases hk2 : k < n2
      · obtain ⟨b2, o2, e2, cT, hTb⟩ := HT.out.at_ (B1.out.trans (KA.out.mono B1.out.size)) hk2
        subst e2
        obtain ⟨tk, htk⟩ : ∃ tk, tk = T k := ⟨_, rfl⟩
        rw [← htk] at cT hTb
        obtain ⟨r, hr⟩ : ∃ r : Int, r = max 0 (min tk 5000) := ⟨_, rfl⟩
        have hmm : max 0 (min tk 5000) = r := hr.symm
        have r0 : 0 ≤ r := by omega
        have r1 : r ≤ 5000 := by omega
        clear htk hr
        go_wp2_with fail
        refine (event_B HA.out KA.out.size 5 0 r emp (by omega) (by decide) none 0 0).mono ?_
        rintro x w5 ⟨rfl, h5, k5⟩
        rw [ro_room _ r o ou r0 (by omega)] at h5
        obtain ⟨g2, hg2⟩ : ∃ g2, g2 = gv + r := ⟨_, rfl⟩
        have hgr : gv + r = g2 := hg2.symm
        rw [show gv - (I.size : Int) + r = g2 - (I.size : Int) by omega] at h5
        have HA2 := hide h5
        have KA2 := hide (KA.out.trans k5)
        have hs2 : (I.size : Int) ≤ g2 := by omega
        have hg3 : g2 ≤ (k : Int) * 5000 + 5000 := by omega
        clear h5 k5 hg2 cT hmm
        by_cases hf : fin = (k : Int)
        · have ho : o = false := by rw [HOV.out]; simp; omega
          subst ho
          have hff : ((k : Int) == fin) = true := by simp [hf]
          obtain ⟨f1, f2, f3, f4⟩ := ro_fin (g2 - (I.size : Int)) ou
          have F1 := hide f1
          have F2 := hide f2
          have F3 := hide f3
          have F4 := hide f4
          have HFI := hide hf
          clear f1 f2 f3 f4 hf
          go_wp2_with fail
          refine (fin_B HA2.out KA2.out.size 0 (by show ou.length ≤ _; omega)).mono ?_
          rintro x w6 ⟨rfl, h6, k6⟩
          rw [F2.out] at h6
          rw [F1.out]
          have HA3 := hide h6
          have KA3 := hide (KA2.out.trans k6)
          clear h6 k6
          go_wp2_with fail
          refine (fin_B HA3.out KA3.out.size 0 (by show (ou ++ [ot 3 0 emp]).length ≤ _; simp; omega)).mono ?_
          rintro x w7 ⟨rfl, h7, k7⟩
          rw [(ro_fin (g2 - (I.size : Int)) (ou ++ [ot 3 0 emp])).2.2.2] at h7
          rw [(ro_fin (g2 - (I.size : Int)) (ou ++ [ot 3 0 emp])).2.2.1]
          have HA4 := hide h7
          have KA4 := hide (KA3.out.trans k7)
          have HTL4 : Hid (bi I = tolB (ou ++ [ot 3 0 emp])) := by show _ = _; rw [tolB_fin]; exact HTOLD.out
          have HOV4 : Hid (true = decide (0 ≤ fin ∧ fin < ((k + 1 : Nat) : Int))) := by show _ = _; simp [HFI.out]; omega
          obtain ⟨ou4, hou4⟩ : ∃ ou4, ou4 = ou ++ [ot 3 0 emp] := ⟨_, rfl⟩
          rw [← hou4] at HA4 HTL4
          have hm4 : ou4.length ≤ 2 * k + 1 := by rw [hou4]; simp; omega
          clear h7 k7 hou4
          obtain ⟨t, ht⟩ : ∃ t, t = sendT (RoP (g2 - (I.size : Int)) true ou4) 0 d.size := ⟨_, rfl⟩
          have HST := hide ht
          rw [ro_sendT] at ht
          have ht0 : t = 0 := by rw [ht]; rfl
          have htd : t ≤ d.size := by omega
          have q1 : ((t : Int) != 0) = false := by simp [ht0]
          have q2 : ((t : Int) == 0) = true := by simp [ht0]
          have HT0 := hide ht0
          clear ht ht0
          obtain ⟨T', hTe⟩ : ∃ T', d.extract 0 t = T' := ⟨_, rfl⟩
          have hTs : T'.size = t := by rw [← hTe]; exact size_extract d t htd
          have HTB : Hid (bi T' = (bi d).take t) := by rw [← hTe]; exact bi_extract d t
          have hu1 : ¬ (9223372036854775807 < I.size + T'.size) := by first | omega | (have := HT0.out; omega)
          have hu2 : ¬ (9223372036854775807 < (I.size : Int) + (T'.size : Int)) := by first | omega | (have := HT0.out; omega)
          obtain ⟨D, hD⟩ : ∃ D : Int, D = g2 - (I.size : Int) := ⟨_, rfl⟩
          have hDe : g2 - (I.size : Int) = D := hD.symm
          have htd2 : (t : Int) ≤ (d.size : Int) := by omega
          have cS4 := HCL.out _ KA4.out
          have HDD := hide hD

          clear hD
          go_wp2_with fail
          refine (send_B (HA4.out.below (bytesW_below _ d)) (Nat.le_trans KA4.out.size (bytesW_below _ d).size) 0 (by show ou4.length ≤ _; omega) _ d.size _ (bi d) (conv_src d _ hSz) (bytesW_ty _ d d.size)).mono ?_
          rintro x w8 ⟨rfl, h8, k8⟩
          rw [← HST.out]
          have KA8 := hide ((KA4.out.trans ((bytesW_below _ d).mono KA4.out.size)).trans k8)
          obtain ⟨ou2, s1, s2, s3⟩ := ro_sent h8 HST.out.symm HTB.out hTs HTL4.out hm4
          have S1 := hide s1
          have S2 := hide s2
          have cS8 := HCL.out _ KA8.out
          clear h8 k8 s1 s2
          go_wp2_with fail
          go_roundw
          case rel => exact ⟨k + 1, g2, I ++ T', true, ou2, by omega, rfl, rfl, rfl, by go_num, ⟨S1.out, KA8.out, S2.out, by rw [ByteArray.size_append]; first | (have := HDD.out; omega) | (have := HDD.out; have := HT0.out; omega), by omega, by omega, HOV4.out⟩⟩
          case measure => simp [Go.RowKit.intOf]; omega
        · have hff : ((k : Int) == fin) = false := by simp; omega
          have HOV4 : Hid (o = decide (0 ≤ fin ∧ fin < ((k + 1 : Nat) : Int))) := by
            show o = _
            rw [HOV.out, Bool.eq_iff_iff]
            simp only [decide_eq_true_eq]
            omega
          have HA4 := HA2
          have KA4 := KA2
          have HTL4 := HTOLD
          obtain ⟨ou4, hou4⟩ : ∃ ou4, ou4 = ou := ⟨_, rfl⟩
          rw [← hou4] at HA4 HTL4 hmany
          have hm4 : ou4.length ≤ 2 * k + 1 := by omega
          have HFI := hide hf
          clear hou4 HA2 KA2 HTOLD hf HOV
          cases o
          · skip
            obtain ⟨t, ht⟩ : ∃ t, t = sendT (RoP (g2 - (I.size : Int)) false ou4) 0 d.size := ⟨_, rfl⟩
            have HST := hide ht
            rw [ro_sendT] at ht
            have htv : t = min d.size (g2 - (I.size : Int)).toNat := by rw [ht]; rfl
            have htd : t ≤ d.size := by omega
            clear ht
            obtain ⟨T', hTe⟩ : ∃ T', d.extract 0 t = T' := ⟨_, rfl⟩
            have hTs : T'.size = t := by rw [← hTe]; exact size_extract d t htd
            have HTB : Hid (bi T' = (bi d).take t) := by rw [← hTe]; exact bi_extract d t
            have hu1 : ¬ (9223372036854775807 < I.size + T'.size) := by first | omega | (have := HT0.out; omega)
            have hu2 : ¬ (9223372036854775807 < (I.size : Int) + (T'.size : Int)) := by first | omega | (have := HT0.out; omega)
            obtain ⟨D, hD⟩ : ∃ D : Int, D = g2 - (I.size : Int) := ⟨_, rfl⟩
            have hDe : g2 - (I.size : Int) = D := hD.symm
            have htd2 : (t : Int) ≤ (d.size : Int) := by omega
            have cS4 := HCL.out _ KA4.out
            have HDD := hide hD
            have hmn : min (d.size : Int) D = (t : Int) := by omega
            clear htv
            clear hD
            go_wp2_with fail
            refine (send_B (HA4.out.below (bytesW_below _ d)) (Nat.le_trans KA4.out.size (bytesW_below _ d).size) 0 (by show ou4.length ≤ _; omega) _ d.size _ (bi d) (conv_src d _ hSz) (bytesW_ty _ d d.size)).mono ?_
            rintro x w8 ⟨rfl, h8, k8⟩
            rw [← HST.out]
            have KA8 := hide ((KA4.out.trans ((bytesW_below _ d).mono KA4.out.size)).trans k8)
            obtain ⟨ou2, s1, s2, s3⟩ := ro_sent h8 HST.out.symm HTB.out hTs HTL4.out hm4
            have S1 := hide s1
            have S2 := hide s2
            have cS8 := HCL.out _ KA8.out
            clear h8 k8 s1 s2
            go_wp2_with fail
            go_roundw
            case rel => exact ⟨k + 1, g2, I ++ T', false, ou2, by omega, rfl, rfl, rfl, by go_num, ⟨S1.out, KA8.out, S2.out, by rw [ByteArray.size_append]; first | (have := HDD.out; omega) | (have := HDD.out; have := HT0.out; omega), by omega, by omega, HOV4.out⟩⟩
            case measure => simp [Go.RowKit.intOf]; omega
          · skip
            obtain ⟨t, ht⟩ : ∃ t, t = sendT (RoP (g2 - (I.size : Int)) true ou4) 0 d.size := ⟨_, rfl⟩
            have HST := hide ht
            rw [ro_sendT] at ht
            have ht0 : t = 0 := by rw [ht]; rfl
            have htd : t ≤ d.size := by omega
            have q1 : ((t : Int) != 0) = false := by simp [ht0]
            have q2 : ((t : Int) == 0) = true := by simp [ht0]
            have HT0 := hide ht0
            clear ht ht0
            obtain ⟨T', hTe⟩ : ∃ T', d.extract 0 t = T' := ⟨_, rfl⟩
            have hTs : T'.size = t := by rw [← hTe]; exact size_extract d t htd
            have HTB : Hid (bi T' = (bi d).take t) := by rw [← hTe]; exact bi_extract d t
            have hu1 : ¬ (9223372036854775807 < I.size + T'.size) := by first | omega | (have := HT0.out; omega)
            have hu2 : ¬ (9223372036854775807 < (I.size : Int) + (T'.size : Int)) := by first | omega | (have := HT0.out; omega)
            obtain ⟨D, hD⟩ : ∃ D : Int, D = g2 - (I.size : Int) := ⟨_, rfl⟩
            have hDe : g2 - (I.size : Int) = D := hD.symm
            have htd2 : (t : Int) ≤ (d.size : Int) := by omega
            have cS4 := HCL.out _ KA4.out
            have HDD := hide hD

            clear hD
            go_wp2_with fail
            refine (send_B (HA4.out.below (bytesW_below _ d)) (Nat.le_trans KA4.out.size (bytesW_below _ d).size) 0 (by show ou4.length ≤ _; omega) _ d.size _ (bi d) (conv_src d _ hSz) (bytesW_ty _ d d.size)).mono ?_
            rintro x w8 ⟨rfl, h8, k8⟩
            rw [← HST.out]
            have KA8 := hide ((KA4.out.trans ((bytesW_below _ d).mono KA4.out.size)).trans k8)
            obtain ⟨ou2, s1, s2, s3⟩ := ro_sent h8 HST.out.symm HTB.out hTs HTL4.out hm4
            have S1 := hide s1
            have S2 := hide s2
            have cS8 := HCL.out _ KA8.out
            clear h8 k8 s1 s2
            go_wp2_with fail
            go_roundw
            case rel => exact ⟨k + 1, g2, I ++ T', true, ou2, by omega, rfl, rfl, rfl, by go_num, ⟨S1.out, KA8.out, S2.out, by rw [ByteArray.size_append]; first | (have := HDD.out; omega) | (have := HDD.out; have := HT0.out; omega), by omega, by omega, HOV4.out⟩⟩
            case measure => simp [Go.RowKit.intOf]; omega
      · obtain ⟨g2, hg2⟩ : ∃ g2, g2 = gv := ⟨_, rfl⟩
        rw [← hg2] at HA hgv hsz ⊢
        have HA2 := HA
        have KA2 := KA
        have hs2 : (I.size : Int) ≤ g2 := hsz
        have hg3 : g2 ≤ (k : Int) * 5000 + 5000 := by omega
        clear HA KA hg2
        by_cases hf : fin = (k : Int)
        · have ho : o = false := by rw [HOV.out]; simp; omega
          subst ho
          have hff : ((k : Int) == fin) = true := by simp [hf]
          obtain ⟨f1, f2, f3, f4⟩ := ro_fin (g2 - (I.size : Int)) ou
          have F1 := hide f1
          have F2 := hide f2
          have F3 := hide f3
          have F4 := hide f4
          have HFI := hide hf
          clear f1 f2 f3 f4 hf
          go_wp2_with fail
          refine (fin_B HA2.out KA2.out.size 0 (by show ou.length ≤ _; omega)).mono ?_
          rintro x w6 ⟨rfl, h6, k6⟩
          rw [F2.out] at h6
          rw [F1.out]
          have HA3 := hide h6
          have KA3 := hide (KA2.out.trans k6)
          clear h6 k6
          go_wp2_with fail
          refine (fin_B HA3.out KA3.out.size 0 (by show (ou ++ [ot 3 0 emp]).length ≤ _; simp; omega)).mono ?_
          rintro x w7 ⟨rfl, h7, k7⟩
          rw [(ro_fin (g2 - (I.size : Int)) (ou ++ [ot 3 0 emp])).2.2.2] at h7
          rw [(ro_fin (g2 - (I.size : Int)) (ou ++ [ot 3 0 emp])).2.2.1]
          have HA4 := hide h7
          have KA4 := hide (KA3.out.trans k7)
          have HTL4 : Hid (bi I = tolB (ou ++ [ot 3 0 emp])) := by show _ = _; rw [tolB_fin]; exact HTOLD.out
          have HOV4 : Hid (true = decide (0 ≤ fin ∧ fin < ((k + 1 : Nat) : Int))) := by show _ = _; simp [HFI.out]; omega
          obtain ⟨ou4, hou4⟩ : ∃ ou4, ou4 = ou ++ [ot 3 0 emp] := ⟨_, rfl⟩
          rw [← hou4] at HA4 HTL4
          have hm4 : ou4.length ≤ 2 * k + 1 := by rw [hou4]; simp; omega
          clear h7 k7 hou4
          obtain ⟨t, ht⟩ : ∃ t, t = sendT (RoP (g2 - (I.size : Int)) true ou4) 0 d.size := ⟨_, rfl⟩
          have HST := hide ht
          rw [ro_sendT] at ht
          have ht0 : t = 0 := by rw [ht]; rfl
          have htd : t ≤ d.size := by omega
          have q1 : ((t : Int) != 0) = false := by simp [ht0]
          have q2 : ((t : Int) == 0) = true := by simp [ht0]
          have HT0 := hide ht0
          clear ht ht0
          obtain ⟨T', hTe⟩ : ∃ T', d.extract 0 t = T' := ⟨_, rfl⟩
          have hTs : T'.size = t := by rw [← hTe]; exact size_extract d t htd
          have HTB : Hid (bi T' = (bi d).take t) := by rw [← hTe]; exact bi_extract d t
          have hu1 : ¬ (9223372036854775807 < I.size + T'.size) := by first | omega | (have := HT0.out; omega)
          have hu2 : ¬ (9223372036854775807 < (I.size : Int) + (T'.size : Int)) := by first | omega | (have := HT0.out; omega)
          obtain ⟨D, hD⟩ : ∃ D : Int, D = g2 - (I.size : Int) := ⟨_, rfl⟩
          have hDe : g2 - (I.size : Int) = D := hD.symm
          have htd2 : (t : Int) ≤ (d.size : Int) := by omega
          have cS4 := HCL.out _ KA4.out
          have HDD := hide hD

          clear hD
          go_wp2_with fail
          refine (send_B (HA4.out.below (bytesW_below _ d)) (Nat.le_trans KA4.out.size (bytesW_below _ d).size) 0 (by show ou4.length ≤ _; omega) _ d.size _ (bi d) (conv_src d _ hSz) (bytesW_ty _ d d.size)).mono ?_
          rintro x w8 ⟨rfl, h8, k8⟩
          rw [← HST.out]
          have KA8 := hide ((KA4.out.trans ((bytesW_below _ d).mono KA4.out.size)).trans k8)
          obtain ⟨ou2, s1, s2, s3⟩ := ro_sent h8 HST.out.symm HTB.out hTs HTL4.out hm4
          have S1 := hide s1
          have S2 := hide s2
          have cS8 := HCL.out _ KA8.out
          clear h8 k8 s1 s2
          go_wp2_with fail
          go_roundw
          case rel => exact ⟨k + 1, g2, I ++ T', true, ou2, by omega, rfl, rfl, rfl, by go_num, ⟨S1.out, KA8.out, S2.out, by rw [ByteArray.size_append]; first | (have := HDD.out; omega) | (have := HDD.out; have := HT0.out; omega), by omega, by omega, HOV4.out⟩⟩
          case measure => simp [Go.RowKit.intOf]; omega
        · have hff : ((k : Int) == fin) = false := by simp; omega
          have HOV4 : Hid (o = decide (0 ≤ fin ∧ fin < ((k + 1 : Nat) : Int))) := by
            show o = _
            rw [HOV.out, Bool.eq_iff_iff]
            simp only [decide_eq_true_eq]
            omega
          have HA4 := HA2
          have KA4 := KA2
          have HTL4 := HTOLD
          obtain ⟨ou4, hou4⟩ : ∃ ou4, ou4 = ou := ⟨_, rfl⟩
          rw [← hou4] at HA4 HTL4 hmany
          have hm4 : ou4.length ≤ 2 * k + 1 := by omega
          have HFI := hide hf
          clear hou4 HA2 KA2 HTOLD hf HOV
          cases o
          · skip
            obtain ⟨t, ht⟩ : ∃ t, t = sendT (RoP (g2 - (I.size : Int)) false ou4) 0 d.size := ⟨_, rfl⟩
            have HST := hide ht
            rw [ro_sendT] at ht
            have htv : t = min d.size (g2 - (I.size : Int)).toNat := by rw [ht]; rfl
            have htd : t ≤ d.size := by omega
            clear ht
            obtain ⟨T', hTe⟩ : ∃ T', d.extract 0 t = T' := ⟨_, rfl⟩
            have hTs : T'.size = t := by rw [← hTe]; exact size_extract d t htd
            have HTB : Hid (bi T' = (bi d).take t) := by rw [← hTe]; exact bi_extract d t
            have hu1 : ¬ (9223372036854775807 < I.size + T'.size) := by first | omega | (have := HT0.out; omega)
            have hu2 : ¬ (9223372036854775807 < (I.size : Int) + (T'.size : Int)) := by first | omega | (have := HT0.out; omega)
            obtain ⟨D, hD⟩ : ∃ D : Int, D = g2 - (I.size : Int) := ⟨_, rfl⟩
            have hDe : g2 - (I.size : Int) = D := hD.symm
            have htd2 : (t : Int) ≤ (d.size : Int) := by omega
            have cS4 := HCL.out _ KA4.out
            have HDD := hide hD
            have hmn : min (d.size : Int) D = (t : Int) := by omega
            clear htv
            clear hD
            go_wp2_with fail
            refine (send_B (HA4.out.below (bytesW_below _ d)) (Nat.le_trans KA4.out.size (bytesW_below _ d).size) 0 (by show ou4.length ≤ _; omega) _ d.size _ (bi d) (conv_src d _ hSz) (bytesW_ty _ d d.size)).mono ?_
            rintro x w8 ⟨rfl, h8, k8⟩
            rw [← HST.out]
            have KA8 := hide ((KA4.out.trans ((bytesW_below _ d).mono KA4.out.size)).trans k8)
            obtain ⟨ou2, s1, s2, s3⟩ := ro_sent h8 HST.out.symm HTB.out hTs HTL4.out hm4
            have S1 := hide s1
            have S2 := hide s2
            have cS8 := HCL.out _ KA8.out
            clear h8 k8 s1 s2
            go_wp2_with fail
            go_roundw
            case rel => exact ⟨k + 1, g2, I ++ T', false, ou2, by omega, rfl, rfl, rfl, by go_num, ⟨S1.out, KA8.out, S2.out, by rw [ByteArray.size_append]; first | (have := HDD.out; omega) | (have := HDD.out; have := HT0.out; omega), by omega, by omega, HOV4.out⟩⟩
            case measure => simp [Go.RowKit.intOf]; omega
          · skip
            obtain ⟨t, ht⟩ : ∃ t, t = sendT (RoP (g2 - (I.size : Int)) true ou4) 0 d.size := ⟨_, rfl⟩
            have HST := hide ht
            rw [ro_sendT] at ht
            have ht0 : t = 0 := by rw [ht]; rfl
            have htd : t ≤ d.size := by omega
            have q1 : ((t : Int) != 0) = false := by simp [ht0]
            have q2 : ((t : Int) == 0) = true := by simp [ht0]
            have HT0 := hide ht0
            clear ht ht0
            obtain ⟨T', hTe⟩ : ∃ T', d.extract 0 t = T' := ⟨_, rfl⟩
            have hTs : T'.size = t := by rw [← hTe]; exact size_extract d t htd
            have HTB : Hid (bi T' = (bi d).take t) := by rw [← hTe]; exact bi_extract d t
            have hu1 : ¬ (9223372036854775807 < I.size + T'.size) := by first | omega | (have := HT0.out; omega)
            have hu2 : ¬ (9223372036854775807 < (I.size : Int) + (T'.size : Int)) := by first | omega | (have := HT0.out; omega)
            obtain ⟨D, hD⟩ : ∃ D : Int, D = g2 - (I.size : Int) := ⟨_, rfl⟩
            have hDe : g2 - (I.size : Int) = D := hD.symm
            have htd2 : (t : Int) ≤ (d.size : Int) := by omega
            have cS4 := HCL.out _ KA4.out
            have HDD := hide hD

            clear hD
            go_wp2_with fail
            refine (send_B (HA4.out.below (bytesW_below _ d)) (Nat.le_trans KA4.out.size (bytesW_below _ d).size) 0 (by show ou4.length ≤ _; omega) _ d.size _ (bi d) (conv_src d _ hSz) (bytesW_ty _ d d.size)).mono ?_
            rintro x w8 ⟨rfl, h8, k8⟩
            rw [← HST.out]
            have KA8 := hide ((KA4.out.trans ((bytesW_below _ d).mono KA4.out.size)).trans k8)
            obtain ⟨ou2, s1, s2, s3⟩ := ro_sent h8 HST.out.symm HTB.out hTs HTL4.out hm4
            have S1 := hide s1
            have S2 := hide s2
            have cS8 := HCL.out _ KA8.out
            clear h8 k8 s1 s2
            go_wp2_with fail
            go_roundw
            case rel => exact ⟨k + 1, g2, I ++ T', true, ou2, by omega, rfl, rfl, rfl, by go_num, ⟨S1.out, KA8.out, S2.out, by rw [ByteArray.size_append]; first | (have := HDD.out; omega) | (have := HDD.out; have := HT0.out; omega), by omega, by omega, HOV4.out⟩⟩
            case measure => simp [Go.RowKit.intOf]; omega
    · have hkn : k = n1 := by omega
      have hm := HR.out.many
      have hfin : ((I.size : Int) ≤ gv) := hsz
      go_wp2_with fail
      refine (outs_B HR.out.port HR.out.below.size).mono ?_
      rintro x w5 ⟨a, cc, rfl, ho, h5, k5⟩
      have HO := hide ho
      have K5 := hide (HR.out.below.trans k5)
      have hoc := ho.hcap
      have hol : (RoP (gv - I.size) o ou).ou.length = ou.length := rfl
      rw [hol] at hoc ⊢
      obtain ⟨N, hN⟩ : ∃ N, N = ou.length := ⟨_, rfl⟩
      rw [← hN] at hoc hm ⊢
      have HN := hide hN
      clear ho h5 k5 hol hN
      have HOC : Hid (∀ W i, Below w5.heap.size w5 W → i < N → ∃ b o, a = some ⟨b, o, none⟩ ∧ W.cell? ⟨b, o + i * 10 + 1, none⟩ = some (.int .i64 (ou.getD i noOt).k) ∧ W.cell? ⟨b, o + i * 10 + 3, none⟩ = some (.string (ou.getD i noOt).d)) := fun W i kk hi => (HO.out.keep kk).cells (by rw [HN.out] at hi; exact hi)
      go_wp2_with fail
      go_loop [16, 18] (fun vt i => ∃ (j : Nat) (T : ByteArray), j ≤ N ∧ vt = .string T ∧ i = .int .i64 j ∧ Hid (bi T = tolB (ou.take j))) (fun _ i => N - (Go.RowKit.intOf i).toNat)
      case atStart => exact ⟨0, emp, Nat.zero_le _, rfl, rfl, rfl⟩
      case round =>
        obtain ⟨j, T, hj, rfl, rfl, HTL⟩ := hrel
        have hTz : T.size ≤ 6000000000 := by
          have h1 := congrArg List.length HTL.out
          rw [bi_length] at h1
          have h2 : (tolB (ou.take j)).length ≤ (tolB ou).length := by
            exact tolB_le ou j
          have h3 := congrArg List.length HR.out.told
          rw [bi_length] at h3
          omega
        by_cases hjl : j < N
        · obtain ⟨ob, oo, rfl, q1, q3⟩ := HOC.out _ j (Below.refl _ _) hjl
          have htk := tolB_take ou j (by rw [← HN.out]; exact hjl)
          obtain ⟨ok, hok⟩ : ∃ ok, ok = (ou.getD j noOt).k := ⟨_, rfl⟩
          obtain ⟨od, hod⟩ : ∃ od, od = (ou.getD j noOt).d := ⟨_, rfl⟩
          rw [← hok] at q1 htk
          rw [← hod] at q3 htk
          by_cases h2 : ok = 2
          · rw [if_pos h2] at htk
            have HTK := hide htk
            have hdz : od.size ≤ 6000000000 := by
              have h1 := congrArg List.length htk
              rw [List.length_append, bi_length] at h1
              have h2 : (tolB (ou.take (j + 1))).length ≤ (tolB ou).length := by
                exact tolB_le ou (j + 1)
              have h3 := congrArg List.length HR.out.told
              rw [bi_length] at h3
              omega
            have hg1 : ¬ (9223372036854775807 < T.size + od.size) := by omega
            have hg2 : ¬ (9223372036854775807 < (T.size : Int) + (od.size : Int)) := by omega
            subst h2
            clear htk hok hod
            go_wp2_with fail
            go_round
            case rel => exact ⟨j + 1, _, by omega, rfl, by go_num, by show bi _ = _; rw [bi_append, HTL.out, HTK.out]⟩
            case measure => simp [Go.RowKit.intOf]; omega
          · rw [if_neg h2, List.append_nil] at htk
            have HTK := hide htk
            have h22 : (ok == 2) = false := by simp [h2]
            clear htk hok hod
            go_wp2_with fail
            go_round
            case rel => exact ⟨j + 1, _, by omega, rfl, by go_num, by show bi _ = _; rw [HTL.out, HTK.out]⟩
            case measure => simp [Go.RowKit.intOf]; omega
        · have hTI : T = I := bi_inj (by rw [HTL.out, HR.out.told, List.take_of_length_le (by rw [← HN.out]; omega)])
          have HTI := hide hTI
          subst hTI
          go_wp2_with fail
          go_ret
          refine ⟨?_, B1.out.trans (K5.out.mono B1.out.size)⟩
          first | rfl | simp

end Go.Proofs.Ytjojhnkibgkleaa
