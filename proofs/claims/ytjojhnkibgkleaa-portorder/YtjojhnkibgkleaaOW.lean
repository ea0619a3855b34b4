/-
  The walk of PortOrder: whatever came in, the call answers true and turns nothing that was there.
-/
import Derived.Test.YtjojhnkibgkleaaOV
set_option linter.unusedSimpArgs false
set_option linter.unusedVariables false
set_option maxRecDepth 8000
namespace Go.Proofs.Ytjojhnkibgkleaa
open Go.RowKit Go.Lib

set_option maxRecDepth 100000 in
set_option maxHeartbeats 4000000 in
theorem order_walk (x0 : Int) (a1 : Option Addr) (n1 c1 : Nat) (S : Nat → ByteArray) (a2 : Option Addr) (n2 c2 : Nat) (T : Nat → Int) (fin : Bool) (w : World) (hS : SrcS w a1 n1 c1 S) (hT : SrcN w a2 n2 c2 T) :
    Calls Try.prog 4 #[.int .i64 x0, .slice a1 n1 c1, .slice a2 n2 c2, .bool fin] w fun e w' => e = .returned (.bool true) ∧ Below w.heap.size w w' := by
  have hc1 := hS.hcap
  have hm1 := hS.hmax
  have hc2 := hT.hcap
  have hm2 := hT.hmax
  have HS := hide hS
  have HT := hide hT
  clear hS hT
  go_enter Try.func4, Try.ntmps4
  go_wp2_with fail
  refine (works_at _).mono ?_
  rintro x w1 ⟨rfl, hb⟩
  have B1 := hide hb
  clear hb
  go_wp2_with fail
  refine (among x0 200 (by omega) (by omega) _).mono ?_
  rintro x w2 ⟨s0, hs0, rfl, rfl⟩
  obtain ⟨sz, hsz⟩ : ∃ sz : Nat, sz = 1 + s0 := ⟨_, rfl⟩
  have hsz2 : (1 : Int) + (s0 : Int) = (sz : Int) := by omega
  have hz1 : 1 ≤ sz := by omega
  have hz2 : sz ≤ 200 := by omega
  clear hsz
  go_wp2_with fail
  refine (new_B (B := w1.heap.size) 2 1 sz w1 (Nat.le_refl _) (by omega) (by omega) hz1 (by omega)).mono ?_
  rintro x w3 ⟨b, rfl, hp, kb⟩
  have HP := hide hp
  have K3 := hide kb
  clear hp kb
  go_wp2_with fail
  refine (event_B HP.out K3.out.size 1 1 0 emp (by omega) (by decide) none 0 0).mono ?_
  rintro x w4 ⟨rfl, h4, k4⟩
  rw [ord_open] at h4
  have H4 := hide h4
  have K4 := hide (K3.out.trans k4)
  clear h4 k4
  go_wp2_with fail
  go_loopw [11, 12, 13] (fun vi vo i wr => ∃ (k : Nat) (I O : ByteArray) (q : List Int), k ≤ n1 ∧ vi = .string I ∧ vo = .string O ∧ i = .int .i64 k ∧ Hid (PB w1.heap.size wr b (OrdP sz q false)) ∧ Hid (Below w1.heap.size w1 wr) ∧ Hid (bi I = bi O ++ q) ∧ I.size ≤ k * 200) (fun _ _ i _ => n1 - (Go.RowKit.intOf i).toNat)
  case atStart => exact ⟨0, emp, emp, [], Nat.zero_le _, rfl, rfl, rfl, H4, K4, rfl, by decide⟩
  case round =>
    obtain ⟨k, I, O, q, hk, rfl, rfl, rfl, HJ, KJ, HI, hIs⟩ := hrel
    have hOs : O.size ≤ I.size := by rw [← bi_length I, HI.out, List.length_append, bi_length]; omega
    have hq := HJ.out.ok.e 1
    have hq : q.length ≤ sz := hq.q
    by_cases hlt : k < n1
    · obtain ⟨b1, o1, e1, cS, hSz⟩ := HS.out.at_ (B1.out.trans (KJ.out.mono B1.out.size)) hlt
      subst e1
      obtain ⟨d, hd⟩ : ∃ d, d = S k := ⟨_, rfl⟩
      rw [← hd] at cS hSz
      have HCL : Hid (∀ W, Below w1.heap.size w1 W → W.cell? ⟨b1, o1 + k, none⟩ = some (.string d)) := fun W kk => by
        obtain ⟨b', o', e', c', _⟩ := HS.out.at_ (B1.out.trans (kk.mono B1.out.size)) hlt
        simp at e'
        rw [e'.1, e'.2, hd]
        exact c'
      clear hd
      have hd63 : d.size ≤ 9223372036854775807 := by unfold maxLen at hSz; omega
      obtain ⟨t, ht⟩ : ∃ t, t = min d.size (sz - q.length) := ⟨_, rfl⟩
      have hnum := ord_data sz q d
      rw [← ht] at hnum
      have HNUM := hide hnum
      have htd : t ≤ d.size := by omega
      have htz : t ≤ 200 := by omega
      have HTT := hide ht
      clear ht hnum
      go_wp2_with fail
      refine (event_B HJ.out KJ.out.size 2 1 0 d (by omega) hSz none 0 0).mono ?_
      rintro x w5 ⟨rfl, h5, k5⟩
      rw [HNUM.out.1] at h5
      rw [HNUM.out.2.1, HNUM.out.2.2]
      have H5 := hide h5
      have K5 := hide (KJ.out.trans k5)
      clear h5 k5
      have cS5 := HCL.out _ K5.out
      obtain ⟨T', hTe⟩ : ∃ T', d.extract 0 t = T' := ⟨_, rfl⟩
      have hTs : T'.size = t := by rw [← hTe]; exact size_extract d t htd
      have HTB : Hid (bi T' = (bi d).take t) := by rw [← hTe]; exact bi_extract d t
      have htd2 : (t : Int) ≤ (d.size : Int) := by omega
      have hg1 : ¬ (9223372036854775807 < I.size + T'.size) := by omega
      have hg2 : ¬ (9223372036854775807 < (I.size : Int) + (T'.size : Int)) := by omega
      have hI2 : (I ++ T').size ≤ (k + 1) * 200 := by rw [ByteArray.size_append]; omega
      have HI2 : Hid (bi (I ++ T') = bi O ++ (q ++ (bi d).take t)) := by show bi _ = _; rw [bi_append, HI.out, HTB.out, List.append_assoc]
      obtain ⟨q2, hq2⟩ : ∃ q2, q2 = q ++ (bi d).take t := ⟨_, rfl⟩
      rw [← hq2] at H5 HI2
      have hq2b := H5.out.bytes (i := 1) (by show 1 < 3; omega)
      have hq2B : ∀ x ∈ q2, 0 ≤ x ∧ x < 256 := hq2b.1
      have hq2l : q2.length ≤ 65536 := hq2b.2
      have HQB := hide hq2B
      clear hq2 hq2b hq2B
      by_cases hk2 : k < n2
      · obtain ⟨b2, o2, e2, cT, hTb⟩ := HT.out.at_ (B1.out.trans (K5.out.mono B1.out.size)) hk2
        subst e2
        obtain ⟨tk, htk⟩ : ∃ tk, tk = T k := ⟨_, rfl⟩
        rw [← htk] at cT hTb
        have hnt := ord_take sz q2 false tk
        have HNT := hide hnt
        obtain ⟨m, hm⟩ : ∃ m, m = min tk.toNat q2.length := ⟨_, rfl⟩
        rw [← hm] at HNT
        have hmq : m ≤ q2.length := by omega
        have hg3 : (strOfNums (q2.take m)).size = m := by rw [str_size, List.length_take]; omega
        have hg4 : ¬ (9223372036854775807 < O.size + (strOfNums (q2.take m)).size) := by omega
        have hg5 : ¬ (9223372036854775807 < (O.size : Int) + ((strOfNums (q2.take m)).size : Int)) := by omega
        have HX : Hid (bi (I ++ T') = bi (O ++ strOfNums (q2.take m)) ++ q2.drop m) := by
          show bi _ = _
          rw [HI2.out, bi_append, bi_str _ (fun x hx => HQB.out x (List.mem_of_mem_take hx)), List.append_assoc, List.take_append_drop]
        clear htk hnt hm
        go_wp2_with fail
        refine (take_B H5.out K5.out.size 1 tk).mono ?_
        rintro x w6 ⟨v6, rfl, hm6, h6, k6⟩
        rw [HNT.out.1] at h6
        rw [HNT.out.2] at hm6
        obtain ⟨a6, c6, rfl, hs6, _⟩ := hm6.src (by rw [List.length_take]; unfold maxLen; omega) (fun x hx => HQB.out x (List.mem_of_mem_take hx))
        have hl6 : (q2.take m).length = m := by rw [List.length_take]; omega
        rw [hl6] at hs6 ⊢
        have hcv := run_str hs6
        have H6 := hide h6
        have K6 := hide (K5.out.trans k6)
        clear h6 k6 hm6 hs6
        go_wp2_with fail
        go_roundw
        case rel => exact ⟨k + 1, _, _, _, by omega, rfl, rfl, by go_num, H6.out, K6.out, HX.out, hI2⟩
        case measure => simp [Go.RowKit.intOf]; omega
      · go_wp2_with fail
        go_roundw
        case rel => exact ⟨k + 1, _, _, _, by omega, rfl, rfl, by go_num, H5.out, K5.out, HI2.out, hI2⟩
        case measure => simp [Go.RowKit.intOf]; omega
    · have hkn : k = n1 := by omega
      have HQL := hide ((HJ.out.bytes (i := 1) (by show 1 < 3; omega)) : (∀ x ∈ q, 0 ≤ x ∧ x < 256) ∧ q.length ≤ 65536)
      have hI3 : I.size ≤ 9223372036854775807 := by omega
      have hmin : min (1000 : Int).toNat q.length = q.length := by
        show min 1000 q.length = _
        omega
      have HPK : Hid (∀ o, takeL (OrdP sz q o) 1 1000 = q) := fun o => by
        rw [(ord_take sz q o 1000).2, hmin, List.take_length]
      have HIX : Hid (O ++ strOfNums q = I) := bi_inj (by rw [bi_append, bi_str q HQL.out.1, HI.out])
      have HIO : Hid ((I.toList == O.toList) = decide (q.length = 0)) := by
        show _ = _
        rw [list_eq, Bool.eq_iff_iff]
        simp only [decide_eq_true_eq]
        constructor
        · intro h
          have h2 := HI.out
          rw [h] at h2
          have := congrArg List.length h2
          simp at this
          simp [this]
        · intro h
          have : q = [] := List.eq_nil_of_length_eq_zero h
          subst this
          exact bi_inj (by rw [HI.out, List.append_nil])
      have hg6 : ¬ (9223372036854775807 < O.size + (strOfNums q).size) := by rw [str_size]; omega
      have hg7 : ¬ (9223372036854775807 < (O.size : Int) + ((strOfNums q).size : Int)) := by rw [str_size]; omega
      have HBG := fun W => hide (begins_at I O q HI.out hI3 W)
      clear hmin hkn
      cases fin
      · go_wp2_with fail
        refine (HBG _).out.mono ?_
        rintro x w5 ⟨rfl, rfl⟩
        go_wp2_with fail
        refine (peek_B HJ.out 1 1000).mono ?_
        rintro x w6 ⟨v6, rfl, hm6, k6⟩
        rw [HPK.out] at hm6
        obtain ⟨a6, c6, rfl, hs6, _⟩ := hm6.src (by unfold maxLen; omega) HQL.out.1
        have hcv := run_str hs6
        have H6 := hide (HJ.out.below k6)
        have K6 := hide (KJ.out.trans (k6.mono KJ.out.size))
        have hIX := HIX.out
        clear k6 hm6 hs6
        go_wp2_with fail
        refine (ended_B H6.out 1).mono ?_
        rintro x w7 ⟨rfl, k7⟩
        rw [ord_end]
        have K7 := hide (K6.out.trans (k7.mono K6.out.size))
        clear k7 hIX hcv
        go_wp2_with fail
        go_ret
        exact ⟨rfl, B1.out.trans (K7.out.mono B1.out.size)⟩
      · go_wp2_with fail
        refine (event_B HJ.out KJ.out.size 3 1 0 emp (by omega) (by decide) none 0 0).mono ?_
        rintro x w4' ⟨rfl, h4', k4'⟩
        rw [ord_fin] at h4'
        have H4' := hide h4'
        have K4' := hide (KJ.out.trans k4')
        clear h4' k4'
        go_wp2_with fail
        refine (event_B H4'.out K4'.out.size 2 1 0 ⟨#[108, 97, 116, 101]⟩ (by omega) (by decide) none 0 0).mono ?_
        rintro x w5' ⟨rfl, h5', k5'⟩
        obtain ⟨l1, l2, l3⟩ := ord_late sz q ⟨#[108, 97, 116, 101]⟩
        rw [l1] at h5'
        rw [l2, l3]
        have H5' := hide h5'
        have K5' := hide (K4'.out.trans k5')
        clear h5' k5' l1 l2 l3
        go_wp2_with fail
        refine (HBG _).out.mono ?_
        rintro x w5 ⟨rfl, rfl⟩
        go_wp2_with fail
        refine (peek_B H5'.out 1 1000).mono ?_
        rintro x w6 ⟨v6, rfl, hm6, k6⟩
        rw [HPK.out] at hm6
        obtain ⟨a6, c6, rfl, hs6, _⟩ := hm6.src (by unfold maxLen; omega) HQL.out.1
        have hcv := run_str hs6
        have H6 := hide (H5'.out.below k6)
        have K6 := hide (K5'.out.trans (k6.mono K5'.out.size))
        have hIX := HIX.out
        clear k6 hm6 hs6
        go_wp2_with fail
        refine (ended_B H6.out 1).mono ?_
        rintro x w7 ⟨rfl, k7⟩
        rw [ord_end]
        have K7 := hide (K6.out.trans (k7.mono K6.out.size))
        have hIO := HIO.out
        clear k7 hIX hcv
        go_wp2_with fail
        go_ret
        refine ⟨?_, B1.out.trans (K7.out.mono B1.out.size)⟩
        simp [hIO]

end Go.Proofs.Ytjojhnkibgkleaa
