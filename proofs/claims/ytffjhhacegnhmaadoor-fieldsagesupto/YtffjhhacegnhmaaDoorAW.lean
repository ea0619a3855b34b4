/-
  FieldsAges' walk: the ages, the lengths and the directives of both are one; conditions as each theorem has them.
-/
import Derived.Test.YtffjhhacegnhmaaDoorRF
import Derived.Test.YtffjhhacegnhmaaDoorOW
set_option linter.unusedSimpArgs false
set_option linter.unusedVariables false
namespace Go.Proofs.YtffjhhacegnhmaaDoor
open Go.RowKit

theorem cms_size : ∀ (l : List Nat), ∀ p ∈ cms l, p.length ≤ l.length := by
  intro l
  induction h : l.length using Nat.strongRecOn generalizing l with
  | _ n ih =>
    intro p hp
    cases hf : fst 44 l with
    | none =>
      rw [cms_none hf] at hp
      rw [List.mem_singleton.1 hp]; omega
    | some k =>
      rw [cms_some hf] at hp
      rcases List.mem_cons.1 hp with rfl | hp
      · rw [List.length_take]; omega
      · have hk := (fst_lt hf).1
        have := ih (l.drop (k + 1)).length (by rw [List.length_drop]; omega) (l.drop (k + 1)) rfl p hp
        rw [List.length_drop] at this
        omega
theorem dirs_each : ∀ (fs : List Fd), (∀ f ∈ fs, f.2.length ≤ 2000000) → ∀ d ∈ dirs fs, d.length ≤ 2000000
  | [], _, k, hk => by simp [dirs, gat] at hk
  | f :: r, h, k, hk => by
    rw [dirs, gat, List.mem_append] at hk
    rcases hk with hk | hk
    · split at hk
      · obtain ⟨p, hp, hq⟩ := List.mem_filterMap.1 hk
        have h1 := cms_size f.2 p hp
        have h2 := trim_len p
        have h3 := h f List.mem_cons_self
        unfold rdD at hq
        split at hq
        · cases hq
        · cases hq; rw [low_length]; omega
      · simp at hk
    · exact dirs_each r (fun g hg => h g (List.mem_cons_of_mem _ hg)) k hk
set_option maxRecDepth 100000 in
set_option maxHeartbeats 8000000 in
theorem ages_walk (a : Option Addr) (n c : Nat) (fs : List Fd) (w : World) (hV : Vars w) (h : SrcF w a n c fs) (hsum : (fs.map fun f => f.1.length + f.2.length + 3).sum ≤ 1048576) :
    Calls Tryd.prog 4 #[.slice a n c] w fun e w' => e = .returned (.bool true) ∧ Below w.heap.size w w' := by
  obtain ⟨hfew, hfl⟩ := few_sum (fs := fs) hsum
  have hl := h.hlen
  have hcl := h.hcap
  have hmx := h.hmax
  unfold maxLen at hmx
  rw [hl] at hfl
  have hde := dirs_each fs (fun f hf => (hfew.name f hf).2)
  have HCP := hide (copyF_at a n c fs w h (by omega))
  have H := hide h
  have HV := hide hV
  have HL := hide hl
  have HOK := hide h.byte
  have HA2 := hide (fun W hs => rage_at a n c fs W hs hfew hde)
  have HL2 := hide (fun W hs => rlength_at a n c fs W hs hfew)
  have HD2 := hide (fun W hs => rdirectives_at a n c fs W hs hfew)
  have HA1 := hide (fun x m k W hv hs => age_at x m k fs W hv hs hfew)
  have HL1 := hide (fun x m k W hs => length_at x m k fs W hs hfew)
  have HD1 := hide (fun x m k W hv hs => directives_at x m k fs W hv hs hfew)
  obtain ⟨AG, hAG⟩ : ∃ x, x = agev fs := ⟨_, rfl⟩
  obtain ⟨LE, hLE⟩ : ∃ x, x = lenv fs := ⟨_, rfl⟩
  obtain ⟨DS, hDS⟩ : ∃ x, x = dirs fs := ⟨_, rfl⟩
  rw [← hAG] at HA2
  simp only [← hAG] at HA1
  rw [← hLE] at HL2
  simp only [← hLE] at HL1
  rw [← hDS] at HD2
  simp only [← hDS] at HD1
  obtain ⟨ag, ok⟩ := AG
  unfold ageV at HA1 HA2
  unfold two at HL1 HL2
  simp only at HA1 HA2
  generalize LE.getD 0 = le at HL1 HL2
  generalize LE.isSome = lk at HL1 HL2
  clear hAG hLE hDS hV h hfew hsum hl hde
  go_enter Tryd.func4, Tryd.ntmps4
  go_wp2_with fail
  refine HCP.out.mono ?_
  rintro e w1 ⟨v, rfl, o1, k1⟩
  obtain ⟨xo, co, rfl, so, _⟩ := o1.src HOK.out
  have S1 := hide so
  have B1 := hide k1
  rw [HL.out] at S1 ⊢
  clear o1 k1 HCP so
  go_wp2_with fail
  refine (HA1.out _ _ _ _ (HV.out.below B1.out) S1.out).mono ?_
  rintro e w2 ⟨rfl, k2⟩
  have B2 := hide (B1.out.trans (k2.mono B1.out.size))
  have S2 := hide (S1.out.below k2)
  clear k2 B1 S1 HA1
  go_wp2_with fail
  refine (HA2.out _ (H.out.below B2.out)).mono ?_
  rintro e w3 ⟨rfl, k3⟩
  have B3 := hide (B2.out.trans (k3.mono B2.out.size))
  have S3 := hide (S2.out.below k3)
  clear k3 B2 S2 HA2
  go_wp2_with fail
  refine (HL1.out _ _ _ _ S3.out).mono ?_
  rintro e w4 ⟨rfl, k4⟩
  have B4 := hide (B3.out.trans (k4.mono B3.out.size))
  have S4 := hide (S3.out.below k4)
  clear k4 B3 S3 HL1
  go_wp2_with fail
  refine (HL2.out _ (H.out.below B4.out)).mono ?_
  rintro e w5 ⟨rfl, k5⟩
  have B5 := hide (B4.out.trans (k5.mono B4.out.size))
  have S5 := hide (S4.out.below k5)
  clear k5 B4 S4 HL2
  go_wp2_with fail
  refine (HD1.out _ _ _ _ (HV.out.below B5.out) S5.out).mono ?_
  rintro e w6 ⟨v6, rfl, o6, k6⟩
  have B6 := hide (B5.out.trans (k6.mono B5.out.size))
  have S6 := hide (S5.out.below k6)
  obtain ⟨x6, c6, rfl, t6⟩ := own_srcV o6
  have T6 := hide t6
  clear k6 B5 S5 HD1 o6 t6
  rw [strs_length] at T6 ⊢
  go_wp2_with fail
  refine (HD2.out _ (H.out.below B6.out)).mono ?_
  rintro e w7 ⟨v7, rfl, o7, k7⟩
  have B7 := hide (B6.out.trans (k7.mono B6.out.size))
  have S7 := hide (S6.out.below k7)
  have T7 := hide (T6.out.below k7)
  obtain ⟨x7, c7, rfl, t7⟩ := own_srcV o7
  have U7 := hide t7
  clear k7 B6 S6 HD2 o7 t7 T6
  rw [strs_length] at U7 ⊢
  have HST := hide (same_texts w7 x6 x7 DS.length c6 c7 DS T7.out U7.out)
  obtain ⟨LD, hLD⟩ : ∃ x, x = DS.length := ⟨_, rfl⟩
  rw [← hLD] at HST ⊢
  clear T7 U7 hLD
  go_wp2_with fail
  refine HST.out.mono ?_
  rintro e w8 ⟨rfl, k8⟩
  have B8 := hide (B7.out.trans (k8.mono B7.out.size))
  have S8 := hide (S7.out.below k8)
  have HSF := hide (same_fields w8 xo a n co n c fs S8.out (H.out.below B8.out))
  clear k8 B7 S7 HST
  have z1 : ((ag : Int) == (ag : Int)) = true := by simp
  have z2 : ((le : Int) == (le : Int)) = true := by simp
  have z3 : (ok == ok) = true := by simp
  have z4 : (lk == lk) = true := by simp
  go_wp2_with fail
  refine HSF.out.mono ?_
  rintro e w9 ⟨rfl, k9⟩
  have B9 := hide (B8.out.trans (k9.mono B8.out.size))
  have HWK := hide (works_at w9 (HV.out.below B9.out))
  clear k9 B8 S8 HSF
  go_wp2_with fail
  refine HWK.out.mono ?_
  rintro e w10 ⟨rfl, k10⟩
  have B10 := hide (B9.out.trans (k10.mono B9.out.size))
  clear k10 B9 HWK
  go_wp2_with fail
  go_ret
  exact ⟨by first | rfl | simp, B10.out⟩
end Go.Proofs.YtffjhhacegnhmaaDoor
