/-
  sortedOut, Hops and Keep of package fields; conditions as each theorem has them.
-/
import Derived.Test.YtffjhhacegnhmaaGreatDoorFE
set_option linter.unusedSimpArgs false
set_option linter.unusedVariables false
namespace Go.Proofs.YtffjhhacegnhmaaGreatDoor
open Go.RowKit Go.Maps

theorem push_fld {wr : World} {B : Nat} {v : Value} {fs : List Fd} (f : Fd) (hown : OwnF wr B v fs) (hlen : fs.length ≤ 4000000) (hB : B ≤ wr.heap.size) :
    ∃ v' w', (Builtin.append_ #[22, 22] 22 #[v, .slice (some ⟨wr.heap.size, 0, none⟩) 1 1]).run Tryz.prog (wr.alloc (.cells #[.string (strN f.1), .string (strN f.2)] 43)) = .ok v' w' ∧ OwnF w' B v' (fs ++ [f]) ∧ Below B wr w' ∧ (∀ k, k < wr.heap.size → v.ownBlock ≠ some k → w'.heap[k]? = wr.heap[k]?) := by
  obtain ⟨o1, w1, hap1, ow1, bw1, kw1⟩ := own_appF (hown.below ((Below.refl _ _).alloc (Nat.le_refl _) (.cells #[.string (strN f.1), .string (strN f.2)] 43))) ⟨wr.heap.size, 0, none⟩ 1 1 [f] rfl
    (fun j u hu => by
      have hj := (List.getElem?_eq_some_iff.1 hu).1
      have hj2 : j < 2 := by simpa [fcs] using hj
      rw [add_none]
      have : j = 0 ∨ j = 1 := by omega
      rcases this with rfl | rfl
      · simp [fcs] at hu
        rw [← hu]; simp
      · simp [fcs] at hu
        rw [← hu]; simp) (by omega) (by simp; omega)
  exact ⟨o1, w1, hap1, ow1, ((Below.refl B wr).alloc hB _).trans bw1, fun k hk hne => (kw1 k (by simp; omega) hne).trans (Below.heap_alloc _ _ _ hk)⟩
theorem filter_snoc {α : Type} (p : α → Bool) (l : List α) (x : α) : (l ++ [x]).filter p = l.filter p ++ if p x = true then [x] else [] := by
  rw [List.filter_append]
  congr 1
  by_cases h : p x = true
  · simp [h]
  · simp [h]
set_option maxRecDepth 100000 in
set_option maxHeartbeats 8000000 in
theorem sortedOut_at (a : Option Addr) (n c : Nat) (fs : List Fd) (want : Bool) (w : World) (hV : Vars w) (h : SrcF w a n c fs) (hfew : Few fs) (hn : n ≤ 4000000) :
    Calls Tryz.prog 38 #[.slice a n c, .bool want] w fun e w' => ∃ v, e = .returned v ∧ OwnF w' w.heap.size v (fs.filter fun f => hopB fs f.1 == want) ∧ Below w.heap.size w w' := by
  have hcl := h.hcap
  have hmx := h.hmax
  unfold maxLen at hmx
  have H := hide h
  have HFEW := hide hfew
  have HH := hide (hopNames_at a n c fs w hV h hfew)
  clear h hV hfew
  go_enter Tryz.func38, Tryz.ntmps38
  go_wp2_with fail
  refine HH.out.mono ?_
  rintro e w0 ⟨b, m, rfl, hs, hb0⟩
  have S0 := hide hs
  have B0 := hide hb0
  have H0 := hide (H.out.below hb0)
  clear hs hb0 HH
  go_wp2_with fail
  go_loopw [6, 15] (fun v i wr => ∃ k : Nat, k ≤ n ∧ i = .int .i64 k ∧ Hid (OwnF wr w.heap.size v ((fs.take k).filter fun f => hopB fs f.1 == want) ∧ IsSet wr b m (hopN fs) ∧ Below w.heap.size w wr)) (fun _ i _ => n - (intOf i).toNat)
  case atStart => exact ⟨0, by omega, rfl, OwnF.nilS _ _, S0.out, B0.out⟩
  case round =>
    obtain ⟨k, hk, rfl, HI⟩ := hrel
    obtain ⟨j1, j2, j3⟩ := HI.out
    by_cases hkn : k < n
    · have hdk : decide ((k : Int) < (n : Int)) = true := decide_eq_true (by omega)
      have s1 := H.out.keep (w' := wr) (fun h0 b o e => j3.block b (H.out.lt h0 e)) j3.size
      obtain ⟨b', o, rfl, c0, c1⟩ := s1.at_ hkn
      rw [Nat.mul_comm 2 k] at c0 c1
      have hkl : k < fs.length := by rw [H.out.hlen]; exact hkn
      have hmem : fs.getD k ([], []) ∈ fs := getD_mem hkl
      have hby := H.out.byte _ hmem
      have hfl := HFEW.out.name _ hmem
      have HSN := hide (filter_snoc (fun f : Fd => hopB fs f.1 == want) (fs.take k) (fs.getD k ([], [])))
      rw [← ftake_snoc fs k hkl] at HSN
      have hfl2 : ((fs.take k).filter fun f => hopB fs f.1 == want).length ≤ 4000000 := by
        have h1 := List.length_filter_le (fun f : Fd => hopB fs f.1 == want) (fs.take k)
        have h2 := List.length_take_le k fs
        omega
      obtain ⟨fd, hf0⟩ : ∃ f, f = fs.getD k ([], []) := ⟨_, rfl⟩
      rw [← hf0] at c0 c1 hby hfl HSN
      obtain ⟨p, q⟩ := fd
      simp only at c0 c1 hby hfl HSN
      have HSA : Hid (∀ W, Calls Tryz.prog 55 #[.string (strN p)] W fun e w' => e = .returned (.string (strN (low p))) ∧ Below W.heap.size W w') := fun W => by
        have := fsmall_at (strN p) W (by rw [strN_size]; have := hfl.1; omega)
        rw [byt_strN p hby.1] at this; exact this
      have HLK : Hid (∀ W, IsSet W b m (hopN fs) → (Instr.lookup 92 (.map (some b)) (.string (strN (low p))) true).run Tryz.prog W = .ok (.tuple #[.agg #[], .bool (hopB fs p)]) W) := fun W hW => by
        have := hW.look (strN (low p)) (by rw [strN_size, low_length]; have := hfl.1; unfold maxLen; omega)
        rw [byt_strN _ (low_lt hby.1)] at this
        exact this
      obtain ⟨hp, hhp⟩ : ∃ x, x = hopB fs p := ⟨_, rfl⟩
      rw [← hhp] at HLK HSN
      obtain ⟨P, hP⟩ : ∃ x, x = strN p := ⟨_, rfl⟩
      obtain ⟨R, hR⟩ : ∃ x, x = strN q := ⟨_, rfl⟩
      obtain ⟨LP, hLP⟩ : ∃ x, x = strN (low p) := ⟨_, rfl⟩
      rw [← hP] at c0 HSA
      rw [← hR] at c1
      rw [← hLP] at HLK HSA
      have HPR : Hid (P = strN p ∧ R = strN q) := ⟨hP, hR⟩
      obtain ⟨G, hG⟩ : ∃ G, G = wr.heap.size := ⟨_, rfl⟩
      obtain ⟨W1, hW1⟩ : ∃ W, W = wr.alloc (.cells #[.string P, .string R] 43) := ⟨_, rfl⟩
      have b1 : Below wr.heap.size wr W1 := by rw [hW1]; exact (Below.refl _ _).alloc (Nat.le_refl _) _
      have g1 : W1.heap[G]? = some (.cells #[.string P, .string R] 43) := by rw [hW1, hG]; exact alloc_new _ _
      have B1 := hide (j3.trans (b1.mono j3.size))
      have O1 := hide (j1.below b1)
      have S1 := hide (j2.below b1)
      have G1 := hide g1
      have HW1 : Hid (wr.alloc (.cells #[.string P, .string R] 43) = W1) := hW1.symm
      have HG := hide hG.symm
      have e0 : W1.cell? ⟨G, 0, none⟩ = some (.string P) := by simp [World.cell?, g1]
      clear hkl hmem hby hfl hf0 hP hR hLP s1 hG hW1 b1 g1 hhp j1 j2 j3 HI
      go_wp2_with (first | (rw [HW1.out, HG.out]))
      try (rw [HW1.out, HG.out]; go_wp2_with fail)
      refine (HSA.out _).mono ?_
      rintro e w2 ⟨rfl, hb2⟩
      have hg2 := keepB hb2 G1.out
      have hGl : G < w2.heap.size := lt_of_some hg2
      have d0 : w2.cell? ⟨G, 0, none⟩ = some (.string P) := by simp [World.cell?, hg2]
      have d1 : w2.cell? ⟨G, 1, none⟩ = some (.string R) := by simp [World.cell?, hg2]
      have B2 := hide (B1.out.trans (hb2.mono B1.out.size))
      have S2 := hide (S1.out.below hb2)
      have hlk := HLK.out w2 S2.out
      have ba : Below w2.heap.size w2 (w2.alloc (.cells #[] 94)) := (Below.refl _ _).alloc (Nat.le_refl _) _
      have B3 := hide (B2.out.trans (ba.mono B2.out.size))
      have S3 := hide (S2.out.below ba)
      have O3 := hide ((O1.out.below hb2).below ba)
      obtain ⟨v4, w4, hap, ho4, hb4, hk4⟩ := push_fld (p, q) O3.out hfl2 B3.out.size
      rw [show (strN (p, q).1) = P from HPR.out.1.symm, show (strN (p, q).2) = R from HPR.out.2.symm, show (w2.alloc (.cells #[] 94)).heap.size = w2.heap.size + 1 by simp] at hap
      have HAP := hide hap
      have O4 := hide ho4
      have B4 := hide (B3.out.trans hb4)
      have S4 : Hid (IsSet w4 b m (hopN fs)) := by
        have s3 := S3.out
        refine ⟨?_, s3.byte⟩
        obtain ⟨es, clock, hb, F, hs, e⟩ := s3.own
        refine ⟨es, clock, (hk4 b (lt_of_some hb) (fun ho => ?_)).trans hb, F, hs, e⟩
        obtain ⟨_, cur, hcur⟩ := O3.out.block ho
        rw [hb] at hcur
        cases hcur
      clear hb2 hg2 HSA HLK e0 c0 c1 B1 O1 S1 ba hap ho4 hb4 hk4 B2 S2
      cases hp with
      | true =>
        cases want with
        | true =>
          have HR : Hid ((fs.take (k + 1)).filter (fun f => hopB fs f.1 == true) = (fs.take k).filter (fun f => hopB fs f.1 == true) ++ [(p, q)]) := HSN.out
          go_wp2_with (refine wpList_app_run _ rfl _ _ 22 22 rfl _ _ rfl rfl HAP.out ?_)
          go_roundw
          case rel => exact ⟨k + 1, by omega, by go_num, by rw [HR.out]; exact O4.out, S4.out, B4.out⟩
          case measure => simp [intOf]; omega
        | false =>
          have HR : Hid ((fs.take (k + 1)).filter (fun f => hopB fs f.1 == false) = (fs.take k).filter (fun f => hopB fs f.1 == false)) := by
            show _ = _
            rw [HSN.out]; exact List.append_nil _
          go_wp2_with fail
          go_roundw
          case rel => exact ⟨k + 1, by omega, by go_num, by rw [HR.out]; exact O3.out, S3.out, B3.out⟩
          case measure => simp [intOf]; omega
      | false =>
        cases want with
        | true =>
          have HR : Hid ((fs.take (k + 1)).filter (fun f => hopB fs f.1 == true) = (fs.take k).filter (fun f => hopB fs f.1 == true)) := by
            show _ = _
            rw [HSN.out]; exact List.append_nil _
          go_wp2_with fail
          go_roundw
          case rel => exact ⟨k + 1, by omega, by go_num, by rw [HR.out]; exact O3.out, S3.out, B3.out⟩
          case measure => simp [intOf]; omega
        | false =>
          have HR : Hid ((fs.take (k + 1)).filter (fun f => hopB fs f.1 == false) = (fs.take k).filter (fun f => hopB fs f.1 == false) ++ [(p, q)]) := HSN.out
          go_wp2_with (refine wpList_app_run _ rfl _ _ 22 22 rfl _ _ rfl rfl HAP.out ?_)
          go_roundw
          case rel => exact ⟨k + 1, by omega, by go_num, by rw [HR.out]; exact O4.out, S4.out, B4.out⟩
          case measure => simp [intOf]; omega
    · have hdk : decide ((k : Int) < (n : Int)) = false := decide_eq_false (by omega)
      have HF : Hid (fs.take k = fs) := by show _ = _; exact List.take_of_length_le (by rw [H.out.hlen]; omega)
      rw [HF.out] at j1
      have J1 := hide j1
      have J3 := hide j3
      clear j1 j2 j3 HI
      go_wp2_with fail
      go_ret
      exact ⟨_, rfl, J1.out, J3.out⟩
theorem keep_at (a : Option Addr) (n c : Nat) (fs : List Fd) (w : World) (hV : Vars w) (h : SrcF w a n c fs) (hfew : Few fs) :
    Calls Tryz.prog 21 #[.slice a n c] w fun e w' => ∃ v, e = .returned (.tuple #[v, .int .i64 ((somE fs false).2 : Nat)]) ∧ OwnF w' w.heap.size v (somE fs false).1 ∧ Below w.heap.size w w' := by
  have hl := h.hlen
  by_cases h64 : 64 < n
  · have q1 : decide (64 < (n : Int)) = true := decide_eq_true (by omega)
    have q2 : decide (64 < n) = true := decide_eq_true (by omega)
    have HE : Hid (somE fs false = ([], 3)) := by show _ = _; unfold somE; rw [if_pos (by omega)]
    clear hl h hfew
    go_enter Tryz.func21, Tryz.ntmps21
    go_wp2_with fail
    go_ret2
    exact ⟨_, by rw [HE.out]; rfl, by rw [HE.out]; exact OwnF.nilS _ _, Below.refl _ _⟩
  · have q1 : decide (64 < (n : Int)) = false := decide_eq_false (by omega)
    have q2 : decide (64 < n) = false := decide_eq_false (by omega)
    have HE : Hid (somE fs false = (fs.filter (fun f => hopB fs f.1 == false), 0)) := by show _ = _; unfold somE; rw [if_neg (by omega)]
    have HS := hide (sortedOut_at a n c fs false w hV h hfew (by omega))
    clear hl h hfew
    go_enter Tryz.func21, Tryz.ntmps21
    go_wp2_with fail
    refine HS.out.mono ?_
    rintro e w1 ⟨v, rfl, ho, hb⟩
    have O := hide ho
    have B := hide hb
    clear ho hb HS
    go_wp2_with fail
    go_ret2
    exact ⟨_, by rw [HE.out]; rfl, by rw [HE.out]; exact O.out, B.out⟩
end Go.Proofs.YtffjhhacegnhmaaGreatDoor
