/-
  Add of package fields, and the reference's; conditions as each theorem has them.
-/
import Derived.Test.YtffjhhacegnhmaaGreatDoorCC
import Derived.Test.YtffjhhacegnhmaaGreatDoorKW
import Derived.Test.YtffjhhacegnhmaaGreatDoorHN
import Derived.Test.YtffjhhacegnhmaaGreatDoorRT
import Derived.Test.YtffjhhacegnhmaaGreatDoorPR
set_option linter.unusedSimpArgs false
set_option linter.unusedVariables false
namespace Go.Proofs.YtffjhhacegnhmaaGreatDoor
open Go.RowKit

/-- A field added. -/
def addv (fs : List Fd) (s t : List Nat) : List Fd × Nat := if tok s = true ∧ value t = true then if fs.length < 64 then (fs ++ [(s, t)], 0) else ([], 3) else ([], 2)
theorem OwnF.lower {w : World} {B B' : Nat} {v : Value} {fs : List Fd} (h : OwnF w B' v fs) (hB : B ≤ B') : OwnF w B v fs := by
  refine ⟨h.1, ?_⟩
  rcases h.2 with h0 | ⟨x, cap, cur, hv, hx, hrest⟩
  · exact Or.inl h0
  · exact Or.inr ⟨x, cap, cur, hv, by omega, hrest⟩
theorem lie_two {w : World} {a : Option Addr} {n c : Nat} {fs : List Fd} (s t : ByteArray) (h : SrcF w a n c fs) :
    Lie ((w.alloc (.cells #[.string s, .string t] 43)).alloc (.cells #[.slice a n c, .slice (some ⟨w.heap.size, 0, none⟩) 1 1] 22)) (w.heap.size + 1) [⟨a, n, c, fs⟩, ⟨some ⟨w.heap.size, 0, none⟩, 1, 1, [(byt s, byt t)]⟩] := by
  have b1 : Below w.heap.size w (w.alloc (.cells #[.string s, .string t] 43)) := (Below.refl _ _).alloc (Nat.le_refl _) _
  have b2 : Below w.heap.size w ((w.alloc (.cells #[.string s, .string t] 43)).alloc (.cells #[.slice a n c, .slice (some ⟨w.heap.size, 0, none⟩) 1 1] 22)) := b1.alloc (by simp) _
  have r0 : ((w.alloc (.cells #[.string s, .string t] 43)).alloc (.cells #[.slice a n c, .slice (some ⟨w.heap.size, 0, none⟩) 1 1] 22)).heap[w.heap.size]? = some (.cells #[.string s, .string t] 43) := alloc_old _ (alloc_new _ _)
  have r1 : ((w.alloc (.cells #[.string s, .string t] 43)).alloc (.cells #[.slice a n c, .slice (some ⟨w.heap.size, 0, none⟩) 1 1] 22)).heap[w.heap.size + 1]? = some (.cells #[.slice a n c, .slice (some ⟨w.heap.size, 0, none⟩) 1 1] 22) := alloc_new2 _ _ _
  refine ⟨lt_of_some r1, fun i hi => ?_, fun i hi => ?_⟩
  · have : i = 0 ∨ i = 1 := by simp at hi; omega
    rcases this with rfl | rfl
    · simp only [World.cell?, r1]; rfl
    · simp only [World.cell?, r1]; rfl
  · have : i = 0 ∨ i = 1 := by simp at hi; omega
    rcases this with rfl | rfl
    · exact h.below b2
    · refine ⟨rfl, by simp, by simp [maxLen], (fun e => by cases e), fun _ => ⟨w.heap.size, 0, rfl, lt_of_some r0, fun j u hu => ?_⟩, fun f hf => ?_⟩
      · have hj := (List.getElem?_eq_some_iff.1 hu).1
        have hj2 : j < 2 := by simpa [fcs] using hj
        have : j = 0 ∨ j = 1 := by omega
        rcases this with rfl | rfl
        · simp [fcs, strN_byt] at hu
          rw [← hu]; simp only [World.cell?, r0]; rfl
        · simp [fcs, strN_byt] at hu
          rw [← hu]; simp only [World.cell?, r0]; rfl
      · have hf' : f = (byt s, byt t) := by simpa using hf
        rw [hf']; exact ⟨byt_lt s, byt_lt t⟩
set_option maxRecDepth 100000 in
set_option maxHeartbeats 2000000 in
theorem add_at (a : Option Addr) (n c : Nat) (fs : List Fd) (s t : ByteArray) (w : World) (h : SrcF w a n c fs) (hs : s.size ≤ maxLen) (ht : t.size ≤ maxLen) :
    Calls Tryz.prog 5 #[.slice a n c, .string s, .string t] w fun e w' => ∃ v, e = .returned (.tuple #[v, .int .i64 ((addv fs (byt s) (byt t)).2 : Nat)]) ∧ OwnF w' w.heap.size v (addv fs (byt s) (byt t)).1 ∧ Below w.heap.size w w' := by
  have HT := hide (token_at s w hs)
  have HVA := hide (fun W => value_at t W ht)
  have hl := h.hlen
  have HA : Hid (addv fs (byt s) (byt t) = if tok (byt s) = true ∧ value (byt t) = true then if fs.length < 64 then (fs ++ [(byt s, byt t)], 0) else ([], 3) else ([], 2)) := rfl
  rw [hl] at HA
  obtain ⟨A, hA⟩ : ∃ x, x = addv fs (byt s) (byt t) := ⟨_, rfl⟩
  rw [← hA] at HA ⊢
  obtain ⟨b1, h1⟩ : ∃ x, x = tok (byt s) := ⟨_, rfl⟩
  obtain ⟨b2, h2⟩ : ∃ x, x = value (byt t) := ⟨_, rfl⟩
  rw [← h1] at HT HA
  rw [← h2] at HVA HA
  have H := hide h
  clear hA h1 h2 hs ht h hl
  go_enter Tryz.func5, Tryz.ntmps5
  go_wp2_with fail
  refine HT.out.mono ?_
  rintro e w1 ⟨rfl, k1⟩
  have B1 := hide k1
  clear k1 HT
  cases b1 with
  | false =>
    rw [if_neg (by simp)] at HA
    go_wp2_with fail
    go_ret2
    rw [HA.out]
    exact ⟨_, rfl, OwnF.nilS _ _, B1.out⟩
  | true =>
    go_wp2_with fail
    refine (HVA.out _).mono ?_
    rintro e w2 ⟨rfl, k2⟩
    have B2 := hide (B1.out.trans (k2.mono B1.out.size))
    clear k2 HVA B1
    cases b2 with
    | false =>
      rw [if_neg (by simp)] at HA
      go_wp2_with fail
      go_ret2
      rw [HA.out]
      exact ⟨_, rfl, OwnF.nilS _ _, B2.out⟩
    | true =>
      rw [if_pos (by simp)] at HA
      by_cases hn : n < 64
      · rw [if_pos hn] at HA
        have q1 : decide ((64 : Int) ≤ (n : Int)) = false := decide_eq_false (by omega)
        have q2 : decide (64 ≤ n) = false := decide_eq_false (by omega)
        have HCC := hide (concat_at (w2.heap.size + 1) 2 2 _ _ rfl (by omega) (by omega) (lie_two s t (H.out.below B2.out)) (by simp [sumN]; omega))
        have HAL : Hid (allL [⟨a, n, c, fs⟩, ⟨some ⟨w2.heap.size, 0, none⟩, 1, 1, [(byt s, byt t)]⟩] = fs ++ [(byt s, byt t)]) := by
          show _ = _
          simp [allL]
        rw [HAL.out] at HCC
        have HBW : Hid (Below w.heap.size w ((w2.alloc (.cells #[.string s, .string t] 43)).alloc (.cells #[.slice a n c, .slice (some ⟨w2.heap.size, 0, none⟩) 1 1] 22))) := (B2.out.alloc B2.out.size _).alloc (by have := B2.out.size; simp; omega) _
        clear HAL hn
        go_wp2_with fail
        refine HCC.out.mono ?_
        rintro e w3 ⟨v, rfl, o3, k3⟩
        have O3 := hide (o3.lower HBW.out.size)
        have B3 := hide (HBW.out.trans (k3.mono HBW.out.size))
        clear o3 k3 HCC HBW
        go_wp2_with fail
        go_ret2
        rw [HA.out]
        exact ⟨_, rfl, O3.out, B3.out⟩
      · rw [if_neg hn] at HA
        have q1 : decide ((64 : Int) ≤ (n : Int)) = true := decide_eq_true (by omega)
        have q2 : decide (64 ≤ n) = true := decide_eq_true (by omega)
        clear hn
        go_wp2_with fail
        go_ret2
        rw [HA.out]
        exact ⟨_, rfl, OwnF.nilS _ _, B2.out⟩
set_option maxRecDepth 100000 in
set_option maxHeartbeats 2000000 in
theorem radd_at (a : Option Addr) (n c : Nat) (fs : List Fd) (s t : ByteArray) (w : World) (h : SrcF w a n c fs) (hs : s.size ≤ 140737488355328) (ht : t.size ≤ 140737488355328) :
    Calls Tryz.prog 6 #[.slice a n c, .string s, .string t] w fun e w' => ∃ v, e = .returned (.tuple #[v, .int .i64 ((addv fs (byt s) (byt t)).2 : Nat)]) ∧ OwnF w' w.heap.size v (addv fs (byt s) (byt t)).1 ∧ Below w.heap.size w w' := by
  have HT := hide (rtoken_at s w hs)
  have HVA := hide (fun W => rvalue_at t W ht)
  have hl := h.hlen
  have HA : Hid (addv fs (byt s) (byt t) = if tok (byt s) = true ∧ value (byt t) = true then if fs.length < 64 then (fs ++ [(byt s, byt t)], 0) else ([], 3) else ([], 2)) := rfl
  rw [hl] at HA
  obtain ⟨A, hA⟩ : ∃ x, x = addv fs (byt s) (byt t) := ⟨_, rfl⟩
  rw [← hA] at HA ⊢
  obtain ⟨b1, h1⟩ : ∃ x, x = tok (byt s) := ⟨_, rfl⟩
  obtain ⟨b2, h2⟩ : ∃ x, x = value (byt t) := ⟨_, rfl⟩
  rw [← h1] at HT HA
  rw [← h2] at HVA HA
  have H := hide h
  have HL := hide hl
  clear hA h1 h2 hs ht h hl
  go_enter Tryz.func6, Tryz.ntmps6
  go_wp2_with fail
  refine HT.out.mono ?_
  rintro e w1 ⟨rfl, k1⟩
  have B1 := hide k1
  clear k1 HT
  cases b1 with
  | false =>
    rw [if_neg (by simp)] at HA
    go_wp2_with fail
    go_ret2
    rw [HA.out]
    exact ⟨_, rfl, OwnF.nilS _ _, B1.out⟩
  | true =>
    go_wp2_with fail
    refine (HVA.out _).mono ?_
    rintro e w2 ⟨rfl, k2⟩
    have B2 := hide (B1.out.trans (k2.mono B1.out.size))
    clear k2 HVA B1
    cases b2 with
    | false =>
      rw [if_neg (by simp)] at HA
      go_wp2_with fail
      go_ret2
      rw [HA.out]
      exact ⟨_, rfl, OwnF.nilS _ _, B2.out⟩
    | true =>
      rw [if_pos (by simp)] at HA
      by_cases hn : n < 64
      · rw [if_pos hn] at HA
        have q1 : decide ((64 : Int) ≤ (n : Int)) = false := decide_eq_false (by omega)
        have q2 : decide (64 ≤ n) = false := decide_eq_false (by omega)
        have HCP : Hid (∀ W, Below w2.heap.size w2 W → Calls Tryz.prog 4 #[.slice a n c] W fun e w' => ∃ v, e = .returned v ∧ OwnF w' W.heap.size v fs ∧ Below W.heap.size W w') := fun W hW => copyF_at a n c fs W (H.out.below (B2.out.trans (hW.mono B2.out.size))) (by omega)
        have hfl : fs.length ≤ 4000000 := by rw [HL.out]; omega
        clear hn
        go_wp2_with fail
        refine (HCP.out _ (Below.refl _ _)).mono ?_
        rintro e w3 ⟨v3, rfl, o3, k3⟩
        have B3 := hide (B2.out.trans (k3.mono B2.out.size))
        obtain ⟨v4, w4, a4, o4, b4, _⟩ := push_fld (byt s, byt t) (o3.lower B2.out.size) hfl B3.out.size
        simp only [strN_byt] at a4
        have A4 := hide a4
        have O4 := hide o4
        have B4 := hide (B3.out.trans b4)
        clear a4 o4 b4 o3 k3 HCP
        go_wp2_with (refine wpList_app_run _ rfl _ _ 22 22 rfl _ _ rfl rfl A4.out ?_)
        go_ret2
        rw [HA.out]
        exact ⟨_, rfl, O4.out, B4.out⟩
      · rw [if_neg hn] at HA
        have q1 : decide ((64 : Int) ≤ (n : Int)) = true := decide_eq_true (by omega)
        have q2 : decide (64 ≤ n) = true := decide_eq_true (by omega)
        clear hn
        go_wp2_with fail
        go_ret2
        rw [HA.out]
        exact ⟨_, rfl, OwnF.nilS _ _, B2.out⟩
set_option maxRecDepth 100000 in
set_option maxHeartbeats 4000000 in
theorem rkey_at (m : ByteArray) (A : Ad) (h : ByteArray) (p : Int) (t : ByteArray) (x : Option Addr) (n c : Nat) (fs : List Fd) (w : World) (ha : A.ok) (hm : m.size ≤ 140737488351232) (hh : h.size ≤ maxLen) (ht : t.size ≤ 140737488351232) (hs : SrcF w x n c fs) (hfm : ∀ f ∈ fs, f.1.length ≤ 140737488351232 ∧ f.2.length ≤ 140737488351232) :
    Calls Tryz.prog 8 #[rqV m A h p t (.slice x n c)] w fun e w' => e = .returned (.tuple #[.string (strN (keyv (byt m) (det A (byt h) p) (byt t) fs).1), .int .i64 ((keyv (byt m) (det A (byt h) p) (byt t) fs).2 : Nat)]) ∧ Below w.heap.size w w' := by
  obtain ⟨A0, A1, A2, A3⟩ := A
  unfold rqV
  obtain ⟨G0, hG0⟩ : ∃ G, G = w.heap.size := ⟨_, rfl⟩
  obtain ⟨W0, hW0⟩ : ∃ W, W = w.alloc (.cells #[.string m, .int .u8 (A0 : Nat), .int .u8 (A1 : Nat), .int .u8 (A2 : Nat), .int .u8 (A3 : Nat), .string h, .int .i64 p, .string t, .slice x n c] 30) := ⟨_, rfl⟩
  have b0 : Below w.heap.size w W0 := by rw [hW0]; exact (Below.refl _ _).alloc (Nat.le_refl _) _
  have g0 : W0.heap[G0]? = some (.cells #[.string m, .int .u8 (A0 : Nat), .int .u8 (A1 : Nat), .int .u8 (A2 : Nat), .int .u8 (A3 : Nat), .string h, .int .i64 p, .string t, .slice x n c] 30) := by rw [hW0, hG0]; exact alloc_new _ _
  have HW0 : Hid (w.alloc (.cells #[.string m, .int .u8 (A0 : Nat), .int .u8 (A1 : Nat), .int .u8 (A2 : Nat), .int .u8 (A3 : Nat), .string h, .int .i64 p, .string t, .slice x n c] 30) = W0) := hW0.symm
  have HG0 := hide hG0.symm
  have R0 := hide g0
  have B0 := hide b0
  have heq := toList_byt m [71, 69, 84]
  rw [show ([71, 69, 84] : List UInt8).map UInt8.toNat = getM from rfl] at heq
  have HPQ := hide (rputRequest_at m (A0, A1, A2, A3) h p t x n c fs W0 ha hm hh ht (hs.below b0) hfm)
  have HPD := hide (fun W => rprintDest_at (A0, A1, A2, A3) h p W ha hh)
  have hdl := det_len (A0, A1, A2, A3) (byt h) p ha
  obtain ⟨D, hD⟩ : ∃ D, D = det (A0, A1, A2, A3) (byt h) p := ⟨_, rfl⟩
  rw [← hD] at HPQ HPD hdl ⊢
  have HK : Hid (keyv (byt m) D (byt t) fs = if byt m = getM ∧ (putQ (byt m) D (byt t) fs).2 = 0 then (D ++ byt t, 0) else ([], 2)) := rfl
  obtain ⟨K, hK⟩ : ∃ K, K = keyv (byt m) D (byt t) fs := ⟨_, rfl⟩
  rw [← hK] at HK ⊢
  obtain ⟨L, hL⟩ : ∃ L, L = (putQ (byt m) D (byt t) fs).1.length := ⟨_, rfl⟩
  obtain ⟨E, hE⟩ : ∃ E, E = (putQ (byt m) D (byt t) fs).2 := ⟨_, rfl⟩
  rw [← hE] at HK
  have HPQ : Hid (Calls Tryz.prog 19 #[.agg #[.string m, .int .u8 (A0 : Nat), .int .u8 (A1 : Nat), .int .u8 (A2 : Nat), .int .u8 (A3 : Nat), .string h, .int .i64 p, .string t, .slice x n c]] W0 fun e w' => ∃ a c, e = .returned (.tuple #[.slice a L c, .int .i64 (E : Nat)]) ∧ Below W0.heap.size W0 w') := by
    refine HPQ.out.mono ?_
    rintro e w' ⟨a1, c1, rfl, _, hb⟩
    exact ⟨a1, c1, by rw [hL, hE], hb⟩
  have HAD : Hid (∀ r, r = strN D ++ t → r = strN (D ++ byt t)) := fun r hr => by rw [hr, strN_append, strN_byt]
  obtain ⟨SD, hSD⟩ : ∃ S, S = strN D := ⟨_, rfl⟩
  have hsd : SD.size ≤ 1000 := by rw [hSD, strN_size]; omega
  rw [← hSD] at HAD
  simp only [← hSD] at HPD
  unfold deV at HPD
  simp only at HPD
  clear hD hK hL hE hW0 hG0 g0 b0 ha hm hh hs hfm hSD
  go_enter Tryz.func8, Tryz.ntmps8
  go_wp2_with (first | (rw [HW0.out, HG0.out]) | (refine wpList_load_rowG (by rfl) 30 _ rfl G0 rfl 30 _ (0, 0) _ R0.out Tryz.underlying30 rfl info44 ?_))
  try (rw [HW0.out, HG0.out]; go_wp2_with (first | (refine wpList_load_rowG (by rfl) 30 _ rfl G0 rfl 30 _ (0, 0) _ R0.out Tryz.underlying30 rfl info44 ?_)))
  refine HPQ.out.mono ?_
  rintro e w1 ⟨a1, c1, rfl, hb1⟩
  have B1 := hide (B0.out.trans (hb1.mono B0.out.size))
  have R1 := hide (keepB hb1 R0.out)
  have r1 := R1.out
  have c0 : w1.cell? ⟨G0, 0, none⟩ = some (.string m) := by simp [World.cell?, r1]
  have c7 : w1.cell? ⟨G0, 7, none⟩ = some (.string t) := by simp [World.cell?, r1]
  clear hb1 HPQ r1 R0
  by_cases hg : byt m = getM
  · rw [decide_eq_true hg] at heq
    by_cases hz : E = 0
    · rw [if_pos ⟨hg, hz⟩] at HK
      subst hz
      clear hg
      have r1 := R1.out
      have c1' : w1.cell? ⟨G0, 1, none⟩ = some (.int .u8 (A0 : Nat)) := by simp [World.cell?, r1]
      have c2 : w1.cell? ⟨G0, 2, none⟩ = some (.int .u8 (A1 : Nat)) := by simp [World.cell?, r1]
      have c3 : w1.cell? ⟨G0, 3, none⟩ = some (.int .u8 (A2 : Nat)) := by simp [World.cell?, r1]
      have c4 : w1.cell? ⟨G0, 4, none⟩ = some (.int .u8 (A3 : Nat)) := by simp [World.cell?, r1]
      have c5 : w1.cell? ⟨G0, 5, none⟩ = some (.string h) := by simp [World.cell?, r1]
      have c6 : w1.cell? ⟨G0, 6, none⟩ = some (.int .i64 p) := by simp [World.cell?, r1]
      have hGl : G0 < w1.heap.size := lt_of_some r1
      clear r1
      go_wp2_with fail
      go_region_with (first
        | (go_at_call 20; refine (HPD.out _).mono ?_; rintro e w3 ⟨rfl, k3⟩; have k3a : Below w1.heap.size w1 w3 := ⟨k3.os, k3.tape, k3.output, k3.size, k3.block⟩; have d7 : w3.cell? ⟨G0, 7, none⟩ = some (.string t) := (k3a.cell (p := ⟨G0, 7, none⟩) hGl).trans c7; have B3 := hide (B1.out.trans (k3a.mono B1.out.size)); clear k3 k3a))
      all_goals go_wp2_with fail
      all_goals go_ret2
      all_goals
        refine ⟨?_, B3.out⟩
        rw [HK.out]
        show _ = Ending.returned (.tuple #[.string (strN (D ++ byt t)), .int .i64 ((0 : Nat) : Int)])
        rw [← HAD.out _ rfl]
        rfl
    · rw [if_neg (fun y => hz y.2)] at HK
      have q1 : ((E : Int) == 0) = false := by simp; omega
      have q2 : ((E : Int) != 0) = true := by simp; omega
      clear hg hz
      go_wp2_with fail
      go_ret2
      exact ⟨by rw [HK.out]; rfl, B1.out⟩
  · rw [decide_eq_false hg] at heq
    rw [if_neg (fun y => hg y.1)] at HK
    clear hg
    go_wp2_with fail
    go_ret2
    exact ⟨by rw [HK.out]; rfl, B1.out⟩
end Go.Proofs.YtffjhhacegnhmaaGreatDoor
