/-
  A closure that tells fields by their name; IndexFunc, ContainsFunc of package slices at fields, and hasBody; conditions as each theorem has them.
-/
import Derived.Test.YtccoddmdlbdfjaaGreatDoorJoinedPM
import Derived.Deep.LoopGhost
set_option linter.unusedSimpArgs false
set_option linter.unusedVariables false
namespace Go.Proofs.YtccoddmdlbdfjaaGreatDoor
open Go.RowKit

/-- The closure. -/
def namV (g : Nat) : Value := .func (.func 142) #[] #[.pointer (some ⟨g, 0, none⟩)]
theorem named_at (t : ByteArray) (w : World) : Calls Tryz.prog 104 #[.string t] w fun e w' => e = .returned (namV w.heap.size) ∧ w' = w.alloc (.cells #[.string t] 9) := by
  go_enter Tryz.func104, Tryz.ntmps104
  go_wp2_with fail
  go_ret
  exact ⟨rfl, rfl⟩
theorem one_src (f : Fd) (w : World) (hf : (∀ x ∈ f.1, x < 256) ∧ ∀ x ∈ f.2, x < 256) : SrcF (w.alloc (.cells #[.string (strN f.1), .string (strN f.2)] 68)) (some ⟨w.heap.size, 0, none⟩) 1 1 [f] := by
  refine ⟨rfl, Nat.le_refl _, by unfold maxLen; omega, (fun e => by cases e), fun _ => ⟨w.heap.size, 0, rfl, by simp, fun j u hu => ?_⟩, fun g hg => ?_⟩
  · rw [Nat.zero_add]
    simp only [World.cell?, alloc_new]
    simpa [fcs] using hu
  · obtain rfl : g = f := by simpa using hg
    exact hf
set_option maxRecDepth 100000 in
theorem named1_at (f : Fd) (g : Nat) (t : ByteArray) (w : World) (hg : w.cell? ⟨g, 0, none⟩ = some (.string t)) (ht : t.size ≤ maxLen) (hf : (∀ x ∈ f.1, x < 256) ∧ ∀ x ∈ f.2, x < 256) (hl : f.1.length ≤ maxLen) :
    Calls Tryz.prog 142 #[.agg #[.string (strN f.1), .string (strN f.2)], .pointer (some ⟨g, 0, none⟩)] w fun e w' => e = .returned (.bool (isN (byt t) f)) ∧ Below w.heap.size w w' := by
  obtain ⟨W1, hW1⟩ : ∃ W, W = w.alloc (.cells #[.string (strN f.1), .string (strN f.2)] 68) := ⟨_, rfl⟩
  obtain ⟨W2, hW2⟩ : ∃ W, W = W1.alloc (.cells #[.string (strN f.1), .string (strN f.2)] 68) := ⟨_, rfl⟩
  have hs : SrcF W2 (some ⟨W1.heap.size, 0, none⟩) 1 1 [f] := by rw [hW2]; exact one_src f W1 hf
  have b1 : Below w.heap.size w W1 := by rw [hW1]; exact (Below.refl _ _).alloc (Nat.le_refl _) _
  have b2 : Below w.heap.size w W2 := by rw [hW2]; exact b1.alloc b1.size _
  have HG := hide (get_at _ 1 1 [f] t W2 hs (fun x hx => by obtain rfl : x = f := (by simpa using hx); exact hl) ht)
  have g2 : W2.cell? ⟨g, 0, none⟩ = some (.string t) := (b2.cell (p := ⟨g, 0, none⟩) (lt_of_cell hg)).trans hg
  have B2 := hide b2
  obtain ⟨C, hC⟩ : ∃ C, C = (get [f] (byt t)).2 := ⟨_, rfl⟩
  obtain ⟨V, hV⟩ : ∃ C, C = strN (get [f] (byt t)).1 := ⟨_, rfl⟩
  have HC : Hid (C = if isN (byt t) f = true then 1 else 0) := by
    rw [hC, get]
    unfold isN
    by_cases h : low f.1 = low (byt t)
    · rw [if_pos h, if_pos (decide_eq_true h)]; rfl
    · rw [if_neg h, if_neg (by simp [h])]; rfl
  rw [← hC, ← hV] at HG
  obtain ⟨R, hR⟩ : ∃ R, R = isN (byt t) f := ⟨_, rfl⟩
  rw [← hR] at HC ⊢
  obtain ⟨P, hP⟩ : ∃ P, P = strN f.1 := ⟨_, rfl⟩
  obtain ⟨Q, hQ⟩ : ∃ P, P = strN f.2 := ⟨_, rfl⟩
  rw [← hP, ← hQ] at hW1 hW2 ⊢
  obtain ⟨G, hG⟩ : ∃ G, G = W1.heap.size := ⟨_, rfl⟩
  rw [← hG] at HG
  have HW2 : Hid ((w.alloc (.cells #[.string P, .string Q] 68)).alloc (.cells #[.string P, .string Q] 68) = W2) := by show _ = _; rw [hW2, hW1]
  have HGG : Hid (w.heap.size + 1 = G) := by show _ = _; rw [hG, hW1]; simp
  clear hs b1 b2 hW1 hW2 hC hV hR hP hQ hG hf hl ht
  go_enter Tryz.func142, Tryz.ntmps142
  go_wp2_with (first | (rw [HW2.out, HGG.out]))
  try (rw [HW2.out, HGG.out]; go_wp2_with fail)
  refine HG.out.mono ?_
  rintro e w3 ⟨rfl, k3⟩
  have B3 := hide (B2.out.trans (k3.mono B2.out.size))
  clear k3 HG B2 g2
  cases R with
  | true =>
    have hc : C = 1 := HC.out
    subst hc
    go_wp2_with fail
    go_ret
    exact ⟨rfl, B3.out⟩
  | false =>
    have hc : C = 0 := HC.out
    subst hc
    go_wp2_with fail
    go_ret
    exact ⟨rfl, B3.out⟩
/-- The first field of a sort. -/
def fndI (p : Fd → Bool) (l : List Fd) : Int := if l.findIdx p < l.length then ((l.findIdx p : Nat) : Int) else -1
theorem fnd_eq {p : Fd → Bool} {l : List Fd} {j : Nat} (hj : j < l.length) (h1 : p (l.getD j ([], [])) = true) (h2 : ∀ k, k < j → p (l.getD k ([], [])) = false) : l.findIdx p = j := by
  refine (List.findIdx_eq hj).2 ⟨?_, fun i hi => ?_⟩
  · simpa [List.getD, hj] using h1
  · have := h2 i hi
    simpa [List.getD, show i < l.length by omega] using this
theorem fnd_none {p : Fd → Bool} {l : List Fd} (h : ∀ k, k < l.length → p (l.getD k ([], [])) = false) : l.findIdx p = l.length := by
  refine List.findIdx_eq_length.2 fun x hx => ?_
  obtain ⟨i, hi, rfl⟩ := List.mem_iff_getElem.1 hx
  have := h i hi
  simpa [List.getD, hi] using this
theorem fnd_any (p : Fd → Bool) (l : List Fd) : decide (0 ≤ fndI p l) = l.any p := by
  unfold fndI
  by_cases h : l.findIdx p < l.length
  · rw [if_pos h, decide_eq_true (by omega)]
    exact (List.any_eq_true.2 ⟨_, List.getElem_mem h, List.findIdx_getElem⟩).symm
  · rw [if_neg h]
    have := List.findIdx_eq_length.1 (show l.findIdx p = l.length by have := List.findIdx_le_length (p := p) (xs := l); omega)
    rw [List.any_eq_false.2 (by simpa using this)]
    rfl
set_option maxRecDepth 100000 in
set_option maxHeartbeats 2000000 in
theorem indexX_at (f : Nat) (cap : Value) (p : Fd → Bool) (a : Option Addr) (n c : Nat) (fs : List Fd) (w : World) (h : SrcF w a n c fs)
    (hf : ∀ args w, (callFunc f args).run Tryz.prog w = .ok (.enter f args) w)
    (HP : ∀ (W : World) (x : Fd), x ∈ fs → Below w.heap.size w W → Calls Tryz.prog f #[.agg #[.string (strN x.1), .string (strN x.2)], cap] W fun e w' => e = .returned (.bool (p x)) ∧ Below W.heap.size W w') :
    Calls Tryz.prog 141 #[.slice a n c, .func (.func f) #[] #[cap]] w fun e w' => e = .returned (.int .i64 (fndI p fs)) ∧ Below w.heap.size w w' := by
  have H := hide h
  have HPP := hide HP
  have hcl := h.hcap
  have hmx := h.hmax
  unfold maxLen at hmx
  have HN := hide h.hlen
  obtain ⟨R, hR⟩ : ∃ R : Int, R = fndI p fs := ⟨_, rfl⟩
  rw [← hR]
  have HR := hide hR
  clear h hR HP
  go_enter Tryz.func141, Tryz.ntmps141
  go_wp2_with fail
  go_loopw [8] (fun v wr => ∃ j : Nat, j ≤ n ∧ v = .int .i64 j ∧ Hid (Below w.heap.size w wr) ∧ Hid (∀ k, k < j → p (fs.getD k ([], [])) = false)) (fun v _ => n - (intOf v).toNat)
  case atStart => exact ⟨0, Nat.zero_le _, rfl, Below.refl _ _, fun k hk => by omega⟩
  case round =>
    obtain ⟨j, hj, rfl, HK, HX⟩ := hrel
    by_cases hjn : j < n
    · have hd : decide ((j : Int) < (n : Int)) = true := decide_eq_true (by omega)
      have hjl : j < fs.length := by have := HN.out; omega
      have s1 := H.out.below HK.out
      obtain ⟨b, o, rfl, c0, c1⟩ := s1.at_ hjn
      rw [Nat.mul_comm 2 j] at c0 c1
      have hmem : fs.getD j ([], []) ∈ fs := getD_mem hjl
      have HA := hide (HPP.out wr _ hmem HK.out)
      obtain ⟨b1, hb1⟩ : ∃ b1, b1 = p (fs.getD j ([], [])) := ⟨_, rfl⟩
      have HB1 := hide hb1
      rw [← hb1] at HA
      obtain ⟨P, hP⟩ : ∃ P, P = strN (fs.getD j ([], [])).1 := ⟨_, rfl⟩
      obtain ⟨Q, hQ⟩ : ∃ P, P = strN (fs.getD j ([], [])).2 := ⟨_, rfl⟩
      rw [← hP] at c0 HA
      rw [← hQ] at c1 HA
      clear hb1 hP hQ hmem s1
      cases b1 with
      | true =>
        have HR2 : Hid (R = (j : Nat)) := by
          have hfe := fnd_eq hjl HB1.out.symm HX.out
          exact HR.out.trans (by unfold fndI; rw [hfe, if_pos hjl])
        clear hjl
        go_wp2_with fail
        refine HA.out.mono ?_
        rintro e w1 ⟨rfl, k1⟩
        have K1 := hide (HK.out.trans (k1.mono HK.out.size))
        clear k1
        go_wp2_with fail
        go_ret
        exact ⟨by rw [HR2.out]; rfl, K1.out⟩
      | false =>
        have HX2 : Hid (∀ k, k < j + 1 → p (fs.getD k ([], [])) = false) := fun k hk => by
          rcases Nat.lt_or_ge k j with h1 | h1
          · exact HX.out k h1
          · obtain rfl : k = j := by omega
            exact HB1.out.symm
        clear hjl
        go_wp2_with fail
        refine HA.out.mono ?_
        rintro e w1 ⟨rfl, k1⟩
        have K1 := hide (HK.out.trans (k1.mono HK.out.size))
        clear k1
        go_wp2_with fail
        go_roundw
        case rel => exact ⟨j + 1, by omega, by go_num, K1, HX2⟩
        case measure => simp [intOf]; omega
    · have hd : decide ((j : Int) < (n : Int)) = false := decide_eq_false (by omega)
      have HR2 : Hid (R = -1) := HR.out.trans (by unfold fndI; rw [fnd_none (fun k hk => HX.out k (by have := HN.out; omega)), if_neg (by omega)])
      go_wp2_with fail
      go_ret
      exact ⟨by rw [HR2.out]; rfl, HK.out⟩
theorem containsX_at (f : Nat) (cap : Value) (p : Fd → Bool) (a : Option Addr) (n c : Nat) (fs : List Fd) (w : World) (h : SrcF w a n c fs)
    (hf : ∀ args w, (callFunc f args).run Tryz.prog w = .ok (.enter f args) w)
    (HP : ∀ (W : World) (x : Fd), x ∈ fs → Below w.heap.size w W → Calls Tryz.prog f #[.agg #[.string (strN x.1), .string (strN x.2)], cap] W fun e w' => e = .returned (.bool (p x)) ∧ Below W.heap.size W w') :
    Calls Tryz.prog 103 #[.slice a n c, .func (.func f) #[] #[cap]] w fun e w' => e = .returned (.bool (fs.any p)) ∧ Below w.heap.size w w' := by
  have HI := hide (indexX_at f cap p a n c fs w h hf HP)
  have HA := hide (fnd_any p fs)
  obtain ⟨i, hi⟩ : ∃ i, i = fndI p fs := ⟨_, rfl⟩
  rw [← hi] at HI HA
  obtain ⟨R, hR⟩ : ∃ R, R = fs.any p := ⟨_, rfl⟩
  rw [← hR] at HA ⊢
  clear hi hR h hf HP
  cases R with
  | true =>
    have hd : decide (i ≥ 0) = true := HA.out
    have hd2 : decide (0 ≤ i) = true := HA.out
    go_enter Tryz.func103, Tryz.ntmps103
    go_wp2_with fail
    refine HI.out.mono ?_
    rintro e w1 ⟨rfl, k1⟩
    go_wp2_with fail
    go_ret
    exact ⟨rfl, k1⟩
  | false =>
    have hd : decide (i ≥ 0) = false := HA.out
    have hd2 : decide (0 ≤ i) = false := HA.out
    go_enter Tryz.func103, Tryz.ntmps103
    go_wp2_with fail
    refine HI.out.mono ?_
    rintro e w1 ⟨rfl, k1⟩
    go_wp2_with fail
    go_ret
    exact ⟨rfl, k1⟩
theorem enters1 : ∀ args w, (callFunc 142 args).run Tryz.prog w = .ok (.enter 142 args) w := enters_of Tryz.func142 (by kernel_rfl) rfl
set_option maxRecDepth 100000 in
set_option maxHeartbeats 2000000 in
theorem hasBody_at (a : Option Addr) (n c : Nat) (fs : List Fd) (w : World) (h : SrcF w a n c fs) (hfm : ∀ f ∈ fs, f.1.length ≤ maxLen) :
    Calls Tryz.prog 63 #[.slice a n c] w fun e w' => e = .returned (.bool (body fs)) ∧ Below w.heap.size w w' := by
  have HG := hide (get_at a n c fs ⟨#[67, 111, 110, 116, 101, 110, 116, 45, 76, 101, 110, 103, 116, 104]⟩ w h hfm (by decide))
  rw [show byt (⟨#[67, 111, 110, 116, 101, 110, 116, 45, 76, 101, 110, 103, 116, 104]⟩ : ByteArray) = clN from rfl] at HG
  have HB : Hid (body fs = (decide (1 < (get fs clN).2) || (decide ((get fs clN).2 = 1) && !decide ((get fs clN).1 = [48])) || fs.any (isN teN))) := rfl
  have HNL : Hid (∀ W, Below w.heap.size w W → Calls Tryz.prog 103 #[.slice a n c, namV W.heap.size] (W.alloc (.cells #[.string ⟨#[84, 114, 97, 110, 115, 102, 101, 114, 45, 69, 110, 99, 111, 100, 105, 110, 103]⟩] 9)) fun e w' => e = .returned (.bool (fs.any (isN teN))) ∧ Below W.heap.size W w') := fun W hW => by
    have b1 : Below W.heap.size W (W.alloc (.cells #[.string ⟨#[84, 114, 97, 110, 115, 102, 101, 114, 45, 69, 110, 99, 111, 100, 105, 110, 103]⟩] 9)) := (Below.refl _ _).alloc (Nat.le_refl _) _
    have b2 := hW.trans (b1.mono hW.size)
    refine (containsX_at 142 (.pointer (some ⟨W.heap.size, 0, none⟩)) (isN teN) a n c fs _ (h.below b2) enters1 (fun W' x hx k => ?_)).mono fun e w' ⟨he, k⟩ => ⟨he, b1.trans (k.mono (by simp))⟩
    have hc : W'.cell? ⟨W.heap.size, 0, none⟩ = some (.string ⟨#[84, 114, 97, 110, 115, 102, 101, 114, 45, 69, 110, 99, 111, 100, 105, 110, 103]⟩) := by
      have g := alloc_new W (.cells #[.string ⟨#[84, 114, 97, 110, 115, 102, 101, 114, 45, 69, 110, 99, 111, 100, 105, 110, 103]⟩] 9)
      exact (k.cell (p := ⟨W.heap.size, 0, none⟩) (by simp)).trans (by show (match (W.alloc _).heap[W.heap.size]? with | some (.cells c _ _) => c[0]? | _ => none) = _; rw [g]; rfl)
    exact named1_at x _ _ W' hc (by decide) (h.byte x hx) (hfm x hx)
  have hby : ∀ x ∈ (get fs clN).1, x < 256 := by
    have : ∀ fs : List Fd, okB fs → ∀ x ∈ (get fs clN).1, x < 256 := fun fs => by
      induction fs with
      | nil => intro _ x hx; simp [get] at hx
      | cons f r ih =>
        intro hb x hx
        rw [get] at hx
        split at hx
        · exact (hb f List.mem_cons_self).2 x hx
        · exact ih (fun g hg => hb g (List.mem_cons_of_mem _ hg)) x hx
    exact this fs h.byte
  obtain ⟨C, hC⟩ : ∃ C, C = (get fs clN).2 := ⟨_, rfl⟩
  obtain ⟨V, hV⟩ : ∃ C, C = strN (get fs clN).1 := ⟨_, rfl⟩
  have HV : Hid (decide ((get fs clN).1 = [48]) = (V.toList == [48])) := by
    have := eq_byt V ⟨#[48]⟩
    rw [show (⟨#[48]⟩ : ByteArray).toList = [48] from by decide +kernel, show byt (⟨#[48]⟩ : ByteArray) = [48] from rfl, hV, byt_strN _ hby] at this
    rw [← hV] at this
    exact this.symm
  rw [HV.out, ← hC] at HB
  rw [← hC, ← hV] at HG
  obtain ⟨T, hT⟩ : ∃ T, T = fs.any (isN teN) := ⟨_, rfl⟩
  rw [← hT] at HB HNL
  obtain ⟨R, hR⟩ : ∃ R, R = body fs := ⟨_, rfl⟩
  rw [← hR] at HB ⊢
  clear hC hV HV hT hR hby h hfm
  by_cases h1 : 1 < C
  · have q1 : decide ((C : Int) > 1) = true := decide_eq_true (by omega)
    have q1' : decide ((1 : Int) < (C : Int)) = true := decide_eq_true (by omega)
    have q1n : decide (1 < C) = true := decide_eq_true h1
    have HRT : Hid (R = true) := by show R = true; rw [HB.out, q1n]; rfl
    clear h1 HNL HB
    go_enter Tryz.func63, Tryz.ntmps63
    go_wp2_with fail
    refine HG.out.mono ?_
    rintro e w1 ⟨rfl, k1⟩
    go_wp2_with fail
    go_ret
    exact ⟨by rw [HRT.out]; rfl, k1⟩
  · have q1 : decide ((C : Int) > 1) = false := decide_eq_false (by omega)
    have q1' : decide ((1 : Int) < (C : Int)) = false := decide_eq_false (by omega)
    have q1n : decide (1 < C) = false := decide_eq_false h1
    rw [q1n] at HB
    by_cases h2 : C = 1
    · have q2 : ((C : Int) == 1) = true := by simp; omega
      by_cases h3 : (V.toList == [48]) = true
      · have HRT : Hid (R = T) := by show R = T; rw [HB.out, h3]; simp
        clear h1 h2 HB
        go_enter Tryz.func63, Tryz.ntmps63
        go_wp2_with fail
        refine HG.out.mono ?_
        rintro e w1 ⟨rfl, k1⟩
        have K1 := hide k1
        clear k1
        go_wp2_with fail
        refine (named_at _ w1).mono ?_
        rintro e w2 ⟨rfl, rfl⟩
        go_wp2_with fail
        refine (HNL.out _ K1.out).mono ?_
        rintro e w3 ⟨rfl, k3⟩
        go_wp2_with fail
        go_ret
        exact ⟨by rw [HRT.out]; rfl, K1.out.trans (k3.mono K1.out.size)⟩
      · have q3 : (V.toList == [48]) = false := by simpa using h3
        have HRT : Hid (R = true) := by show R = true; rw [HB.out, q3]; simp [h2]
        clear h1 h2 h3 HB HNL
        go_enter Tryz.func63, Tryz.ntmps63
        go_wp2_with fail
        refine HG.out.mono ?_
        rintro e w1 ⟨rfl, k1⟩
        go_wp2_with fail
        go_ret
        exact ⟨by rw [HRT.out]; rfl, k1⟩
    · have q2 : ((C : Int) == 1) = false := by simp; omega
      have HRT : Hid (R = T) := by show R = T; rw [HB.out]; simp [h2]
      clear h1 h2 HB
      go_enter Tryz.func63, Tryz.ntmps63
      go_wp2_with fail
      refine HG.out.mono ?_
      rintro e w1 ⟨rfl, k1⟩
      have K1 := hide k1
      clear k1
      go_wp2_with fail
      refine (named_at _ w1).mono ?_
      rintro e w2 ⟨rfl, rfl⟩
      go_wp2_with fail
      refine (HNL.out _ K1.out).mono ?_
      rintro e w3 ⟨rfl, k3⟩
      go_wp2_with fail
      go_ret
      exact ⟨by rw [HRT.out]; rfl, K1.out.trans (k3.mono K1.out.size)⟩
end Go.Proofs.YtccoddmdlbdfjaaGreatDoor
