/-
  The reference's Age and Length, Length of package fields, texts compared; conditions as each theorem has them.
-/
import Derived.Test.YtffjhhacegnhmaaDoorRD
import Derived.Test.YtffjhhacegnhmaaDoorHM
import Derived.Test.YtffjhhacegnhmaaDoorHN
import Derived.Test.YtffjhhacegnhmaaDoorFG
set_option linter.unusedSimpArgs false
set_option linter.unusedVariables false
namespace Go.Proofs.YtffjhhacegnhmaaDoor
open Go.RowKit

theorem same_texts (w : World) (a b : Option Addr) (n c d : Nat) (ps : List (List Nat)) (h1 : SrcV w a n c (strs ps)) (h2 : SrcV w b n d (strs ps)) : Calls Tryd.prog 18 #[.slice a n c, .slice b n d] w fun e w' => e = .returned (.bool true) ∧ Below w.heap.size w w' := by
  have H1 := hide h1
  have H2 := hide h2
  have hc1 := h1.hcap
  have hm1 := h1.hmax
  have hc2 := h2.hcap
  have hm2 := h2.hmax
  have hl := h1.hlen
  rw [strs_length] at hl
  have HL := hide hl
  unfold maxLen at hm1 hm2
  clear h1 h2 hl
  go_enter Tryd.func18, Tryd.ntmps18
  go_wp2_with fail
  go_loopw [5] (fun i wr => ∃ k : Nat, k ≤ n ∧ i = .int .i64 k ∧ Hid (Below w.heap.size w wr)) (fun i _ => n - (intOf i).toNat)
  case atStart => exact ⟨0, by omega, rfl, Below.refl _ _⟩
  case round =>
    obtain ⟨k, hk, rfl, HJ⟩ := hrel
    by_cases hkm : k < n
    · have hdk : decide ((k : Int) < (n : Int)) = true := decide_eq_true (by omega)
      have hkl : k < ps.length := by rw [HL.out]; exact hkm
      obtain ⟨b1, o1, rfl, _, q1⟩ := (H1.out.below HJ.out).lies (by omega)
      obtain ⟨b2, o2, rfl, _, q2⟩ := (H2.out.below HJ.out).lies (by omega)
      have e1 := q1 k _ (strs_get ps k hkl)
      have e2 := q2 k _ (strs_get ps k hkl)
      generalize strN (ps.getD k []) = P at e1 e2
      clear q1 q2 hkl
      go_wp2_with fail
      go_region
      all_goals go_wp2_with fail
      go_roundw
      case rel => exact ⟨k + 1, by omega, by go_num, HJ.out.drew⟩
      case measure => simp [intOf]; omega
    · have hdk : decide ((k : Int) < (n : Int)) = false := decide_eq_false (by omega)
      go_wp2_with fail
      go_ret
      exact ⟨rfl, HJ.out⟩
theorem get_val : ∀ (fs : List Fd) (n : List Nat), (get fs n).1 = [] ∨ ∃ f ∈ fs, (get fs n).1 = f.2
  | [], _ => Or.inl rfl
  | g :: r, n => by
    rw [get]
    split
    · exact Or.inr ⟨g, List.mem_cons_self, rfl⟩
    · rcases get_val r n with h | ⟨f, hf, e⟩
      · exact Or.inl h
      · exact Or.inr ⟨f, List.mem_cons_of_mem _ hf, e⟩
theorem get_ok {fs : List Fd} (hb : okB fs) (hf : Few fs) (n : List Nat) : (∀ x ∈ (get fs n).1, x < 256) ∧ (strN (get fs n).1).size ≤ 2000000 := by
  rw [strN_size]
  rcases get_val fs n with h | ⟨f, hm, h⟩
  · rw [h]; simp
  · rw [h]; exact ⟨(hb f hm).2, (hf.name f hm).2⟩
set_option maxRecDepth 100000 in
theorem length_at (a : Option Addr) (n c : Nat) (fs : List Fd) (w : World) (h : SrcF w a n c fs) (hfew : Few fs) :
    Calls Tryd.prog 16 #[.slice a n c] w fun e w' => e = .returned (two (lenv fs)) ∧ Below w.heap.size w w' := by
  have hfm : ∀ f ∈ fs, f.1.length ≤ maxLen := fun f hf => by have := (hfew.name f hf).1; unfold maxLen; omega
  have HG1 := hide (get_at a n c fs ⟨#[99, 111, 110, 116, 101, 110, 116, 45, 108, 101, 110, 103, 116, 104]⟩ w h hfm (by decide))
  rw [show byt (⟨#[99, 111, 110, 116, 101, 110, 116, 45, 108, 101, 110, 103, 116, 104]⟩ : ByteArray) = clS from rfl] at HG1
  have HG2 : Hid (∀ W, Below w.heap.size w W → Calls Tryd.prog 32 #[.slice a n c, .string ⟨#[116, 114, 97, 110, 115, 102, 101, 114, 45, 101, 110, 99, 111, 100, 105, 110, 103]⟩] W fun e w' => e = .returned (.tuple #[.string (strN (get fs teS).1), .int .i64 ((get fs teS).2 : Nat)]) ∧ Below W.heap.size W w') := fun W hW =>
    get_at a n c fs ⟨#[116, 114, 97, 110, 115, 102, 101, 114, 45, 101, 110, 99, 111, 100, 105, 110, 103]⟩ W (h.below hW) hfm (by decide)
  obtain ⟨ok1, ok2⟩ := get_ok h.byte hfew clS
  have HN : Hid (∀ W, Calls Tryd.prog 33 #[.string (strN (get fs clS).1)] W fun e w' => e = .returned (two (n7 (get fs clS).1)) ∧ Below W.heap.size W w') := fun W => by
    have := readNumber_at (strN (get fs clS).1) W (by unfold maxLen; omega)
    rw [byt_strN _ ok1] at this
    exact this
  have HV : Hid (lenv fs = if (get fs clS).2 = 1 ∧ (get fs teS).2 = 0 then n7 (get fs clS).1 else none) := rfl
  obtain ⟨V, hV⟩ : ∃ x, x = strN (get fs clS).1 := ⟨_, rfl⟩
  obtain ⟨C, hC⟩ : ∃ x, x = (get fs clS).2 := ⟨_, rfl⟩
  obtain ⟨U, hU⟩ : ∃ x, x = strN (get fs teS).1 := ⟨_, rfl⟩
  obtain ⟨M, hM⟩ : ∃ x, x = (get fs teS).2 := ⟨_, rfl⟩
  obtain ⟨N, hN⟩ : ∃ x, x = n7 (get fs clS).1 := ⟨_, rfl⟩
  rw [← hV, ← hC] at HG1
  rw [← hU, ← hM] at HG2
  rw [← hV, ← hN] at HN
  rw [← hC, ← hM, ← hN] at HV
  obtain ⟨R, hR⟩ : ∃ x, x = lenv fs := ⟨_, rfl⟩
  rw [← hR] at HV ⊢
  clear hV hC hU hM hN hR ok1 ok2 h hfew hfm
  go_enter Tryd.func16, Tryd.ntmps16
  go_wp2_with fail
  refine HG1.out.mono ?_
  rintro e w1 ⟨rfl, k1⟩
  have B1 := hide k1
  clear k1 HG1
  go_wp2_with fail
  refine (HG2.out _ B1.out).mono ?_
  rintro e w2 ⟨rfl, k2⟩
  have B2 := hide (B1.out.trans (k2.mono B1.out.size))
  clear k2 HG2
  by_cases hc : C = 1
  · have q1 : ((C : Int) != 1) = false := by simp; omega
    have q1' : ((C : Int) == 1) = true := by simp; omega
    by_cases hm : M = 0
    · have q2 : decide (0 < (M : Int)) = false := decide_eq_false (by omega)
      have q2n : decide (0 < M) = false := decide_eq_false (by omega)
      rw [if_pos ⟨hc, hm⟩] at HV
      clear hc hm
      go_wp2_with fail
      refine (HN.out _).mono ?_
      rintro e w3 ⟨rfl, k3⟩
      have B3 := hide (B2.out.trans (k3.mono B2.out.size))
      clear k3 HN
      rw [← HV.out]
      clear HV
      unfold two
      go_wp2_with fail
      go_ret2
      exact ⟨rfl, B3.out⟩
    · have q2 : decide (0 < (M : Int)) = true := decide_eq_true (by omega)
      have q2n : decide (0 < M) = true := decide_eq_true (by omega)
      rw [if_neg (fun x => hm x.2)] at HV
      clear hc hm
      go_wp2_with fail
      go_ret2
      exact ⟨by rw [HV.out]; rfl, B2.out⟩
  · have q1 : ((C : Int) != 1) = true := by simp; omega
    have q1' : ((C : Int) == 1) = false := by simp; omega
    rw [if_neg (fun x => hc x.1)] at HV
    clear hc
    go_wp2_with fail
    go_ret2
    exact ⟨by rw [HV.out]; rfl, B2.out⟩
set_option maxRecDepth 100000 in
theorem rlength_at (a : Option Addr) (n c : Nat) (fs : List Fd) (w : World) (h : SrcF w a n c fs) (hfew : Few fs) :
    Calls Tryd.prog 17 #[.slice a n c] w fun e w' => e = .returned (two (lenv fs)) ∧ Below w.heap.size w w' := by
  have hfm : ∀ f ∈ fs, f.1.length ≤ 140737488355328 := fun f hf => by have := (hfew.name f hf).1; omega
  have HG1 := hide (rget_at a n c fs ⟨#[99, 111, 110, 116, 101, 110, 116, 45, 108, 101, 110, 103, 116, 104]⟩ w h hfm (by decide))
  rw [show byt (⟨#[99, 111, 110, 116, 101, 110, 116, 45, 108, 101, 110, 103, 116, 104]⟩ : ByteArray) = clS from rfl] at HG1
  have HG2 : Hid (∀ W, Below w.heap.size w W → Calls Tryd.prog 34 #[.slice a n c, .string ⟨#[116, 114, 97, 110, 115, 102, 101, 114, 45, 101, 110, 99, 111, 100, 105, 110, 103]⟩] W fun e w' => e = .returned (.tuple #[.string (strN (get fs teS).1), .int .i64 ((get fs teS).2 : Nat)]) ∧ Below W.heap.size W w') := fun W hW =>
    rget_at a n c fs ⟨#[116, 114, 97, 110, 115, 102, 101, 114, 45, 101, 110, 99, 111, 100, 105, 110, 103]⟩ W (h.below hW) hfm (by decide)
  obtain ⟨ok1, ok2⟩ := get_ok h.byte hfew clS
  have HN : Hid (∀ W, Calls Tryd.prog 31 #[.string (strN (get fs clS).1), .int .i64 7] W fun e w' => e = .returned (two (n7 (get fs clS).1)) ∧ W = w') := fun W => by
    have := whole_at (strN (get fs clS).1) 7 W (by unfold maxLen; omega) (by omega)
    rw [byt_strN _ ok1, ← n7_wh] at this
    exact this
  have HV : Hid (lenv fs = if (get fs clS).2 = 1 ∧ (get fs teS).2 = 0 then n7 (get fs clS).1 else none) := rfl
  obtain ⟨V, hV⟩ : ∃ x, x = strN (get fs clS).1 := ⟨_, rfl⟩
  obtain ⟨C, hC⟩ : ∃ x, x = (get fs clS).2 := ⟨_, rfl⟩
  obtain ⟨U, hU⟩ : ∃ x, x = strN (get fs teS).1 := ⟨_, rfl⟩
  obtain ⟨M, hM⟩ : ∃ x, x = (get fs teS).2 := ⟨_, rfl⟩
  obtain ⟨N, hN⟩ : ∃ x, x = n7 (get fs clS).1 := ⟨_, rfl⟩
  rw [← hV, ← hC] at HG1
  rw [← hU, ← hM] at HG2
  rw [← hV, ← hN] at HN
  rw [← hC, ← hM, ← hN] at HV
  obtain ⟨R, hR⟩ : ∃ x, x = lenv fs := ⟨_, rfl⟩
  rw [← hR] at HV ⊢
  clear hV hC hU hM hN hR ok1 ok2 h hfew hfm
  go_enter Tryd.func17, Tryd.ntmps17
  go_wp2_with fail
  refine HG1.out.mono ?_
  rintro e w1 ⟨rfl, k1⟩
  have B1 := hide k1
  clear k1 HG1
  go_wp2_with fail
  refine (HG2.out _ B1.out).mono ?_
  rintro e w2 ⟨rfl, k2⟩
  have B2 := hide (B1.out.trans (k2.mono B1.out.size))
  clear k2 HG2
  go_wp2_with fail
  refine (HN.out _).mono ?_
  rintro e w3 ⟨rfl, rfl⟩
  clear HN
  unfold two
  by_cases hc : C = 1
  · have q1 : ((C : Int) != 1) = false := by simp; omega
    have q1' : ((C : Int) == 1) = true := by simp; omega
    by_cases hm : M = 0
    · have q2 : ((M : Int) != 0) = false := by simp; omega
      have q2' : ((M : Int) == 0) = true := by simp; omega
      rw [if_pos ⟨hc, hm⟩] at HV
      clear hc hm
      cases N with
      | some x =>
        go_wp2_with fail
        go_ret2
        exact ⟨by rw [HV.out]; rfl, B2.out⟩
      | none =>
        go_wp2_with fail
        go_ret2
        exact ⟨by rw [HV.out]; rfl, B2.out⟩
    · have q2 : ((M : Int) != 0) = true := by simp; omega
      have q2' : ((M : Int) == 0) = false := by simp; omega
      rw [if_neg (fun x => hm x.2)] at HV
      clear hc hm
      go_wp2_with fail
      go_ret2
      exact ⟨by rw [HV.out]; rfl, B2.out⟩
  · have q1 : ((C : Int) != 1) = true := by simp; omega
    have q1' : ((C : Int) == 1) = false := by simp; omega
    rw [if_neg (fun x => hc x.1)] at HV
    clear hc
    go_wp2_with fail
    go_ret2
    exact ⟨by rw [HV.out]; rfl, B2.out⟩
end Go.Proofs.YtffjhhacegnhmaaDoor
