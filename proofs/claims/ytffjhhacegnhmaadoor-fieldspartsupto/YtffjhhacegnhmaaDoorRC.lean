/-
  The reference's Some and FieldsParts' walk; conditions as each theorem has them.
-/
import Derived.Test.YtffjhhacegnhmaaDoorRB
import Derived.Test.YtffjhhacegnhmaaDoorOW
set_option linter.unusedSimpArgs false
set_option linter.unusedVariables false
namespace Go.Proofs.YtffjhhacegnhmaaDoor
open Go.RowKit

set_option maxRecDepth 100000 in
set_option maxHeartbeats 8000000 in
theorem rsome_at (a : Option Addr) (n c : Nat) (fs : List Fd) (want : Bool) (w : World) (h : SrcF w a n c fs) (hfew : Few fs) :
    Calls Tryd.prog 10 #[.slice a n c, .bool want] w fun e w' => ∃ v, e = .returned (.tuple #[v, .int .i64 ((somE fs want).2 : Nat)]) ∧ OwnF w' w.heap.size v (somE fs want).1 ∧ Below w.heap.size w w' := by
  have hl := h.hlen
  by_cases h64 : 64 < n
  · have q1 : decide (64 < (n : Int)) = true := decide_eq_true (by omega)
    have q2 : decide (64 < n) = true := decide_eq_true (by omega)
    have HE : Hid (somE fs want = ([], 3)) := by show _ = _; unfold somE; rw [if_pos (by omega)]
    clear hl h hfew
    go_enter Tryd.func10, Tryd.ntmps10
    go_wp2_with fail
    go_ret2
    exact ⟨_, by rw [HE.out]; rfl, by rw [HE.out]; exact OwnF.nilS _ _, Below.refl _ _⟩
  have q1 : decide (64 < (n : Int)) = false := decide_eq_false (by omega)
  have q2 : decide (64 < n) = false := decide_eq_false (by omega)
  have HE : Hid (somE fs want = (fs.filter (fun f => hopB fs f.1 == want), 0)) := by show _ = _; unfold somE; rw [if_neg (by omega)]
  have hcl := h.hcap
  have hmx := h.hmax
  unfold maxLen at hmx
  have hn64 : n ≤ 64 := by omega
  have H := hide h
  have HFEW := hide hfew
  obtain ⟨W0, hW0⟩ : ∃ W, W = w.alloc (.cells #[] 30) := ⟨_, rfl⟩
  have o0 : OwnF W0 w.heap.size (.slice (some ⟨w.heap.size, 0, none⟩) 0 0) [] := by rw [hW0]; exact own_new76 w
  have b0 : Below w.heap.size w W0 := by rw [hW0]; exact (Below.refl _ _).alloc (Nat.le_refl _) _
  have HW0 := hide hW0.symm
  have O0 := hide o0
  have B0 := hide b0
  have HHOP := hide (fun nm W hs hm => rhop_at a n c fs nm W hs hfew hm)
  clear hW0 o0 b0 h hfew hl
  go_enter Tryd.func10, Tryd.ntmps10
  go_wp2_with fail
  rw [HW0.out]
  go_loopw [6, 7] (fun v vi wr => ∃ k : Nat, k ≤ n ∧ vi = .int .i64 k ∧ Hid (OwnF wr w.heap.size v ((fs.take k).filter fun f => hopB fs f.1 == want) ∧ Below w.heap.size w wr)) (fun _ i _ => n - (intOf i).toNat)
  case atStart => exact ⟨0, by omega, rfl, O0.out, B0.out⟩
  case round =>
    obtain ⟨k, hk, rfl, HI⟩ := hrel
    obtain ⟨j1, j3⟩ := HI.out
    by_cases hkn : k < n
    · have hdk : decide ((k : Int) < (n : Int)) = true := decide_eq_true (by omega)
      have s1 := H.out.below j3
      have S1 := hide s1
      obtain ⟨b', o, rfl, c0, c1⟩ := s1.at_ hkn
      rw [Nat.mul_comm 2 k] at c0 c1
      have hkl : k < fs.length := by rw [H.out.hlen]; exact hkn
      have hmem : fs.getD k ([], []) ∈ fs := getD_mem hkl
      have hby := H.out.byte _ hmem
      have hfl := HFEW.out.name _ hmem
      have HSN := hide (filter_snoc (fun f : Fd => hopB fs f.1 == want) (fs.take k) (fs.getD k ([], [])))
      rw [← ftake_snoc fs k hkl] at HSN
      have hfl2 : ((fs.take k).filter fun f => hopB fs f.1 == want).length ≤ 4000000 := by
        have h1 := List.length_filter_le (fun f : Fd => hopB fs f.1 == want) (fs.take k)
        have h2 := List.length_take_le k fs
        omega
      obtain ⟨fd, hf0⟩ : ∃ f, f = fs.getD k ([], []) := ⟨_, rfl⟩
      rw [← hf0] at c0 c1 hby hfl HSN
      obtain ⟨p, q⟩ := fd
      simp only at c0 c1 hby hfl HSN
      have HH : Hid (∀ W, SrcF W (some ⟨b', o, none⟩) n c fs → Calls Tryd.prog 25 #[.slice (some ⟨b', o, none⟩) n c, .string (strN p)] W fun e w' => e = .returned (.bool (hopB fs p)) ∧ Below W.heap.size W w') := fun W hs => by
        have := HHOP.out (strN p) W hs (by rw [strN_size]; exact hfl.1)
        rw [byt_strN p hby.1] at this; exact this
      obtain ⟨hp, hhp⟩ : ∃ x, x = hopB fs p := ⟨_, rfl⟩
      rw [← hhp] at HH HSN
      obtain ⟨P, hP⟩ : ∃ x, x = strN p := ⟨_, rfl⟩
      obtain ⟨R, hR⟩ : ∃ x, x = strN q := ⟨_, rfl⟩
      rw [← hP] at c0 HH
      rw [← hR] at c1
      have HPR : Hid (P = strN p ∧ R = strN q) := ⟨hP, hR⟩
      have J1 := hide j1
      have J3 := hide j3
      clear hkl hmem hby hfl hf0 hP hR s1 hhp j1 j3 HI
      go_wp2_with fail
      refine (HH.out _ S1.out).mono ?_
      rintro e w2 ⟨rfl, hb2⟩
      have d0 := (hb2.cell (lt_of_cell c0)).trans c0
      have d1 := (hb2.cell (lt_of_cell c1)).trans c1
      have B2 := hide (J3.out.trans (hb2.mono J3.out.size))
      have O2 := hide (J1.out.below hb2)
      obtain ⟨v4, w4, hap, ho4, hb4, _⟩ := push_fld (p, q) O2.out hfl2 B2.out.size
      rw [show (strN (p, q).1) = P from HPR.out.1.symm, show (strN (p, q).2) = R from HPR.out.2.symm] at hap
      have HAP := hide hap
      have O4 := hide ho4
      have B4 := hide (B2.out.trans hb4)
      clear hb2 c0 c1 hap ho4 hb4 HH S1
      cases hp with
      | true =>
        cases want with
        | true =>
          have HR : Hid ((fs.take (k + 1)).filter (fun f => hopB fs f.1 == true) = (fs.take k).filter (fun f => hopB fs f.1 == true) ++ [(p, q)]) := HSN.out
          go_wp2_with (refine wpList_app_run _ rfl _ _ 22 22 rfl _ _ rfl rfl HAP.out ?_)
          go_roundw
          case rel => exact ⟨k + 1, by omega, by go_num, by rw [HR.out]; exact O4.out, B4.out⟩
          case measure => simp [intOf]; omega
        | false =>
          have HR : Hid ((fs.take (k + 1)).filter (fun f => hopB fs f.1 == false) = (fs.take k).filter (fun f => hopB fs f.1 == false)) := by
            show _ = _
            rw [HSN.out]; exact List.append_nil _
          go_wp2_with fail
          go_roundw
          case rel => exact ⟨k + 1, by omega, by go_num, by rw [HR.out]; exact O2.out, B2.out⟩
          case measure => simp [intOf]; omega
      | false =>
        cases want with
        | true =>
          have HR : Hid ((fs.take (k + 1)).filter (fun f => hopB fs f.1 == true) = (fs.take k).filter (fun f => hopB fs f.1 == true)) := by
            show _ = _
            rw [HSN.out]; exact List.append_nil _
          go_wp2_with fail
          go_roundw
          case rel => exact ⟨k + 1, by omega, by go_num, by rw [HR.out]; exact O2.out, B2.out⟩
          case measure => simp [intOf]; omega
        | false =>
          have HR : Hid ((fs.take (k + 1)).filter (fun f => hopB fs f.1 == false) = (fs.take k).filter (fun f => hopB fs f.1 == false) ++ [(p, q)]) := HSN.out
          go_wp2_with (refine wpList_app_run _ rfl _ _ 22 22 rfl _ _ rfl rfl HAP.out ?_)
          go_roundw
          case rel => exact ⟨k + 1, by omega, by go_num, by rw [HR.out]; exact O4.out, B4.out⟩
          case measure => simp [intOf]; omega
    · have hdk : decide ((k : Int) < (n : Int)) = false := decide_eq_false (by omega)
      have HF : Hid (fs.take k = fs) := by show _ = _; exact List.take_of_length_le (by rw [H.out.hlen]; omega)
      rw [HF.out] at j1
      have J1 := hide j1
      have J3 := hide j3
      clear j1 j3 HI
      go_wp2_with fail
      go_ret2
      exact ⟨_, by rw [HE.out]; rfl, by rw [HE.out]; exact J1.out, J3.out⟩
end Go.Proofs.YtffjhhacegnhmaaDoor
