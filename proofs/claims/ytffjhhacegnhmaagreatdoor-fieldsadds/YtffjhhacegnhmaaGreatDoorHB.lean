/-
  trimmed, Value, hasLoneEnd of package head; conditions as each theorem has them.
-/
import Derived.Test.YtffjhhacegnhmaaGreatDoorHA
import Derived.Test.YtffjhhacegnhmaaGreatDoorJ
import Derived.Test.YtffjhhacegnhmaaGreatDoorShelf
import Derived.Laws.RangeAny
import Derived.Laws.Runes
set_option linter.unusedSimpArgs false
set_option linter.unusedVariables false
namespace Go.Proofs.YtffjhhacegnhmaaGreatDoor
open Go.RowKit

theorem dw_map (p : UInt8 → Bool) (q : Nat → Bool) (h : ∀ x, p x = q x.toNat) : ∀ l : List UInt8, (l.dropWhile p).map UInt8.toNat = (l.map UInt8.toNat).dropWhile q
  | [] => rfl
  | c :: r => by
    rw [List.dropWhile_cons, List.map_cons, List.dropWhile_cons, ← h c]
    split
    · exact dw_map p q h r
    · rfl
theorem bk_byte : ∀ x : UInt8, ([32, 9] : List UInt8).contains x = bk x.toNat := by
  intro x
  unfold bk
  by_cases h1 : x = 32
  · subst h1; rfl
  · by_cases h2 : x = 9
    · subst h2; rfl
    · have e1 : ¬ x.toNat = 32 := fun e => h1 (UInt8.toNat_inj.1 (by simpa using e))
      have e2 : ¬ x.toNat = 9 := fun e => h2 (UInt8.toNat_inj.1 (by simpa using e))
      simp [h1, h2, e1, e2]
theorem trimS_trim (l : List UInt8) : (Lib.trimS l [32, 9]).map UInt8.toNat = trim (l.map UInt8.toNat) := by
  unfold Lib.trimS Lib.trimLeftS Lib.trimRightS trim trimL trimR
  rw [dw_map _ bk bk_byte, List.map_reverse, dw_map _ bk bk_byte, List.map_reverse]
theorem strN_mk (l : List UInt8) : (⟨l.toArray⟩ : ByteArray) = strN (l.map UInt8.toNat) := by
  rw [← strN_byt ⟨l.toArray⟩, byt_mk]
theorem trimmed_at (t : ByteArray) (w : World) (hm : t.size ≤ maxLen) : Calls Tryz.prog 24 #[.string t] w fun e w' => e = .returned (.string (strN (trim (byt t)))) ∧ Below w.heap.size w w' := by
  have HT := hide (Any.strings_Trim_laid Tryz.lays160 (by kernel_rfl) t ⟨#[32, 9]⟩ w (by unfold maxLen at hm; omega) (by decide) (ascii_of_all (by decide)))
  go_enter Tryz.func24, Tryz.ntmps24
  go_wp2_with fail
  refine HT.out.mono ?_
  rintro e w0 ⟨rfl, hb⟩
  have HB := hide hb
  have HE : Hid ((⟨(Lib.trimS t.data.toList [32, 9]).toArray⟩ : ByteArray) = strN (trim (byt t))) := by
    show _ = _
    rw [strN_mk, trimS_trim]; rfl
  rw [HE.out]
  clear hb HT
  go_wp2_with fail
  go_ret
  exact ⟨rfl, HB.out⟩
theorem toList_two (a b : List Nat) (ha : ∀ x ∈ a, x < 256) (hb : ∀ x ∈ b, x < 256) : ((strN a).toList == (strN b).toList) = decide (a = b) := by
  rw [Lib.toList_data (strN b), toList_byt, byt_strN a ha]
  congr 1
  have := byt_strN b hb
  unfold byt at this
  rw [this]
theorem trim_mem {l : List Nat} {x : Nat} (h : x ∈ trim l) : x ∈ l := by
  have e1 : trim l <:+: l := by
    unfold trim trimL trimR
    refine List.IsInfix.trans (List.dropWhile_suffix _).isInfix ?_
    have := (List.dropWhile_suffix bk (l := l.reverse))
    have h2 := List.reverse_prefix.2 this
    rw [List.reverse_reverse] at h2
    exact h2.isInfix
  exact e1.subset h
set_option maxRecDepth 100000 in
set_option maxHeartbeats 2000000 in
theorem value_at (t : ByteArray) (w : World) (hm : t.size ≤ maxLen) : Calls Tryz.prog 12 #[.string t] w fun e w' => e = .returned (.bool (value (byt t))) ∧ Below w.heap.size w w' := by
  have hlt := byt_lt t
  have HLT : Hid (∀ k, (byt t).getD k 0 < 256) := fun k => getD_lt (byt_lt t) k
  have HTR := hide (trimmed_at t w hm)
  have hbq := toList_two (trim (byt t)) (byt t) (fun x hx => hlt x (trim_mem hx)) hlt
  rw [strN_byt] at hbq
  obtain ⟨T, hT⟩ : ∃ T, T = strN (trim (byt t)) := ⟨_, rfl⟩
  rw [← hT] at HTR hbq
  clear hT hlt
  obtain ⟨l, hl⟩ : ∃ l, l = byt t := ⟨_, rfl⟩
  rw [← hl] at HLT hbq ⊢
  obtain ⟨N, hN⟩ : ∃ N, N = t.size := ⟨_, rfl⟩
  have HNL : Hid (N = l.length) := by show _ = _; rw [hN, hl, byt_length]
  have hNI : (t.size : Int) = (N : Int) := by rw [hN]
  unfold maxLen at hm
  rw [← hN] at hm
  by_cases h64 : 4096 < N
  · have q1 : decide (4096 < (N : Int)) = true := decide_eq_true (by omega)
    have q2 : decide (4096 < N) = true := decide_eq_true (by omega)
    have hr : value l = false := by unfold value; rw [← HNL.out, decide_eq_false (show ¬ N ≤ 4096 by omega)]; simp
    rw [hr]
    clear hr hl hN hbq
    go_enter Tryz.func12, Tryz.ntmps12
    go_wp2_with fail
    go_ret
    exact ⟨rfl, Below.refl _ _⟩
  have q1 : decide (4096 < (N : Int)) = false := decide_eq_false (by omega)
  have q2 : decide (4096 < N) = false := decide_eq_false (by omega)
  have hN64 : N ≤ 4096 := by omega
  by_cases htr : trim l = l
  · rw [decide_eq_true htr] at hbq
    have hbq2 : (T.toList != t.toList) = false := by rw [bne, hbq]; rfl
    have HR : Hid (value l = l.all vb) := by show _ = _; unfold value; rw [← HNL.out, decide_eq_true (show N ≤ 4096 by omega), decide_eq_true htr]; simp
    have HL := hide hl
    have HN := hide hN
    clear hl hN hm h64 htr
    go_enter Tryz.func12, Tryz.ntmps12
    go_wp2_with fail
    refine HTR.out.mono ?_
    rintro e w1 ⟨rfl, hb1⟩
    obtain ⟨cap, w2, hcv, hcap, hb2, hbeg⟩ := conv_bytes t w1
    rw [← HN.out] at hcv hcap
    rw [← HL.out] at hbeg
    have HI : Hid (Beg w2 w1.heap.size l ∧ Below w.heap.size w w2) := ⟨hbeg, hb1.trans (hb2.mono hb1.size)⟩
    clear hb1 hb2 hbeg HTR
    go_wp2_with fail
    clear hcv hbq hbq2
    go_loop [17] (fun i => ∃ k : Nat, k ≤ N ∧ i = .int .i64 k ∧ Hid ((l.take k).all vb = true)) (fun i => N - (intOf i).toNat)
    case atStart => exact ⟨0, by omega, rfl, rfl⟩
    case round =>
      obtain ⟨k, hk, rfl, HT⟩ := hrel
      by_cases hkN : k < N
      · have hdk : decide ((k : Int) < (N : Int)) = true := decide_eq_true (by omega)
        have hkl : k < l.length := by rw [← HNL.out]; exact hkN
        have hcl := HI.out.1.cell hkl
        have hc := HLT.out k
        have HA : Hid (vb (l.getD k 0) = true → (l.take (k + 1)).all vb = true) := fun h => all_take _ l k hkl HT.out h
        have HF : Hid (vb (l.getD k 0) = false → l.all vb = false) := fun h => all_not _ l k hkl h
        obtain ⟨c, hcc⟩ : ∃ c, c = l.getD k 0 := ⟨_, rfl⟩
        rw [← hcc] at hcl HA HF hc
        clear hcc hkl
        by_cases h9 : c = 9
        · have e9 : ((c : Int) != 9) = false := by simp; omega
          have ht := hide (HA.out (by simp [vb, h9]))
          clear HA HF h9
          go_wp2_with fail
          go_round
          case rel => exact ⟨k + 1, by omega, by go_num, ht.out⟩
          case measure => simp [intOf]; omega
        · have e9 : ((c : Int) != 9) = true := by simp; omega
          by_cases h32 : c < 32
          · have d1 : decide ((c : Int) < 32) = true := decide_eq_true (by omega)
            have hf := hide (HF.out (by simp [vb]; omega))
            clear HA HF h9
            go_wp2_with fail
            go_ret
            refine ⟨?_, HI.out.2⟩
            rw [HR.out, hf.out]; rfl
          · have d1 : decide ((c : Int) < 32) = false := decide_eq_false (by omega)
            by_cases h126 : 126 < c
            · have d2 : decide (126 < (c : Int)) = true := decide_eq_true (by omega)
              have hf := hide (HF.out (by simp [vb]; omega))
              clear HA HF h9
              go_wp2_with fail
              go_ret
              refine ⟨?_, HI.out.2⟩
              rw [HR.out, hf.out]; rfl
            · have d2 : decide (126 < (c : Int)) = false := decide_eq_false (by omega)
              have ht := hide (HA.out (by simp [vb]; omega))
              clear HA HF h9
              go_wp2_with fail
              go_round
              case rel => exact ⟨k + 1, by omega, by go_num, ht.out⟩
              case measure => simp [intOf]; omega
      · have hdk : decide ((k : Int) < (N : Int)) = false := decide_eq_false (by omega)
        have hr := hide (by have := HT.out; rw [List.take_of_length_le (by rw [← HNL.out]; omega)] at this; exact this : l.all vb = true)
        go_wp2_with fail
        go_ret
        refine ⟨?_, HI.out.2⟩
        rw [HR.out, hr.out]; rfl
  · rw [decide_eq_false htr] at hbq
    have hbq2 : (T.toList != t.toList) = true := by rw [bne, hbq]; rfl
    have hr : value l = false := by unfold value; rw [decide_eq_false htr]; simp
    rw [hr]
    clear hr hl hN htr
    go_enter Tryz.func12, Tryz.ntmps12
    go_wp2_with fail
    refine HTR.out.mono ?_
    rintro e w1 ⟨rfl, hb1⟩
    have HB := hide hb1
    clear hb1 HTR
    go_wp2_with fail
    go_ret
    exact ⟨rfl, HB.out⟩
end Go.Proofs.YtffjhhacegnhmaaGreatDoor
