/-
  The reference's blank, parts, hop and Some; conditions as each theorem has them.
-/
import Derived.Test.YtffjhhacegnhmaaDoorFF
import Derived.Test.YtffjhhacegnhmaaDoorFG
import Derived.Test.YtffjhhacegnhmaaDoorHN
set_option linter.unusedSimpArgs false
set_option linter.unusedVariables false
namespace Go.Proofs.YtffjhhacegnhmaaDoor
open Go.RowKit

theorem rblank_at (c : Nat) (w : World) : Calls Tryd.prog 49 #[.int .u8 c] w fun e w' => e = .returned (.bool (bk c)) ∧ w = w' := by
  unfold bk
  by_cases h : c = 32
  · subst h
    go_enter Tryd.func49, Tryd.ntmps49
    go_wp2
    go_ret
    exact ⟨rfl, rfl⟩
  · have q : ((c : Int) == 32) = false := by simp; omega
    rw [decide_eq_false h]
    by_cases h9 : c = 9
    · subst h9
      go_enter Tryd.func49, Tryd.ntmps49
      go_wp2
      go_ret
      exact ⟨rfl, rfl⟩
    · have q9 : ((c : Int) == 9) = false := by simp; omega
      rw [decide_eq_false h9]
      go_enter Tryd.func49, Tryd.ntmps49
      go_wp2
      go_ret
      exact ⟨rfl, rfl⟩
theorem byt_ext (s : ByteArray) (a b : Nat) (hb : b ≤ s.size) : byt (s.extract a b) = sub (byt s) a b := by
  unfold byt sub
  rw [ByteArray.data_extract, Array.toList_extract, List.extract_eq_take_drop, List.map_take, List.map_drop]
theorem own_nil9 (w : World) : Own (w.alloc (.cells #[] 9)) w.heap.size 9 (.slice (some ⟨w.heap.size, 0, none⟩) 0 0) (strs []) :=
  ⟨rfl, Or.inr ⟨w.heap.size, 0, #[], rfl, Nat.le_refl _, alloc_new _ _, Nat.le_refl _, Nat.zero_le _, rfl, rfl⟩⟩
def pts (l : List Nat) : List (List Nat) := (cms l).map trim
set_option maxRecDepth 100000 in
set_option maxHeartbeats 8000000 in
theorem rparts_at (t : ByteArray) (w : World) (hm : t.size ≤ 2000000) : Calls Tryd.prog 37 #[.string t] w fun e w' => ∃ v, e = .returned v ∧ Own w' w.heap.size 9 v (strs (pts (byt t))) ∧ Below w.heap.size w w' := by
  obtain ⟨l, hl⟩ : ∃ l, l = byt t := ⟨_, rfl⟩
  have HIX : Hid (∀ i, i < t.size → ∀ w, (Instr.index 9 (.string t) (.int .i64 (i : Nat))).run Tryd.prog w = .ok (.int .u8 (l.getD i 0 : Nat)) w) := fun i hi w => by rw [hl]; exact run_ixstr t i hi w
  have HEX : Hid (∀ a b, b ≤ t.size → byt (t.extract a b) = sub l a b) := fun a b hb => by rw [hl]; exact byt_ext t a b hb
  rw [← hl]
  obtain ⟨N, hN⟩ : ∃ N, N = t.size := ⟨_, rfl⟩
  have hNI : (t.size : Int) = (N : Int) := by rw [hN]
  have HNL : Hid (N = l.length) := by show _ = _; rw [hN, hl, byt_length]
  have HNT := hide hN
  rw [← hN] at hm HIX HEX
  clear hl hN
  obtain ⟨W0, hW0⟩ : ∃ W, W = w.alloc (.cells #[] 9) := ⟨_, rfl⟩
  have o0 : Own W0 w.heap.size 9 (.slice (some ⟨w.heap.size, 0, none⟩) 0 0) (strs []) := by rw [hW0]; exact own_nil9 w
  have b0 : Below w.heap.size w W0 := by rw [hW0]; exact (Below.refl _ _).alloc (Nat.le_refl _) _
  have HW0 := hide hW0.symm
  have O0 := hide o0
  have B0 := hide b0
  clear hW0 o0 b0
  go_enter Tryd.func37, Tryd.ntmps37
  go_wp2_with fail
  rw [HW0.out]
  go_loopw [3, 4, 5] (fun v vf vi wr => ∃ k f : Nat, k ≤ N + 1 ∧ f ≤ k ∧ vi = .int .i64 k ∧ vf = .int .i64 f ∧ Hid (∃ ps : List (List Nat), Own wr w.heap.size 9 v (strs ps) ∧ ps.length ≤ k ∧ Below w.heap.size w wr ∧ (k ≤ N → (44 ∉ sub l f k ∧ ps ++ (cms (l.drop f)).map trim = pts l)) ∧ (k = N + 1 → ps = pts l))) (fun _ _ i _ => N + 1 - (intOf i).toNat)
  case atStart => exact ⟨0, 0, by omega, by omega, rfl, rfl, [], O0.out, Nat.le_refl _, B0.out, fun _ => ⟨by simp [sub], by simp [pts]⟩, fun h => by omega⟩
  case round =>
    obtain ⟨k, f, hk, hf, rfl, rfl, HI⟩ := hrel
    by_cases hkN : k ≤ N
    · have hd1 : decide ((k : Int) ≤ (N : Int)) = true := decide_eq_true (by omega)
      obtain ⟨ps, i1, i2, i3, i4, _⟩ := HI.out
      obtain ⟨i5, i6⟩ := i4 hkN
      have O1 := hide i1
      have B1 := hide i3
      -- what stands at k ends a piece
      have fin : (k = N ∨ (k < N ∧ l.getD k 0 = 44)) → ∃ ps', ps' = ps ++ [trim (sub l f k)] ∧ (k + 1 ≤ N → (44 ∉ sub l (k + 1) (k + 1) ∧ ps' ++ (cms (l.drop (k + 1))).map trim = pts l)) ∧ (k + 1 = N + 1 → ps' = pts l) := by
        intro hend
        refine ⟨_, rfl, ?_, ?_⟩
        · intro h1
          rcases hend with rfl | ⟨h2, h3⟩
          · omega
          · refine ⟨by rw [sub_nil]; simp, ?_⟩
            have := cms_hit l hf (by rw [← HNL.out]; exact h2) i5 h3
            rw [this] at i6
            rw [← i6]; simp
        · intro h1
          obtain rfl : k = N := by omega
          have hsf : sub l f k = sub l f l.length := by rw [← HNL.out]
          have := cms_end l (f := f) (by rw [← hsf]; exact i5)
          rw [this, ← hsf] at i6
          rw [← i6]; simp
      have FIN := hide fin
      clear fin i1 i3 i4 HI
      by_cases hmid : k < N ∧ l.getD k 0 ≠ 44
      · obtain ⟨hk1, hc⟩ := hmid
        have hd2 : decide ((k : Int) < (N : Int)) = true := decide_eq_true (by omega)
        have hx := HIX.out k hk1
        have HN2 : Hid (44 ∉ sub l f (k + 1)) := by
          rw [sub_snoc l hf (by rw [← HNL.out]; exact hk1)]
          intro hm
          rcases List.mem_append.1 hm with hm | hm
          · exact i5 hm
          · simp at hm; exact hc hm.symm
        have I6 := hide i6
        obtain ⟨ch, hch⟩ : ∃ c, c = l.getD k 0 := ⟨_, rfl⟩
        rw [← hch] at hx hc
        have q1 : ((ch : Int) != 44) = true := by simp; omega
        have q2 : ((ch : Int) == 44) = false := by simp; omega
        clear i5 i6 hc hch FIN
        go_wp2_with fail
        go_roundw
        case rel => exact ⟨k + 1, f, by omega, by omega, by go_num, rfl, ps, O1.out, by omega, B1.out, fun _ => ⟨HN2.out, I6.out⟩, fun h => by omega⟩
        case measure => simp [intOf]; omega
      · have hend : k = N ∨ (k < N ∧ l.getD k 0 = 44) := by
          by_cases h1 : k < N
          · exact Or.inr ⟨h1, Classical.byContradiction fun h2 => hmid ⟨h1, h2⟩⟩
          · exact Or.inl (by omega)
        obtain ⟨ps', hps, g1, g2⟩ := FIN.out hend
        have G := hide (And.intro g1 g2)
        have HPS := hide hps
        clear g1 g2 hps FIN hmid i5 i6
        rcases hend with hkE | ⟨hk1, hc⟩
        · have hd2 : decide ((k : Int) < (N : Int)) = false := decide_eq_false (by omega)
          have hd2' : decide (k < N) = false := decide_eq_false (by omega)
          have HKE := hide hkE
          clear hkE
          go_wp2_with fail
          go_loop [6] (fun va => ∃ a : Nat, f ≤ a ∧ a ≤ k ∧ va = .int .i64 a ∧ Hid (∀ c ∈ sub l f a, bk c = true)) (fun va => k - (intOf va).toNat)
          case atStart => exact ⟨f, by omega, by omega, rfl, by rw [sub_nil]; intro c hc; simp at hc⟩
          case round =>
            obtain ⟨a, ha1, ha2, rfl, HA⟩ := hrel
            by_cases hak : a < k
            · have r0 : decide ((a : Int) < (k : Int)) = true := decide_eq_true (by omega)
              have r0' : decide (a < k) = true := decide_eq_true hak
              have hxa := HIX.out a (by omega)
              have HC : Hid (∀ ch, ch = l.getD a 0 → bk ch = true → ∀ c ∈ sub l f (a + 1), bk c = true) := fun ch e1 e2 c hc => by
                rw [sub_snoc l ha1 (by rw [← HNL.out]; omega)] at hc
                rcases List.mem_append.1 hc with hc | hc
                · exact HA.out c hc
                · rw [List.mem_singleton.1 hc, ← e1]; exact e2
              obtain ⟨ch, hch⟩ : ∃ c, c = l.getD a 0 := ⟨_, rfl⟩
              have HC2 := hide (HC.out ch hch)
              rw [← hch] at hxa
              have HBK := hide (fun W => rblank_at ch W)
              have HCH := hide hch
              clear hch HC
              go_wp2_with fail
              refine (HBK.out _).mono ?_
              rintro e w5 ⟨rfl, hw5⟩
              rw [← hw5]
              clear hw5 HBK
              cases hbk : bk ch with
              | true =>
                have HC3 := hide (HC2.out hbk)
                clear hbk HC2
                go_wp2_with fail
                go_round
                case rel => exact ⟨a + 1, by omega, by omega, by go_num, HC3.out⟩
                case measure => simp [intOf]; omega
              | false =>
                have HE : Hid (a = k ∨ bk (l.getD a 0) = false) := Or.inr (by rw [← HCH.out]; exact hbk)
                clear hbk HC2 hxa HCH r0 r0'
                go_wp2_with fail
                go_loop [7] (fun vb => ∃ b : Nat, a ≤ b ∧ b ≤ k ∧ vb = .int .i64 b ∧ Hid (∀ c ∈ sub l b k, bk c = true)) (fun vb => (intOf vb).toNat - a)
                case atStart => exact ⟨k, by omega, by omega, rfl, by rw [sub_nil]; intro c hc; simp at hc⟩
                case round =>
                  obtain ⟨b, hb1, hb2, rfl, HB⟩ := hrel
                  by_cases hab : a < b
                  · have r1 : decide ((a : Int) < (b : Int)) = true := decide_eq_true (by omega)
                    have r2 : decide (a < b) = true := decide_eq_true hab
                    have hxb := HIX.out (b - 1) (by omega)
                    rw [show ((b - 1 : Nat) : Int) = (b : Int) - 1 by omega] at hxb
                    have HC : Hid (∀ ch, ch = l.getD (b - 1) 0 → bk ch = true → ∀ c ∈ sub l (b - 1) k, bk c = true) := fun ch e1 e2 c hc => by
                      rw [sub_cons l (show b - 1 < k by omega) (by rw [← HNL.out]; omega)] at hc
                      rcases List.mem_cons.1 hc with rfl | hc
                      · rw [← e1]; exact e2
                      · rw [show b - 1 + 1 = b by omega] at hc; exact HB.out c hc
                    obtain ⟨ch, hch⟩ : ∃ c, c = l.getD (b - 1) 0 := ⟨_, rfl⟩
                    have HC2 := hide (HC.out ch hch)
                    rw [← hch] at hxb
                    have HBK := hide (fun W => rblank_at ch W)
                    have HCH := hide hch
                    clear hch HC
                    go_wp2_with fail
                    refine (HBK.out _).mono ?_
                    rintro e w5 ⟨rfl, hw5⟩
                    rw [← hw5]
                    clear hw5 HBK
                    cases hbk : bk ch with
                    | true =>
                      have HC3 := hide (HC2.out hbk)
                      clear hbk HC2
                      go_wp2_with fail
                      go_round
                      case rel => exact ⟨b - 1, by omega, by omega, by rw [show ((b - 1 : Nat) : Int) = (b : Int) - 1 by omega], HC3.out⟩
                      case measure => simp [intOf]; omega
                    | false =>
                      have HE2 : Hid (a = b ∨ bk (l.getD (b - 1) 0) = false) := Or.inr (by rw [← HCH.out]; exact hbk)
                      clear hbk HC2 hxb
                      have HTR : Hid (byt (t.extract a b) = trim (sub l f k)) := by
                        show _ = _
                        rw [HEX.out a b (by omega)]
                        exact (sub_trim l ha1 hb1 hb2 (by rw [← HNL.out]; omega) HA.out HB.out (by rcases HE.out with h | h; exact Or.inl (by omega); exact Or.inr h) HE2.out).symm
                      obtain ⟨v6, w6, hap, ho6, hb6⟩ := push_str (t.extract a b) O1.out (by omega) B1.out.size
                      rw [HTR.out, ← HPS.out] at ho6
                      have HAP := hide hap
                      have O6 := hide ho6
                      have B6 := hide (B1.out.trans hb6)
                      have HLP : Hid (ps'.length ≤ k + 1) := by show _ ≤ _; rw [HPS.out, List.length_append]; simp; omega
                      clear hap ho6 hb6 HTR
                      go_wp2_with (refine wpList_app_run _ rfl _ _ 36 36 rfl _ _ rfl rfl HAP.out ?_)
                      go_roundw
                      case rel => exact ⟨k + 1, k + 1, by omega, by omega, by go_num, by go_num, ps', O6.out, HLP.out, B6.out, G.out.1, G.out.2⟩
                      case measure => simp [intOf]; omega
                  · have r1 : decide ((a : Int) < (b : Int)) = false := decide_eq_false (by omega)
                    have r2 : decide (a < b) = false := decide_eq_false hab
                    have HE2 : Hid (a = b ∨ bk (l.getD (b - 1) 0) = false) := Or.inl (by omega)
                    have HTR : Hid (byt (t.extract a b) = trim (sub l f k)) := by
                      show _ = _
                      rw [HEX.out a b (by omega)]
                      exact (sub_trim l ha1 hb1 hb2 (by rw [← HNL.out]; omega) HA.out HB.out (by rcases HE.out with h | h; exact Or.inl (by omega); exact Or.inr h) HE2.out).symm
                    obtain ⟨v6, w6, hap, ho6, hb6⟩ := push_str (t.extract a b) O1.out (by omega) B1.out.size
                    rw [HTR.out, ← HPS.out] at ho6
                    have HAP := hide hap
                    have O6 := hide ho6
                    have B6 := hide (B1.out.trans hb6)
                    have HLP : Hid (ps'.length ≤ k + 1) := by show _ ≤ _; rw [HPS.out, List.length_append]; simp; omega
                    clear hap ho6 hb6 HTR
                    go_wp2_with (refine wpList_app_run _ rfl _ _ 36 36 rfl _ _ rfl rfl HAP.out ?_)
                    go_roundw
                    case rel => exact ⟨k + 1, k + 1, by omega, by omega, by go_num, by go_num, ps', O6.out, HLP.out, B6.out, G.out.1, G.out.2⟩
                    case measure => simp [intOf]; omega
            · have r0 : decide ((a : Int) < (k : Int)) = false := decide_eq_false (by omega)
              have r0' : decide (a < k) = false := decide_eq_false hak
              have HE : Hid (a = k ∨ bk (l.getD a 0) = false) := Or.inl (by omega)
              go_wp2_with fail
              clear r0 r0'
              go_loop [7] (fun vb => ∃ b : Nat, a ≤ b ∧ b ≤ k ∧ vb = .int .i64 b ∧ Hid (∀ c ∈ sub l b k, bk c = true)) (fun vb => (intOf vb).toNat - a)
              case atStart => exact ⟨k, by omega, by omega, rfl, by rw [sub_nil]; intro c hc; simp at hc⟩
              case round =>
                obtain ⟨b, hb1, hb2, rfl, HB⟩ := hrel
                by_cases hab : a < b
                · exfalso; omega
                · have r1 : decide ((a : Int) < (b : Int)) = false := decide_eq_false (by omega)
                  have r2 : decide (a < b) = false := decide_eq_false hab
                  have HE2 : Hid (a = b ∨ bk (l.getD (b - 1) 0) = false) := Or.inl (by omega)
                  have HTR : Hid (byt (t.extract a b) = trim (sub l f k)) := by
                    show _ = _
                    rw [HEX.out a b (by omega)]
                    exact (sub_trim l ha1 hb1 hb2 (by rw [← HNL.out]; omega) HA.out HB.out (by rcases HE.out with h | h; exact Or.inl (by omega); exact Or.inr h) HE2.out).symm
                  obtain ⟨v6, w6, hap, ho6, hb6⟩ := push_str (t.extract a b) O1.out (by omega) B1.out.size
                  rw [HTR.out, ← HPS.out] at ho6
                  have HAP := hide hap
                  have O6 := hide ho6
                  have B6 := hide (B1.out.trans hb6)
                  have HLP : Hid (ps'.length ≤ k + 1) := by show _ ≤ _; rw [HPS.out, List.length_append]; simp; omega
                  clear hap ho6 hb6 HTR
                  go_wp2_with (refine wpList_app_run _ rfl _ _ 36 36 rfl _ _ rfl rfl HAP.out ?_)
                  go_roundw
                  case rel => exact ⟨k + 1, k + 1, by omega, by omega, by go_num, by go_num, ps', O6.out, HLP.out, B6.out, G.out.1, G.out.2⟩
                  case measure => simp [intOf]; omega
        · have hd2 : decide ((k : Int) < (N : Int)) = true := decide_eq_true (by omega)
          have hd2' : decide (k < N) = true := decide_eq_true hk1
          have hx := HIX.out k hk1
          rw [hc] at hx
          clear hc
          go_wp2_with fail
          go_loop [6] (fun va => ∃ a : Nat, f ≤ a ∧ a ≤ k ∧ va = .int .i64 a ∧ Hid (∀ c ∈ sub l f a, bk c = true)) (fun va => k - (intOf va).toNat)
          case atStart => exact ⟨f, by omega, by omega, rfl, by rw [sub_nil]; intro c hc; simp at hc⟩
          case round =>
            obtain ⟨a, ha1, ha2, rfl, HA⟩ := hrel
            by_cases hak : a < k
            · have r0 : decide ((a : Int) < (k : Int)) = true := decide_eq_true (by omega)
              have r0' : decide (a < k) = true := decide_eq_true hak
              have hxa := HIX.out a (by omega)
              have HC : Hid (∀ ch, ch = l.getD a 0 → bk ch = true → ∀ c ∈ sub l f (a + 1), bk c = true) := fun ch e1 e2 c hc => by
                rw [sub_snoc l ha1 (by rw [← HNL.out]; omega)] at hc
                rcases List.mem_append.1 hc with hc | hc
                · exact HA.out c hc
                · rw [List.mem_singleton.1 hc, ← e1]; exact e2
              obtain ⟨ch, hch⟩ : ∃ c, c = l.getD a 0 := ⟨_, rfl⟩
              have HC2 := hide (HC.out ch hch)
              rw [← hch] at hxa
              have HBK := hide (fun W => rblank_at ch W)
              have HCH := hide hch
              clear hch HC
              go_wp2_with fail
              refine (HBK.out _).mono ?_
              rintro e w5 ⟨rfl, hw5⟩
              rw [← hw5]
              clear hw5 HBK
              cases hbk : bk ch with
              | true =>
                have HC3 := hide (HC2.out hbk)
                clear hbk HC2
                go_wp2_with fail
                go_round
                case rel => exact ⟨a + 1, by omega, by omega, by go_num, HC3.out⟩
                case measure => simp [intOf]; omega
              | false =>
                have HE : Hid (a = k ∨ bk (l.getD a 0) = false) := Or.inr (by rw [← HCH.out]; exact hbk)
                clear hbk HC2 hxa HCH r0 r0'
                go_wp2_with fail
                go_loop [7] (fun vb => ∃ b : Nat, a ≤ b ∧ b ≤ k ∧ vb = .int .i64 b ∧ Hid (∀ c ∈ sub l b k, bk c = true)) (fun vb => (intOf vb).toNat - a)
                case atStart => exact ⟨k, by omega, by omega, rfl, by rw [sub_nil]; intro c hc; simp at hc⟩
                case round =>
                  obtain ⟨b, hb1, hb2, rfl, HB⟩ := hrel
                  by_cases hab : a < b
                  · have r1 : decide ((a : Int) < (b : Int)) = true := decide_eq_true (by omega)
                    have r2 : decide (a < b) = true := decide_eq_true hab
                    have hxb := HIX.out (b - 1) (by omega)
                    rw [show ((b - 1 : Nat) : Int) = (b : Int) - 1 by omega] at hxb
                    have HC : Hid (∀ ch, ch = l.getD (b - 1) 0 → bk ch = true → ∀ c ∈ sub l (b - 1) k, bk c = true) := fun ch e1 e2 c hc => by
                      rw [sub_cons l (show b - 1 < k by omega) (by rw [← HNL.out]; omega)] at hc
                      rcases List.mem_cons.1 hc with rfl | hc
                      · rw [← e1]; exact e2
                      · rw [show b - 1 + 1 = b by omega] at hc; exact HB.out c hc
                    obtain ⟨ch, hch⟩ : ∃ c, c = l.getD (b - 1) 0 := ⟨_, rfl⟩
                    have HC2 := hide (HC.out ch hch)
                    rw [← hch] at hxb
                    have HBK := hide (fun W => rblank_at ch W)
                    have HCH := hide hch
                    clear hch HC
                    go_wp2_with fail
                    refine (HBK.out _).mono ?_
                    rintro e w5 ⟨rfl, hw5⟩
                    rw [← hw5]
                    clear hw5 HBK
                    cases hbk : bk ch with
                    | true =>
                      have HC3 := hide (HC2.out hbk)
                      clear hbk HC2
                      go_wp2_with fail
                      go_round
                      case rel => exact ⟨b - 1, by omega, by omega, by rw [show ((b - 1 : Nat) : Int) = (b : Int) - 1 by omega], HC3.out⟩
                      case measure => simp [intOf]; omega
                    | false =>
                      have HE2 : Hid (a = b ∨ bk (l.getD (b - 1) 0) = false) := Or.inr (by rw [← HCH.out]; exact hbk)
                      clear hbk HC2 hxb
                      have HTR : Hid (byt (t.extract a b) = trim (sub l f k)) := by
                        show _ = _
                        rw [HEX.out a b (by omega)]
                        exact (sub_trim l ha1 hb1 hb2 (by rw [← HNL.out]; omega) HA.out HB.out (by rcases HE.out with h | h; exact Or.inl (by omega); exact Or.inr h) HE2.out).symm
                      obtain ⟨v6, w6, hap, ho6, hb6⟩ := push_str (t.extract a b) O1.out (by omega) B1.out.size
                      rw [HTR.out, ← HPS.out] at ho6
                      have HAP := hide hap
                      have O6 := hide ho6
                      have B6 := hide (B1.out.trans hb6)
                      have HLP : Hid (ps'.length ≤ k + 1) := by show _ ≤ _; rw [HPS.out, List.length_append]; simp; omega
                      clear hap ho6 hb6 HTR
                      go_wp2_with (refine wpList_app_run _ rfl _ _ 36 36 rfl _ _ rfl rfl HAP.out ?_)
                      go_roundw
                      case rel => exact ⟨k + 1, k + 1, by omega, by omega, by go_num, by go_num, ps', O6.out, HLP.out, B6.out, G.out.1, G.out.2⟩
                      case measure => simp [intOf]; omega
                  · have r1 : decide ((a : Int) < (b : Int)) = false := decide_eq_false (by omega)
                    have r2 : decide (a < b) = false := decide_eq_false hab
                    have HE2 : Hid (a = b ∨ bk (l.getD (b - 1) 0) = false) := Or.inl (by omega)
                    have HTR : Hid (byt (t.extract a b) = trim (sub l f k)) := by
                      show _ = _
                      rw [HEX.out a b (by omega)]
                      exact (sub_trim l ha1 hb1 hb2 (by rw [← HNL.out]; omega) HA.out HB.out (by rcases HE.out with h | h; exact Or.inl (by omega); exact Or.inr h) HE2.out).symm
                    obtain ⟨v6, w6, hap, ho6, hb6⟩ := push_str (t.extract a b) O1.out (by omega) B1.out.size
                    rw [HTR.out, ← HPS.out] at ho6
                    have HAP := hide hap
                    have O6 := hide ho6
                    have B6 := hide (B1.out.trans hb6)
                    have HLP : Hid (ps'.length ≤ k + 1) := by show _ ≤ _; rw [HPS.out, List.length_append]; simp; omega
                    clear hap ho6 hb6 HTR
                    go_wp2_with (refine wpList_app_run _ rfl _ _ 36 36 rfl _ _ rfl rfl HAP.out ?_)
                    go_roundw
                    case rel => exact ⟨k + 1, k + 1, by omega, by omega, by go_num, by go_num, ps', O6.out, HLP.out, B6.out, G.out.1, G.out.2⟩
                    case measure => simp [intOf]; omega
            · have r0 : decide ((a : Int) < (k : Int)) = false := decide_eq_false (by omega)
              have r0' : decide (a < k) = false := decide_eq_false hak
              have HE : Hid (a = k ∨ bk (l.getD a 0) = false) := Or.inl (by omega)
              go_wp2_with fail
              clear r0 r0'
              go_loop [7] (fun vb => ∃ b : Nat, a ≤ b ∧ b ≤ k ∧ vb = .int .i64 b ∧ Hid (∀ c ∈ sub l b k, bk c = true)) (fun vb => (intOf vb).toNat - a)
              case atStart => exact ⟨k, by omega, by omega, rfl, by rw [sub_nil]; intro c hc; simp at hc⟩
              case round =>
                obtain ⟨b, hb1, hb2, rfl, HB⟩ := hrel
                by_cases hab : a < b
                · exfalso; omega
                · have r1 : decide ((a : Int) < (b : Int)) = false := decide_eq_false (by omega)
                  have r2 : decide (a < b) = false := decide_eq_false hab
                  have HE2 : Hid (a = b ∨ bk (l.getD (b - 1) 0) = false) := Or.inl (by omega)
                  have HTR : Hid (byt (t.extract a b) = trim (sub l f k)) := by
                    show _ = _
                    rw [HEX.out a b (by omega)]
                    exact (sub_trim l ha1 hb1 hb2 (by rw [← HNL.out]; omega) HA.out HB.out (by rcases HE.out with h | h; exact Or.inl (by omega); exact Or.inr h) HE2.out).symm
                  obtain ⟨v6, w6, hap, ho6, hb6⟩ := push_str (t.extract a b) O1.out (by omega) B1.out.size
                  rw [HTR.out, ← HPS.out] at ho6
                  have HAP := hide hap
                  have O6 := hide ho6
                  have B6 := hide (B1.out.trans hb6)
                  have HLP : Hid (ps'.length ≤ k + 1) := by show _ ≤ _; rw [HPS.out, List.length_append]; simp; omega
                  clear hap ho6 hb6 HTR
                  go_wp2_with (refine wpList_app_run _ rfl _ _ 36 36 rfl _ _ rfl rfl HAP.out ?_)
                  go_roundw
                  case rel => exact ⟨k + 1, k + 1, by omega, by omega, by go_num, by go_num, ps', O6.out, HLP.out, B6.out, G.out.1, G.out.2⟩
                  case measure => simp [intOf]; omega
    · have hd1 : decide ((k : Int) ≤ (N : Int)) = false := decide_eq_false (by omega)
      obtain ⟨ps, i1, i2, i3, _, i5⟩ := HI.out
      have HF := hide (i5 (by omega))
      have O1 := hide i1
      have B1 := hide i3
      clear i1 i3 i5 HI
      go_wp2_with fail
      go_ret
      exact ⟨_, rfl, by rw [← HF.out]; exact O1.out, B1.out⟩
end Go.Proofs.YtffjhhacegnhmaaDoor
