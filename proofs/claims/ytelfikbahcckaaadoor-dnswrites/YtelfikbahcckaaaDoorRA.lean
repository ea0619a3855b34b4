/-
  The reference's faults, numbers and labels; conditions as each theorem has them.
-/
import Derived.Test.YtelfikbahcckaaaDoorPA
import Derived.Test.YtelfikbahcckaaaDoorE
set_option linter.unusedSimpArgs false
set_option linter.unusedVariables false
namespace Go.Proofs.YtelfikbahcckaaaDoor
open Go.RowKit

set_option maxHeartbeats 1000000 in
theorem dfail_at (a c : Nat) (w : World) : Calls Tryd.prog 32 #[.string ⟨#[100, 110, 115]⟩, .int .i64 a, .int .i64 c] w fun e w' => e = .returned (badF (.one a c)) ∧ Below w.heap.size w w' := by
  go_enter Tryd.func32, Tryd.ntmps32
  go_wp2
  go_returns
  exact ⟨rfl, ((Below.refl _ _).alloc (Nat.le_refl _) _).alloc (by simp) _⟩
theorem infoG (e : Er) : (Tryd.prog.info? 32).map (·.size) = some (badG e).size := by rw [badG_size]; exact info32
set_option maxHeartbeats 1000000 in
theorem dfault_at (a c : Nat) (w : World) : Calls Tryd.prog 28 #[.int .i64 a, .int .i64 c] w fun e w' => e = .returned (badF (.one a c)) ∧ Below w.heap.size w w' := by
  go_enter Tryd.func28, Tryd.ntmps28
  go_wp2_with fail
  refine (dfail_at a c _).mono ?_
  rintro e w' ⟨rfl, hbel⟩
  have hr : w'.heap[w.heap.size]? = some (.cells (badC .ok) 32) := (hbel.block w.heap.size (by simp)).trans (alloc_new _ _)
  obtain ⟨W2, hW2⟩ : ∃ W2, W2 = w'.setRow w.heap.size (badG (.one a c)) := ⟨_, rfl⟩
  have hrow : W2.heap[w.heap.size]? = some (.cells (badG (.one a c)) 32) := by rw [hW2]; exact setRow_heap _ _ _ _ _ hr
  have hB : Below w.heap.size w W2 := by
    have h1 : Below w.heap.size w w' := ((Below.refl _ w).alloc (Nat.le_refl _) _).trans (hbel.mono (by simp))
    rw [hW2]; exact below_setRow h1 (Nat.le_refl _) _
  have HR := hide hr
  have HW := hide hW2
  have HROW := hide hrow
  have HB := hide hB
  clear hr hW2 hrow hB hbel
  rw [badF_badG]
  go_wp2_with (first | (refine wpList_store_rowW rfl 32 _ _ rfl w.heap.size (badG (.one a c)) rfl rfl 32 (badC .ok) HR.out info32 rfl (badG_one _) W2 HW.out ?_))
  refine bodyPost_ret (results_cell_row rfl _ _ w.heap.size 32 (badG (.one a c)) (0, 0) _ rfl HROW.out Tryd.underlying32 rfl info32) rfl ⟨rfl, HB.out⟩
set_option maxHeartbeats 1000000 in
theorem dshort_at (a : Option Addr) (n c : Nat) (w : World) : Calls Tryd.prog 26 #[.slice a n c] w fun e w' => e = .returned (badF (.one n 6)) ∧ Below w.heap.size w w' := by
  go_enter Tryd.func26, Tryd.ntmps26
  go_wp2_with fail
  refine (dfault_at n 6 _).mono ?_
  rintro e w' ⟨rfl, hbel⟩
  have hr : w'.heap[w.heap.size]? = some (.cells (badC .ok) 32) := (hbel.block w.heap.size (by simp)).trans (alloc_new _ _)
  obtain ⟨W2, hW2⟩ : ∃ W2, W2 = w'.setRow w.heap.size (badG (.one n 6)) := ⟨_, rfl⟩
  have hrow : W2.heap[w.heap.size]? = some (.cells (badG (.one n 6)) 32) := by rw [hW2]; exact setRow_heap _ _ _ _ _ hr
  have hB : Below w.heap.size w W2 := by
    have h1 : Below w.heap.size w w' := ((Below.refl _ w).alloc (Nat.le_refl _) _).trans (hbel.mono (by simp))
    rw [hW2]; exact below_setRow h1 (Nat.le_refl _) _
  have HR := hide hr
  have HW := hide hW2
  have HROW := hide hrow
  have HB := hide hB
  clear hr hW2 hrow hB hbel
  rw [badF_badG]
  go_wp2_with (first | (refine wpList_store_rowW rfl 32 _ _ rfl w.heap.size (badG (.one n 6)) rfl rfl 32 (badC .ok) HR.out info32 rfl (badG_one _) W2 HW.out ?_))
  refine bodyPost_ret (results_cell_row rfl _ _ w.heap.size 32 (badG (.one n 6)) (0, 0) _ rfl HROW.out Tryd.underlying32 rfl info32) rfl ⟨rfl, HB.out⟩
set_option maxRecDepth 100000 in
set_option maxHeartbeats 4000000 in
theorem two_at (a : Option Addr) (n c : Nat) (b : List Nat) (p : Nat) (w : World) (h : Src w a n c b) (hp : p + 2 ≤ n) : Calls Tryd.prog 27 #[.slice a n c, .int .i64 (p : Nat)] w fun e w' => e = .returned (.int .i64 ((b.getD p 0 * 256 + b.getD (p + 1) 0 : Nat) : Int)) ∧ Below w.heap.size w w' := by
  obtain ⟨xb, xo, rfl, hxl, hc⟩ := h.lies (by omega)
  have c0 := hc p (by omega)
  have c1 := hc (p + 1) (by omega)
  have l0 := getD_lt h.byte p
  have l1 := getD_lt h.byte (p + 1)
  have hcap := h.hcap
  have hmx := h.hmax
  unfold maxLen at hmx
  obtain ⟨x, hx⟩ : ∃ x, x = b.getD p 0 := ⟨_, rfl⟩
  obtain ⟨y, hy⟩ : ∃ y, y = b.getD (p + 1) 0 := ⟨_, rfl⟩
  rw [← hx] at c0 l0 ⊢
  rw [← hy] at c1 l1 ⊢
  have hp1 : xo + (p + 1) = xo + p + 1 := by omega
  have c1' := c1
  rw [hp1] at c1'
  have hpb : p + 1 < 9223372036854775807 := by omega
  have hwp : IntKind.i64.wrap ((p : Int) + 1) = (p : Int) + 1 := by rw [IntKind.wrap_i64]; omega
  clear h hc hx hy hp1
  go_enter Tryd.func27, Tryd.ntmps27
  go_wp2_with fail
  go_region
  go_wp2_with fail
  go_ret
  exact ⟨by simp, (Below.refl _ _).drew⟩
set_option maxHeartbeats 1000000 in
theorem letter_at (c : Nat) (w : World) (hc : c < 256) : Calls Tryd.prog 49 #[.int .u8 c] w fun e w' => e = .returned (.bool (lb c)) ∧ w = w' := by
  go_enter Tryd.func49, Tryd.ntmps49
  go_wp2_with fail
  all_goals go_ret
  all_goals refine ⟨?_, rfl⟩
  all_goals refine congrArg (fun x => Ending.returned (Value.bool x)) ?_
  all_goals (rw [Bool.eq_iff_iff]; simp [lb, dig]; omega)
theorem lab_ref {p : List Nat} (h1 : 1 ≤ p.length) (h2 : p.length ≤ 63) : labB p = (p.all lb && (!decide (p.getD 0 0 = 45) && !decide (p.getD (p.length - 1) 0 = 45))) := by
  rw [Bool.eq_iff_iff, labB_iff]
  simp only [Bool.and_eq_true, List.all_eq_true, Bool.not_eq_true', decide_eq_false_iff_not]
  constructor
  · rintro ⟨_, _, h⟩
    refine ⟨fun x hx => ?_, ?_, ?_⟩
    · obtain ⟨i, hi, rfl⟩ := List.getElem_of_mem hx
      have := h i hi
      simp only [lbAt, Bool.and_eq_true, List.getD, List.getElem?_eq_getElem hi, Option.getD_some] at this
      exact this.1
    · intro e
      have := h 0 (by omega)
      rw [e] at this
      simp [lbAt] at this
    · intro e
      have := h (p.length - 1) (by omega)
      rw [e] at this
      simp [lbAt] at this
      omega
  · rintro ⟨ha, hb, hc⟩
    refine ⟨h1, h2, fun i hi => ?_⟩
    have hl : lb (p.getD i 0) = true := ha _ (by simp [List.getD, List.getElem?_eq_getElem hi])
    simp only [lbAt, Bool.and_eq_true, Bool.or_eq_true, Bool.not_eq_true', decide_eq_false_iff_not, decide_eq_true_eq]
    refine ⟨hl, ?_⟩
    by_cases e : p.getD i 0 = 45
    · right
      refine ⟨?_, ?_⟩
      · apply Decidable.byContradiction; intro hn
        obtain rfl : i = 0 := by omega
        exact hb e
      · apply Decidable.byContradiction; intro hn; exact hc (by rw [show p.length - 1 = i by omega]; exact e)
    · exact Or.inl e
set_option maxRecDepth 100000 in
set_option maxHeartbeats 2000000 in
theorem dlabel_at (t : ByteArray) (w : World) (h1 : 1 ≤ t.size) (h63 : t.size ≤ 63) : Calls Tryd.prog 29 #[.string t] w fun e w' => e = .returned (.bool (labB (byt t))) ∧ w = w' := by
  obtain ⟨l, hl⟩ : ∃ l, l = byt t := ⟨_, rfl⟩
  have hsz : t.size = l.length := by rw [hl, byt_length]
  have hix : ∀ i, i < t.size → ∀ w, (Instr.index 9 (.string t) (.int .i64 (i : Nat))).run Tryd.prog w = .ok (.int .u8 (l.getD i 0 : Nat)) w := fun i hi w => by rw [hl]; exact run_ixstr t i hi w
  have hlt : ∀ k, l.getD k 0 < 256 := fun k => by rw [hl]; exact getD_lt (byt_lt t) k
  rw [← hl]
  have HLB := hide (lab_ref (p := l) (by omega) (by omega))
  have hne : t.toList.isEmpty = false := by rw [isEmpty_byt, ← hl]; simp; intro e; have : l.length = 0 := (by rw [e]; rfl); omega
  have hx0 : ∀ w, (Instr.index 9 (.string t) (.int .i64 0)).run Tryd.prog w = .ok (.int .u8 (l.getD 0 0 : Nat)) w := fun w => hix 0 (by omega) w
  have hxl := hix (t.size - 1) (by omega)
  obtain ⟨N, hN⟩ : ∃ N, N = t.size := ⟨_, rfl⟩
  have HIX := hide hix
  have HLT := hide hlt
  have HSZ : Hid (N = l.length) := by show _ = _; rw [hN, hsz]
  have hNI : (t.size : Int) = (N : Int) := by rw [hN]
  rw [← hN] at hxl h1 h63
  have HN := hide hN
  have hl0 := hlt 0
  have hl1 := hlt (N - 1)
  obtain ⟨c0, hc0⟩ : ∃ c0, c0 = l.getD 0 0 := ⟨_, rfl⟩
  obtain ⟨c9, hc9⟩ : ∃ c9, c9 = l.getD (N - 1) 0 := ⟨_, rfl⟩
  rw [← hc0] at hx0 hl0
  rw [← hc9] at hxl hl1
  have HC0 := hide hc0
  have HC9 := hide hc9
  clear hix hlt hl hsz hN hc0 hc9
  have hxl' : ∀ w, (Instr.index 9 (.string t) (.int .i64 ((N : Int) - 1))).run Tryd.prog w = .ok (.int .u8 (c9 : Nat)) w := by rw [show ((N : Int) - 1) = ((N - 1 : Nat) : Int) by omega]; exact hxl
  clear hxl
  go_enter Tryd.func29, Tryd.ntmps29
  go_wp2_with fail
  go_loop [3] (fun i => ∃ k : Nat, k ≤ N ∧ i = .int .i64 k ∧ Hid ((l.take k).all lb = true)) (fun i => N - (intOf i).toNat)
  case atStart => exact ⟨0, by omega, rfl, rfl⟩
  case round =>
    obtain ⟨k, hk, rfl, HI⟩ := hrel
    by_cases hkN : k < N
    · have hx := HIX.out k (by rw [← HN.out]; exact hkN)
      have hc := HLT.out k
      obtain ⟨c, hcc⟩ : ∃ c, c = l.getD k 0 := ⟨_, rfl⟩
      rw [← hcc] at hx hc
      have HC := hide hcc
      clear hcc
      have hd : decide ((k : Int) < (N : Int)) = true := decide_eq_true (by omega)
      cases hb : lb c with
      | false =>
        have HB := hide hb
        clear hb
        go_wp2_with fail
        refine (letter_at c _ hc).mono ?_
        rintro e w' ⟨rfl, rfl⟩
        rw [HB.out]
        go_wp2_with fail
        go_ret
        refine ⟨?_, rfl⟩
        have : l.all lb = false := by
          rw [List.all_eq_false]
          have hl : k < l.length := by rw [← HSZ.out]; exact hkN
          refine ⟨c, ?_, by simp [HB.out]⟩
          rw [HC.out, List.getD, List.getElem?_eq_getElem hl]; exact List.getElem_mem _
        rw [HLB.out, this]; rfl
      | true =>
        have HB := hide hb
        clear hb
        go_wp2_with fail
        refine (letter_at c _ hc).mono ?_
        rintro e w' ⟨rfl, rfl⟩
        rw [HB.out]
        go_wp2_with fail
        go_round
        case rel => exact ⟨k + 1, by omega, by go_num, by
          have hl : k < l.length := by rw [← HSZ.out]; exact hkN
          show _ = _
          rw [take_snoc l k hl, List.all_append, HI.out, ← HC.out]; simp [HB.out]⟩
        case measure => simp [intOf]; omega
    · have hd : decide ((k : Int) < (N : Int)) = false := decide_eq_false (by omega)
      have hall : Hid (l.all lb = true) := by
        have := HI.out
        rw [List.take_of_length_le (by rw [← HSZ.out]; omega)] at this
        exact this
      have HR : Hid (labB l = (!decide (c0 = 45) && !decide (c9 = 45))) := by show _ = _; rw [HLB.out, hall.out, ← HC0.out, ← HSZ.out, ← HC9.out]; simp
      go_wp2_with fail
      all_goals go_ret
      all_goals refine ⟨?_, rfl⟩
      all_goals rw [HR.out]
      all_goals refine congrArg (fun x => Ending.returned (Value.bool x)) ?_
      all_goals (rw [Bool.eq_iff_iff]; simp; try omega)
end Go.Proofs.YtelfikbahcckaaaDoor
