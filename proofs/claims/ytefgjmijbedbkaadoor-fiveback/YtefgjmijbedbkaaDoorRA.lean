/-
  The reference's Choice, Verdict; conditions as each theorem has them.
-/
import Derived.Test.YtefgjmijbedbkaaDoorZ
import Derived.Test.YtefgjmijbedbkaaDoorX
import Derived.Deep.DrawnRows
set_option linter.unusedSimpArgs false
set_option linter.unusedVariables false
namespace Go.Proofs.YtefgjmijbedbkaaDoor
open Go.RowKit

theorem badG_N (e : Er) : (badG e)[0]? = some (.int .i64 (erN e : Nat)) := by cases e <;> rfl
theorem erN_pos {e : Er} (h : e ≠ .ok) : 0 < erN e := by cases e <;> simp_all [erN]
theorem erN_le (e : Er) : erN e ≤ 2 := by cases e <;> simp [erN]
def pairV (b : List Nat) (v : Nat) : Value := .tuple #[.int .i64 ((pair b v).1 : Nat), .int .i64 ((pair b v).2.1 : Nat), badF (pair b v).2.2]
/-- The reference's local copy of a fault: the block g of the world W. -/
structure Loc (w W : World) (e : Er) (g : Nat) : Prop where
  row : W.heap[g]? = some (.cells (badG e) 33)
  n : W.cell? ⟨g, 0, none⟩ = some (.int .i64 (erN e : Nat))
theorem Loc.new {w : World} (e : Er) : Loc w ((w.alloc (.cells (badC .ok) 33)).setRow w.heap.size (badG e)) e w.heap.size := by
  have r : ((w.alloc (.cells (badC .ok) 33)).setRow w.heap.size (badG e)).heap[w.heap.size]? = some (.cells (badG e) 33) := setRow_heap _ _ _ _ _ (alloc_new _ _)
  exact ⟨r, by simp only [World.cell?, r]; exact badG_N e⟩
attribute [local go_sem ↓] run_op33 run_opst33 Go.wp_at_zero Go.wp_at_succ
attribute [local go_sem] rowOf_drew isRow_drew arrAt_ptr isAt_ptr putAt_ptr canPut_drew setRow_drew
set_option maxRecDepth 100000 in
set_option maxHeartbeats 4000000 in
theorem rtwo_at (x : Option Addr) (n c : Nat) (b : List Nat) (v : Nat) (w : World) (h : Src w x n c b) (hv : v < 256) : Calls Tryd.prog 49 #[.slice x n c, .int .u8 v] w fun e w' => e = .returned (pairV b v) ∧ Below w.heap.size w w' := by
  have hl := h.hlen
  have hm := h.hmax
  have hc := h.hcap
  unfold maxLen at hm
  obtain ⟨W0, hW0⟩ : ∃ W0, W0 = w.alloc (.cells (badC .ok) 33) := ⟨_, rfl⟩
  have b0 : Below w.heap.size w W0 := by rw [hW0]; exact (Below.refl _ _).alloc (Nat.le_refl _) _
  have r0 : W0.heap[w.heap.size]? = some (.cells (badC .ok) 33) := by rw [hW0]; exact alloc_new _ _
  have HW0 : Hid (w.alloc (.cells #[.int .i64 0, .string ⟨#[]⟩, .string ⟨#[]⟩, .string ⟨#[]⟩, .string ⟨#[]⟩, .int .i64 0, .int .i64 0, .int .i64 0, .int .i64 0, .int .i64 0] 33) = W0) := hW0.symm
  have B0 := hide b0
  have R0 := hide r0
  have S0 := hide (h.below b0)
  clear h hW0 b0 r0
  obtain ⟨er, her⟩ : ∃ er, er = ver b v := ⟨_, rfl⟩
  have HER := hide her
  have HV := hide (rversion_at x n c b v W0 S0.out hv)
  rw [← her] at HV
  clear her
  go_enter Tryd.func49, Tryd.ntmps49
  go_wp2_with fail
  rw [HW0.out]
  refine HV.out.mono ?_
  rintro e w1 ⟨rfl, hb1⟩
  rw [badF_badG]
  obtain ⟨W1, hW1⟩ : ∃ W, W = (w1.alloc (.cells (badC .ok) 33)).setRow w1.heap.size (badG er) := ⟨_, rfl⟩
  have z1 : (w1.alloc (.cells (badC .ok) 33)).heap[w1.heap.size]? = some (.cells (badC .ok) 33) := alloc_new _ _
  have L1 := Loc.new (w := w1) er
  rw [← hW1] at L1
  have b1 : Below w1.heap.size w1 W1 := by rw [hW1]; exact below_setRow ((Below.refl _ _).alloc (Nat.le_refl _) _) (Nat.le_refl _) _
  have cN1 := L1.n
  have b12 : Below W0.heap.size W0 W1 := hb1.trans (b1.mono hb1.size)
  have B1 := hide (B0.out.trans (b12.mono B0.out.size))
  have S1 := hide (S0.out.below b12)
  have R1 := hide (keepB b12 R0.out)
  have LR1 := hide L1.row
  have Z1 := hide z1
  have HW1 := hide hW1
  have hsw1 : w.heap.size < w1.heap.size := Nat.lt_of_lt_of_le (lt_of_some R0.out) hb1.size
  clear L1 b1 b12 hb1 z1 hW1
  by_cases hok1 : er = .ok
  · subst hok1
    have cN : W1.cell? ⟨w1.heap.size, 0, none⟩ = some (.int .i64 0) := cN1
    clear cN1
    by_cases h2 : n < 2
    · have HS : Hid (pair b v = (0, 0, sh b)) := by show _ = _; unfold pair; rw [if_pos HER.out.symm, if_pos (by omega)]
      have g1 : decide ((n : Int) < 2) = true := decide_eq_true (by omega)
      have g1' : decide (n < 2) = true := decide_eq_true h2
      clear h2
      go_wp2_with (first | (refine wpList_store_rowW rfl 33 _ _ rfl w1.heap.size (badG .ok) rfl rfl 33 (badC .ok) Z1.out (badGI _) (by simp [badC_size, badG_size]) (badG_one _) W1 HW1.out ?_))
      refine (rshort_at x n c b _ S1.out).mono ?_
      rintro e2 w5 ⟨rfl, hb5⟩
      have hr5 : w5.heap[w.heap.size]? = some (.cells (badC .ok) 33) := keepB hb5 R1.out
      obtain ⟨W6, hW6⟩ : ∃ W6, W6 = w5.setRow w.heap.size (badG (sh b)) := ⟨_, rfl⟩
      have R6 : Hid (W6.heap[w.heap.size]? = some (.cells (badG (sh b)) 33)) := by rw [hW6]; exact setRow_heap _ _ _ _ _ hr5
      have B6 : Hid (Below w.heap.size w W6) := by rw [hW6]; exact below_setRow (B1.out.trans (hb5.mono B1.out.size)) (Nat.le_refl _) _
      have HR5 := hide hr5
      have HW6 := hide hW6
      clear hr5 hW6 hb5
      rw [badF_badG]
      go_wp2_with (first | (refine wpList_store_rowW rfl 33 _ _ rfl w.heap.size (badG (sh b)) rfl rfl 33 (badC .ok) HR5.out (badGI _) (by simp [badC_size, badG_size]) (badG_one _) W6 HW6.out ?_))
      refine bodyPost_ret (res_ttc rfl _ _ w.heap.size 33 (badG (sh b)) (0, 0) _ rfl R6.out Tryd.underlying33 rfl (badGI _)) rfl ⟨?_, B6.out⟩
      unfold pairV; rw [HS.out]; rfl
    · have HS : Hid (pair b v = (b.getD 1 0, 2, .ok)) := by show _ = _; unfold pair; rw [if_pos HER.out.symm, if_neg (by omega)]
      have g1 : decide ((n : Int) < 2) = false := decide_eq_false (by omega)
      have g1' : decide (n < 2) = false := decide_eq_false h2
      have hn2 : 1 < n := by omega
      obtain ⟨xb, xo, rfl, hxl, hcell⟩ := S1.out.lies (by omega)
      have hc0 := hcell 1 hn2
      have hb := getD_lt S1.out.byte 1
      generalize b.getD 1 0 = z at hc0 hb HS
      clear h2 hcell
      obtain ⟨W7, hW7⟩ : ∃ W7, W7 = W1.setRow w.heap.size (badC .ok) := ⟨_, rfl⟩
      have R7 : Hid (W7.heap[w.heap.size]? = some (.cells (badC .ok) 33)) := by rw [hW7]; exact setRow_heap _ _ _ _ _ R1.out
      have B7 : Hid (Below w.heap.size w W7) := by rw [hW7]; exact below_setRow B1.out (Nat.le_refl _) _
      have HW7 := hide hW7
      clear hW7
      go_wp2_with (first | (refine wpList_store_rowW rfl 33 _ _ rfl w1.heap.size (badG .ok) rfl rfl 33 (badC .ok) Z1.out (badGI _) (by simp [badC_size, badG_size]) (badG_one _) W1 HW1.out ?_) | (refine wpList_store_rowW rfl 33 _ _ rfl w.heap.size (badC .ok) rfl rfl 33 (badC .ok) R1.out info33 rfl (badC_one _) W7 HW7.out ?_))
      refine bodyPost_ret (res_ttc rfl _ _ w.heap.size 33 (badC .ok) (0, 0) _ rfl R7.out Tryd.underlying33 rfl info33) rfl ⟨?_, B7.out⟩
      unfold pairV; rw [HS.out]; rfl
  · have HS : Hid (pair b v = (0, 0, er)) := by show _ = _; unfold pair; rw [if_neg (by rw [← HER.out]; exact hok1), ← HER.out]
    have hpos := erN_pos hok1
    have hle := erN_le er
    have g1 : decide (0 < (erN er : Int)) = true := decide_eq_true (by omega)
    have g1' : decide (0 < erN er) = true := decide_eq_true hpos
    generalize erN er = N at cN1 hpos hle g1 g1'
    go_wp2_with (first | (refine wpList_store_rowW rfl 33 _ _ rfl w1.heap.size (badG er) rfl rfl 33 (badC .ok) Z1.out (badGI _) (by simp [badC_size, badG_size]) (badG_one _) W1 HW1.out ?_))
    have i3 : isRow W1 w1.heap.size 10 = true := isRow_of LR1.out (badG_size _)
    have j3 : rowOf W1 w1.heap.size = badG er := rowOf_of LR1.out
    have cp : canPut 10 33 W1 (.pointer (some ⟨w.heap.size, 0, none⟩)) (.agg (badG er)) = true := canPut_row R1.out (badC_size _) (badG_size _) (badG_one _)
    obtain ⟨W9, hW9⟩ : ∃ W9, W1.setRow w.heap.size (badG er) = W9 := ⟨_, rfl⟩
    have R9 : Hid (W9.heap[w.heap.size]? = some (.cells (badG er) 33)) := by rw [← hW9]; exact setRow_heap _ _ _ _ _ R1.out
    have B9 : Hid (Below w.heap.size w W9) := by rw [← hW9]; exact below_setRow B1.out (Nat.le_refl _) _
    go_region
    all_goals (try go_wp2_with fail)
    all_goals (refine bodyPost_ret (res_ttc rfl _ _ w.heap.size 33 (badG er) (0, 0) _ rfl R9.out Tryd.underlying33 rfl (badGI _)) rfl ⟨?_, B9.out.drew⟩)
    all_goals (unfold pairV; rw [HS.out, badF_badG]; rfl)
set_option maxRecDepth 100000 in
set_option maxHeartbeats 4000000 in
theorem rchoice_at (x : Option Addr) (n c : Nat) (b : List Nat) (w : World) (h : Src w x n c b) : Calls Tryd.prog 19 #[.slice x n c] w fun e w' => e = .returned (pairV b 5) ∧ Below w.heap.size w w' := by
  obtain ⟨W0, hW0⟩ : ∃ W0, W0 = w.alloc (.cells (badC .ok) 33) := ⟨_, rfl⟩
  have b0 : Below w.heap.size w W0 := by rw [hW0]; exact (Below.refl _ _).alloc (Nat.le_refl _) _
  have r0 : W0.heap[w.heap.size]? = some (.cells (badC .ok) 33) := by rw [hW0]; exact alloc_new _ _
  have HW0 : Hid (w.alloc (.cells #[.int .i64 0, .string ⟨#[]⟩, .string ⟨#[]⟩, .string ⟨#[]⟩, .string ⟨#[]⟩, .int .i64 0, .int .i64 0, .int .i64 0, .int .i64 0, .int .i64 0] 33) = W0) := hW0.symm
  have B0 := hide b0
  have R0 := hide r0
  have S0 := hide (h.below b0)
  clear h hW0 b0 r0
  have HT := hide (rtwo_at x n c b 5 W0 S0.out (by omega))
  go_enter Tryd.func19, Tryd.ntmps19
  go_wp2_with fail
  rw [HW0.out]
  refine HT.out.mono ?_
  rintro e w5 ⟨rfl, hb5⟩
  unfold pairV
  obtain ⟨q, K, er, hE⟩ : ∃ q K er, pair b 5 = (q, K, er) := ⟨_, _, _, rfl⟩
  have HS := hide hE
  rw [hE]
  simp only [badF_badG]
  have hr5 : w5.heap[w.heap.size]? = some (.cells (badC .ok) 33) := keepB hb5 R0.out
  obtain ⟨W6, hW6⟩ : ∃ W6, W6 = w5.setRow w.heap.size (badG er) := ⟨_, rfl⟩
  have R6 : Hid (W6.heap[w.heap.size]? = some (.cells (badG er) 33)) := by rw [hW6]; exact setRow_heap _ _ _ _ _ hr5
  have B6 : Hid (Below w.heap.size w W6) := by rw [hW6]; exact below_setRow (B0.out.trans (hb5.mono B0.out.size)) (Nat.le_refl _) _
  have HR5 := hide hr5
  have HW6 := hide hW6
  clear hr5 hW6 hb5 hE
  go_wp2_with (first | (refine wpList_store_rowW rfl 33 _ _ rfl w.heap.size (badG er) rfl rfl 33 (badC .ok) HR5.out (badGI _) (by simp [badC_size, badG_size]) (badG_one _) W6 HW6.out ?_))
  refine bodyPost_ret (res_ttc rfl _ _ w.heap.size 33 (badG er) (0, 0) _ rfl R6.out Tryd.underlying33 rfl (badGI _)) rfl ⟨?_, B6.out⟩
  unfold pairV; rw [HS.out, badF_badG]; rfl
set_option maxRecDepth 100000 in
set_option maxHeartbeats 4000000 in
theorem rverdict_at (x : Option Addr) (n c : Nat) (b : List Nat) (w : World) (h : Src w x n c b) : Calls Tryd.prog 21 #[.slice x n c] w fun e w' => e = .returned (pairV b 1) ∧ Below w.heap.size w w' := by
  obtain ⟨W0, hW0⟩ : ∃ W0, W0 = w.alloc (.cells (badC .ok) 33) := ⟨_, rfl⟩
  have b0 : Below w.heap.size w W0 := by rw [hW0]; exact (Below.refl _ _).alloc (Nat.le_refl _) _
  have r0 : W0.heap[w.heap.size]? = some (.cells (badC .ok) 33) := by rw [hW0]; exact alloc_new _ _
  have HW0 : Hid (w.alloc (.cells #[.int .i64 0, .string ⟨#[]⟩, .string ⟨#[]⟩, .string ⟨#[]⟩, .string ⟨#[]⟩, .int .i64 0, .int .i64 0, .int .i64 0, .int .i64 0, .int .i64 0] 33) = W0) := hW0.symm
  have B0 := hide b0
  have R0 := hide r0
  have S0 := hide (h.below b0)
  clear h hW0 b0 r0
  have HT := hide (rtwo_at x n c b 1 W0 S0.out (by omega))
  go_enter Tryd.func21, Tryd.ntmps21
  go_wp2_with fail
  rw [HW0.out]
  refine HT.out.mono ?_
  rintro e w5 ⟨rfl, hb5⟩
  unfold pairV
  obtain ⟨q, K, er, hE⟩ : ∃ q K er, pair b 1 = (q, K, er) := ⟨_, _, _, rfl⟩
  have HS := hide hE
  rw [hE]
  simp only [badF_badG]
  have hr5 : w5.heap[w.heap.size]? = some (.cells (badC .ok) 33) := keepB hb5 R0.out
  obtain ⟨W6, hW6⟩ : ∃ W6, W6 = w5.setRow w.heap.size (badG er) := ⟨_, rfl⟩
  have R6 : Hid (W6.heap[w.heap.size]? = some (.cells (badG er) 33)) := by rw [hW6]; exact setRow_heap _ _ _ _ _ hr5
  have B6 : Hid (Below w.heap.size w W6) := by rw [hW6]; exact below_setRow (B0.out.trans (hb5.mono B0.out.size)) (Nat.le_refl _) _
  have HR5 := hide hr5
  have HW6 := hide hW6
  clear hr5 hW6 hb5 hE
  go_wp2_with (first | (refine wpList_store_rowW rfl 33 _ _ rfl w.heap.size (badG er) rfl rfl 33 (badC .ok) HR5.out (badGI _) (by simp [badC_size, badG_size]) (badG_one _) W6 HW6.out ?_))
  refine bodyPost_ret (res_ttc rfl _ _ w.heap.size 33 (badG er) (0, 0) _ rfl R6.out Tryd.underlying33 rfl (badGI _)) rfl ⟨?_, B6.out⟩
  unfold pairV; rw [HS.out, badF_badG]; rfl
end Go.Proofs.YtefgjmijbedbkaaDoor
