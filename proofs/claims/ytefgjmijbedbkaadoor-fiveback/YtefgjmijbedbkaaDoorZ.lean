/-
  The reference's faults, version, text; conditions as each theorem has them.
-/
import Derived.Test.YtefgjmijbedbkaaDoorE
import Derived.Test.YtefgjmijbedbkaaDoorU
import Derived.Test.YtefgjmijbedbkaaDoorW
set_option linter.unusedSimpArgs false
set_option linter.unusedVariables false
namespace Go.Proofs.YtefgjmijbedbkaaDoor
open Go.RowKit

set_option maxHeartbeats 1000000 in
theorem fail5_at (a c : Nat) (w : World) : Calls Tryd.prog 36 #[.string ⟨#[102, 105, 118, 101]⟩, .int .i64 a, .int .i64 c] w fun e w' => e = .returned (badF (.one a c)) ∧ Below w.heap.size w w' := by
  go_enter Tryd.func36, Tryd.ntmps36
  go_wp2
  go_returns
  exact ⟨rfl, ((Below.refl _ _).alloc (Nat.le_refl _) _).alloc (by simp) _⟩
set_option maxHeartbeats 1000000 in
theorem rfault_at (a c : Nat) (w : World) : Calls Tryd.prog 46 #[.int .i64 a, .int .i64 c] w fun e w' => e = .returned (badF (.one a c)) ∧ Below w.heap.size w w' := by
  go_enter Tryd.func46, Tryd.ntmps46
  go_wp2_with fail
  refine (fail5_at a c _).mono ?_
  rintro e w' ⟨rfl, hbel⟩
  have hr : w'.heap[w.heap.size]? = some (.cells (badC .ok) 33) := (hbel.block w.heap.size (by simp)).trans (alloc_new _ _)
  obtain ⟨W2, hW2⟩ : ∃ W2, W2 = w'.setRow w.heap.size (badG (.one a c)) := ⟨_, rfl⟩
  have hrow : W2.heap[w.heap.size]? = some (.cells (badG (.one a c)) 33) := by rw [hW2]; exact setRow_heap _ _ _ _ _ hr
  have hB : Below w.heap.size w W2 := by
    have h1 : Below w.heap.size w w' := ((Below.refl _ w).alloc (Nat.le_refl _) _).trans (hbel.mono (by simp))
    rw [hW2]; exact below_setRow h1 (Nat.le_refl _) _
  have HR := hide hr
  have HW := hide hW2
  have HROW := hide hrow
  have HB := hide hB
  clear hr hW2 hrow hB hbel
  rw [badF_badG]
  go_wp2_with (first | (refine wpList_store_rowW rfl 33 _ _ rfl w.heap.size (badG (.one a c)) rfl rfl 33 (badC .ok) HR.out (badGI _) rfl (badG_one _) W2 HW.out ?_))
  refine bodyPost_ret (results_cell_row rfl _ _ w.heap.size 33 (badG (.one a c)) (0, 0) _ rfl HROW.out Tryd.underlying33 rfl (badGI _)) rfl ⟨rfl, HB.out⟩
set_option maxHeartbeats 1000000 in
theorem rshort_at (x : Option Addr) (n c : Nat) (b : List Nat) (w : World) (h : Src w x n c b) : Calls Tryd.prog 45 #[.slice x n c] w fun e w' => e = .returned (badF (sh b)) ∧ Below w.heap.size w w' := by
  have hl := h.hlen
  have hm := h.hmax
  have hc := h.hcap
  unfold maxLen at hm
  have HS : Hid (sh b = .one n 6) := by show _ = _; unfold sh; rw [hl]
  clear h
  go_enter Tryd.func45, Tryd.ntmps45
  go_wp2_with fail
  refine (rfault_at n 6 _).mono ?_
  rintro e w' ⟨rfl, hbel⟩
  have hr : w'.heap[w.heap.size]? = some (.cells (badC .ok) 33) := (hbel.block w.heap.size (by simp)).trans (alloc_new _ _)
  obtain ⟨W2, hW2⟩ : ∃ W2, W2 = w'.setRow w.heap.size (badG (.one n 6)) := ⟨_, rfl⟩
  have hrow : W2.heap[w.heap.size]? = some (.cells (badG (.one n 6)) 33) := by rw [hW2]; exact setRow_heap _ _ _ _ _ hr
  have hB : Below w.heap.size w W2 := by
    have h1 : Below w.heap.size w w' := ((Below.refl _ w).alloc (Nat.le_refl _) _).trans (hbel.mono (by simp))
    rw [hW2]; exact below_setRow h1 (Nat.le_refl _) _
  have HR := hide hr
  have HW := hide hW2
  have HROW := hide hrow
  have HB := hide hB
  clear hr hW2 hrow hB hbel
  rw [badF_badG]
  go_wp2_with (first | (refine wpList_store_rowW rfl 33 _ _ rfl w.heap.size (badG (.one n 6)) rfl rfl 33 (badC .ok) HR.out (badGI _) rfl (badG_one _) W2 HW.out ?_))
  refine bodyPost_ret (results_cell_row rfl _ _ w.heap.size 33 (badG (.one n 6)) (0, 0) _ rfl HROW.out Tryd.underlying33 rfl (badGI _)) rfl ⟨?_, HB.out⟩
  rw [HS.out]; rfl
/-- How many cells a Bad has. -/
theorem info33' : (Tryd.prog.info? 33).map (·.size) = some 10 := info33
set_option maxRecDepth 100000 in
set_option maxHeartbeats 2000000 in
theorem rversion_at (x : Option Addr) (n c : Nat) (b : List Nat) (v : Nat) (w : World) (h : Src w x n c b) (hv : v < 256) : Calls Tryd.prog 41 #[.slice x n c, .int .u8 v] w fun e w' => e = .returned (badF (ver b v)) ∧ Below w.heap.size w w' := by
  have hl := h.hlen
  have hm := h.hmax
  have hc := h.hcap
  unfold maxLen at hm
  obtain ⟨W0, hW0⟩ : ∃ W0, W0 = w.alloc (.cells (badC .ok) 33) := ⟨_, rfl⟩
  have b0 : Below w.heap.size w W0 := by rw [hW0]; exact (Below.refl _ _).alloc (Nat.le_refl _) _
  have r0 : W0.heap[w.heap.size]? = some (.cells (badC .ok) 33) := by rw [hW0]; exact alloc_new _ _
  have HW0 : Hid (w.alloc (.cells #[.int .i64 0, .string ⟨#[]⟩, .string ⟨#[]⟩, .string ⟨#[]⟩, .string ⟨#[]⟩, .int .i64 0, .int .i64 0, .int .i64 0, .int .i64 0, .int .i64 0] 33) = W0) := hW0.symm
  have B0 := hide b0
  have R0 := hide r0
  have S0 := hide (h.below b0)
  by_cases h0 : n = 0
  · have HS : Hid (ver b v = sh b) := by show _ = _; unfold ver; rw [if_pos (List.eq_nil_of_length_eq_zero (by omega))]
    rw [HS.out]
    have hd : ((n : Int) == 0) = true := by simp; omega
    clear h h0 hW0 b0 r0
    go_enter Tryd.func41, Tryd.ntmps41
    go_wp2_with fail
    rw [HW0.out]
    refine (rshort_at x n c b _ S0.out).mono ?_
    rintro e w2 ⟨rfl, hb2⟩
    have hr2 : w2.heap[w.heap.size]? = some (.cells (badC .ok) 33) := keepB hb2 R0.out
    obtain ⟨W2, hW2⟩ : ∃ W2, W2 = w2.setRow w.heap.size (badG (sh b)) := ⟨_, rfl⟩
    have hrow : W2.heap[w.heap.size]? = some (.cells (badG (sh b)) 33) := by rw [hW2]; exact setRow_heap _ _ _ _ _ hr2
    have hB : Below w.heap.size w W2 := by rw [hW2]; exact below_setRow (B0.out.trans (hb2.mono B0.out.size)) (Nat.le_refl _) _
    have HR := hide hr2
    have HW := hide hW2
    have HROW := hide hrow
    have HB := hide hB
    clear hr2 hW2 hrow hB hb2
    rw [badF_badG]
    go_wp2_with (first | (refine wpList_store_rowW rfl 33 _ _ rfl w.heap.size (badG (sh b)) rfl rfl 33 (badC .ok) HR.out (badGI _) (by simp [badC_size, badG_size]) (badG_one _) W2 HW.out ?_))
    refine bodyPost_ret (results_cell_row rfl _ _ w.heap.size 33 (badG (sh b)) (0, 0) _ rfl HROW.out Tryd.underlying33 rfl (badGI _)) rfl ⟨rfl, HB.out⟩
  · have hd : ((n : Int) == 0) = false := by simp; omega
    obtain ⟨xb, xo, rfl, hxl, hcell⟩ := h.lies (by omega)
    have hc0 := hcell 0 (by omega)
    rw [Nat.add_zero] at hc0
    have hb := getD_lt h.byte 0
    obtain ⟨z, hz⟩ : ∃ z, z = b.getD 0 0 := ⟨_, rfl⟩
    rw [← hz] at hc0 hb
    by_cases hq : z = v
    · have HS : Hid (ver b v = .ok) := ver_ok.2 ⟨by omega, hz.symm.trans hq⟩
      rw [HS.out]
      have hd2 : ((z : Int) != (v : Int)) = false := by simp; omega
      clear h hq hcell hW0 b0 r0 hz
      go_enter Tryd.func41, Tryd.ntmps41
      go_wp2_with fail
      rw [HW0.out]
      refine bodyPost_ret (results_cell_row rfl _ _ w.heap.size 33 (badC .ok) (0, 0) _ rfl R0.out Tryd.underlying33 rfl info33) rfl ⟨rfl, B0.out⟩
    · have HS : Hid (ver b v = .one 0 70) := by show _ = _; unfold ver; rw [if_neg (fun e => by rw [e] at hl; simp at hl; omega), if_neg (fun e => hq (hz.trans e))]
      rw [HS.out]
      have hd2 : ((z : Int) != (v : Int)) = true := by simp; omega
      clear h hq hcell hW0 b0 r0 hz
      go_enter Tryd.func41, Tryd.ntmps41
      go_wp2_with fail
      rw [HW0.out]
      refine (rfault_at 0 70 _).mono ?_
      rintro e w2 ⟨rfl, hb2⟩
      have hr2 : w2.heap[w.heap.size]? = some (.cells (badC .ok) 33) := keepB hb2 R0.out
      obtain ⟨W2, hW2⟩ : ∃ W2, W2 = w2.setRow w.heap.size (badG (.one 0 70)) := ⟨_, rfl⟩
      have hrow : W2.heap[w.heap.size]? = some (.cells (badG (.one 0 70)) 33) := by rw [hW2]; exact setRow_heap _ _ _ _ _ hr2
      have hB : Below w.heap.size w W2 := by rw [hW2]; exact below_setRow (B0.out.trans (hb2.mono B0.out.size)) (Nat.le_refl _) _
      have HR := hide hr2
      have HW := hide hW2
      have HROW := hide hrow
      have HB := hide hB
      clear hr2 hW2 hrow hB hb2
      rw [badF_badG]
      go_wp2_with (first | (refine wpList_store_rowW rfl 33 _ _ rfl w.heap.size (badG (.one 0 70)) rfl rfl 33 (badC .ok) HR.out (badGI _) (by simp [badC_size, badG_size]) (badG_one _) W2 HW.out ?_))
      refine bodyPost_ret (results_cell_row rfl _ _ w.heap.size 33 (badG (.one 0 70)) (0, 0) _ rfl HROW.out Tryd.underlying33 rfl (badGI _)) rfl ⟨rfl, HB.out⟩

theorem res_ttc {P : Program} {fn : Func} {u v q : Tmp} {ty2 : TypeId} (h : fn.results = #[.tmp u, .tmp v, .cell q ty2]) (tmps : Array Value) (w : World)
    (g2 : Nat) (t2 : TypeId) (cs2 : Array Value) (fr2 : Nat × Nat) (d2 : TypeDesc)
    (hp2 : tmps.getD q undef = .pointer (some ⟨g2, 0, none⟩)) (hg2 : w.heap[g2]? = some (.cells cs2 t2 fr2))
    (hu2 : P.underlying ty2 = some d2) (hd2 : (match d2 with | .struct _ | .array _ _ => true | _ => false) = true) (hi2 : (P.info? ty2).map (·.size) = some cs2.size) :
    (results fn tmps).run P w = .ok (.tuple #[tmps.getD u undef, tmps.getD v undef, .agg cs2]) w := by
  have hp2' : tmps[q]?.getD undef = .pointer (some ⟨g2, 0, none⟩) := by simpa using hp2
  simp only [results, h]
  simp [Sem.run_bind, Result.andThen, hp2', asAddr, run_loadVar_row w g2 t2 ty2 cs2 fr2 d2 hg2 hu2 hd2 hi2]
def txtV (b : List Nat) (a m : Nat) : Value := .tuple #[.string (strN (txt b a m).1), .int .i64 ((txt b a m).2.1 : Nat), badF (txt b a m).2.2]
set_option maxRecDepth 100000 in
set_option maxHeartbeats 4000000 in
theorem rtext_at (x : Option Addr) (n c : Nat) (b : List Nat) (p m : Nat) (w : World) (h : Src w x n c b) (hp : p ≤ 1000) (hm2 : m ≤ 255) : Calls Tryd.prog 42 #[.slice x n c, .int .i64 p, .int .i64 m] w fun e w' => e = .returned (txtV b p m) ∧ Below w.heap.size w w' := by
  have hl := h.hlen
  have hm := h.hmax
  have hc := h.hcap
  unfold maxLen at hm
  obtain ⟨W0, hW0⟩ : ∃ W0, W0 = w.alloc (.cells (badC .ok) 33) := ⟨_, rfl⟩
  have b0 : Below w.heap.size w W0 := by rw [hW0]; exact (Below.refl _ _).alloc (Nat.le_refl _) _
  have r0 : W0.heap[w.heap.size]? = some (.cells (badC .ok) 33) := by rw [hW0]; exact alloc_new _ _
  have HW0 : Hid (w.alloc (.cells #[.int .i64 0, .string ⟨#[]⟩, .string ⟨#[]⟩, .string ⟨#[]⟩, .string ⟨#[]⟩, .int .i64 0, .int .i64 0, .int .i64 0, .int .i64 0, .int .i64 0] 33) = W0) := hW0.symm
  have B0 := hide b0
  have R0 := hide r0
  have S0 := hide (h.below b0)
  by_cases h0 : n ≤ p
  · have HS : Hid (txt b p m = ([], 0, sh b)) := by show _ = _; unfold txt; rw [if_pos (by omega)]
    have hd : decide ((n : Int) ≤ p) = true := decide_eq_true (by omega)
    have hd' : decide (n ≤ p) = true := decide_eq_true h0
    clear h h0 hW0 b0 r0
    go_enter Tryd.func42, Tryd.ntmps42
    go_wp2_with fail
    rw [HW0.out]
    refine (rshort_at x n c b _ S0.out).mono ?_
    rintro e w2 ⟨rfl, hb2⟩
    have hr2 : w2.heap[w.heap.size]? = some (.cells (badC .ok) 33) := keepB hb2 R0.out
    obtain ⟨W2, hW2⟩ : ∃ W2, W2 = w2.setRow w.heap.size (badG (sh b)) := ⟨_, rfl⟩
    have hrow : W2.heap[w.heap.size]? = some (.cells (badG (sh b)) 33) := by rw [hW2]; exact setRow_heap _ _ _ _ _ hr2
    have hB : Below w.heap.size w W2 := by rw [hW2]; exact below_setRow (B0.out.trans (hb2.mono B0.out.size)) (Nat.le_refl _) _
    have HR := hide hr2
    have HW := hide hW2
    have HROW := hide hrow
    have HB := hide hB
    clear hr2 hW2 hrow hB hb2
    rw [badF_badG]
    go_wp2_with (first | (refine wpList_store_rowW rfl 33 _ _ rfl w.heap.size (badG (sh b)) rfl rfl 33 (badC .ok) HR.out (badGI _) (by simp [badC_size, badG_size]) (badG_one _) W2 HW.out ?_))
    refine bodyPost_ret (res_ttc rfl _ _ w.heap.size 33 (badG (sh b)) (0, 0) _ rfl HROW.out Tryd.underlying33 rfl (badGI _)) rfl ⟨?_, HB.out⟩
    unfold txtV; rw [HS.out]; rfl
  · have hd : decide ((n : Int) ≤ p) = false := decide_eq_false (by omega)
    have hd' : decide (n ≤ p) = false := decide_eq_false h0
    have hpn : p < n := by omega
    have h3 := h
    obtain ⟨xb, xo, rfl, hxl, hcell⟩ := h.lies (by omega)
    have hc0 := hcell p (by omega)
    have hb := getD_lt h.byte p
    obtain ⟨z, hz⟩ : ∃ z, z = b.getD p 0 := ⟨_, rfl⟩
    rw [← hz] at hc0 hb
    by_cases hq1 : z < 1
    · have HS : Hid (txt b p m = ([], 0, .one p 72)) := by show _ = _; unfold txt; rw [if_neg (by omega), if_pos (by rw [← hz]; exact Or.inl hq1)]
      have g1 : decide ((z : Int) < 1) = true := decide_eq_true (by omega)
      have g1' : decide (z < 1) = true := decide_eq_true hq1
      clear h h3 hcell hW0 b0 r0 hz hq1 h0
      go_enter Tryd.func42, Tryd.ntmps42
      go_wp2_with fail
      rw [HW0.out]
      refine (rfault_at p 72 _).mono ?_
      rintro e w2 ⟨rfl, hb2⟩
      have hr2 : w2.heap[w.heap.size]? = some (.cells (badC .ok) 33) := keepB hb2 R0.out
      obtain ⟨W2, hW2⟩ : ∃ W2, W2 = w2.setRow w.heap.size (badG (.one p 72)) := ⟨_, rfl⟩
      have hrow : W2.heap[w.heap.size]? = some (.cells (badG (.one p 72)) 33) := by rw [hW2]; exact setRow_heap _ _ _ _ _ hr2
      have hB : Below w.heap.size w W2 := by rw [hW2]; exact below_setRow (B0.out.trans (hb2.mono B0.out.size)) (Nat.le_refl _) _
      have HR := hide hr2
      have HW := hide hW2
      have HROW := hide hrow
      have HB := hide hB
      clear hr2 hW2 hrow hB hb2
      rw [badF_badG]
      go_wp2_with (first | (refine wpList_store_rowW rfl 33 _ _ rfl w.heap.size (badG (.one p 72)) rfl rfl 33 (badC .ok) HR.out (badGI _) (by simp [badC_size, badG_size]) (badG_one _) W2 HW.out ?_))
      refine bodyPost_ret (res_ttc rfl _ _ w.heap.size 33 (badG (.one p 72)) (0, 0) _ rfl HROW.out Tryd.underlying33 rfl (badGI _)) rfl ⟨?_, HB.out⟩
      unfold txtV; rw [HS.out]; rfl
    have g1 : decide ((z : Int) < 1) = false := decide_eq_false (by omega)
    have g1' : decide (z < 1) = false := decide_eq_false hq1
    by_cases hq2 : m < z
    · have HS : Hid (txt b p m = ([], 0, .one p 72)) := by show _ = _; unfold txt; rw [if_neg (by omega), if_pos (by rw [← hz]; exact Or.inr hq2)]
      have g2 : decide ((m : Int) < z) = true := decide_eq_true (by omega)
      have g2' : decide (m < z) = true := decide_eq_true hq2
      clear h h3 hcell hW0 b0 r0 hz hq1 hq2 h0
      go_enter Tryd.func42, Tryd.ntmps42
      go_wp2_with fail
      rw [HW0.out]
      refine (rfault_at p 72 _).mono ?_
      rintro e w2 ⟨rfl, hb2⟩
      have hr2 : w2.heap[w.heap.size]? = some (.cells (badC .ok) 33) := keepB hb2 R0.out
      obtain ⟨W2, hW2⟩ : ∃ W2, W2 = w2.setRow w.heap.size (badG (.one p 72)) := ⟨_, rfl⟩
      have hrow : W2.heap[w.heap.size]? = some (.cells (badG (.one p 72)) 33) := by rw [hW2]; exact setRow_heap _ _ _ _ _ hr2
      have hB : Below w.heap.size w W2 := by rw [hW2]; exact below_setRow (B0.out.trans (hb2.mono B0.out.size)) (Nat.le_refl _) _
      have HR := hide hr2
      have HW := hide hW2
      have HROW := hide hrow
      have HB := hide hB
      clear hr2 hW2 hrow hB hb2
      rw [badF_badG]
      go_wp2_with (first | (refine wpList_store_rowW rfl 33 _ _ rfl w.heap.size (badG (.one p 72)) rfl rfl 33 (badC .ok) HR.out (badGI _) (by simp [badC_size, badG_size]) (badG_one _) W2 HW.out ?_))
      refine bodyPost_ret (res_ttc rfl _ _ w.heap.size 33 (badG (.one p 72)) (0, 0) _ rfl HROW.out Tryd.underlying33 rfl (badGI _)) rfl ⟨?_, HB.out⟩
      unfold txtV; rw [HS.out]; rfl
    have g2 : decide ((m : Int) < z) = false := decide_eq_false (by omega)
    have g2' : decide (m < z) = false := decide_eq_false hq2
    by_cases hq3 : n < p + 1 + z
    · have HS : Hid (txt b p m = ([], 0, sh b)) := by show _ = _; unfold txt; rw [if_neg (by omega), if_neg (by rw [← hz]; omega), if_pos (by rw [← hz]; omega)]
      have g3 : decide ((n : Int) < (p : Int) + 1 + z) = true := decide_eq_true (by omega)
      have g3' : decide (n < p + 1 + z) = true := decide_eq_true hq3
      clear h h3 hcell hW0 b0 r0 hz hq1 hq2 hq3 h0
      go_enter Tryd.func42, Tryd.ntmps42
      go_wp2_with fail
      rw [HW0.out]
      refine (rshort_at _ n c b _ S0.out).mono ?_
      rintro e w2 ⟨rfl, hb2⟩
      have hr2 : w2.heap[w.heap.size]? = some (.cells (badC .ok) 33) := keepB hb2 R0.out
      obtain ⟨W2, hW2⟩ : ∃ W2, W2 = w2.setRow w.heap.size (badG (sh b)) := ⟨_, rfl⟩
      have hrow : W2.heap[w.heap.size]? = some (.cells (badG (sh b)) 33) := by rw [hW2]; exact setRow_heap _ _ _ _ _ hr2
      have hB : Below w.heap.size w W2 := by rw [hW2]; exact below_setRow (B0.out.trans (hb2.mono B0.out.size)) (Nat.le_refl _) _
      have HR := hide hr2
      have HW := hide hW2
      have HROW := hide hrow
      have HB := hide hB
      clear hr2 hW2 hrow hB hb2
      rw [badF_badG]
      go_wp2_with (first | (refine wpList_store_rowW rfl 33 _ _ rfl w.heap.size (badG (sh b)) rfl rfl 33 (badC .ok) HR.out (badGI _) (by simp [badC_size, badG_size]) (badG_one _) W2 HW.out ?_))
      refine bodyPost_ret (res_ttc rfl _ _ w.heap.size 33 (badG (sh b)) (0, 0) _ rfl HROW.out Tryd.underlying33 rfl (badGI _)) rfl ⟨?_, HB.out⟩
      unfold txtV; rw [HS.out]; rfl
    · have HS : Hid (txt b p m = (pc b (p + 1) z, p + 1 + z, .ok)) := by show _ = _; rw [txt_in (by omega) (by rw [← hz]; omega) (by rw [← hz]; omega) (by rw [← hz]; omega), ← hz]; rfl
      have g3 : decide ((n : Int) < (p : Int) + 1 + z) = false := decide_eq_false (by omega)
      have g3' : decide (n < p + 1 + z) = false := decide_eq_false hq3
      obtain ⟨x2, q1, q2, q3, q4⟩ := run_cut _ _ _ _ _ S0.out (p + 1) z (by omega)
      have ei : (((p + 1 : Nat) : Int)) = (p : Int) + 1 := by omega
      rw [ei] at q1 q2
      obtain ⟨y2, hy2⟩ : ∃ y2, y2 = c - (p + 1) := ⟨_, rfl⟩
      rw [← hy2] at q1 q2 q3
      have q5 : (convert 22 9 (.slice x2 z y2)).run Tryd.prog (w.alloc (.cells #[.int .i64 0, .string ⟨#[]⟩, .string ⟨#[]⟩, .string ⟨#[]⟩, .string ⟨#[]⟩, .int .i64 0, .int .i64 0, .int .i64 0, .int .i64 0, .int .i64 0] 33)) = .ok (.string (strN (pc b (p + 1) z))) (w.alloc (.cells #[.int .i64 0, .string ⟨#[]⟩, .string ⟨#[]⟩, .string ⟨#[]⟩, .string ⟨#[]⟩, .int .i64 0, .int .i64 0, .int .i64 0, .int .i64 0, .int .i64 0] 33)) := by rw [HW0.out]; exact run_str_src q3
      clear h h3 hcell hW0 b0 r0 hz hq1 hq2 hq3 h0 q3 q4 ei hy2
      go_enter Tryd.func42, Tryd.ntmps42
      go_wp2_with fail
      rw [HW0.out]
      refine bodyPost_ret (res_ttc rfl _ _ w.heap.size 33 (badC .ok) (0, 0) _ rfl R0.out Tryd.underlying33 rfl info33) rfl ⟨?_, B0.out⟩
      have ek : ((p + 1 + z : Nat) : Int) = (p : Int) + 1 + z := by omega
      unfold txtV; rw [HS.out, ek]; rfl
set_option maxRecDepth 100000 in
set_option maxHeartbeats 4000000 in
theorem wrap5_at (a b c : Nat) (w : World) : Calls Tryd.prog 64 #[.string ⟨#[102, 105, 118, 101]⟩, .int .i64 a, badV (.one b c)] w fun e w' => e = .returned (badF (.two a b c)) ∧ Below w.heap.size w w' := by
  simp only [badV]
  go_enter Tryd.func64, Tryd.ntmps64
  go_wp2_with fail
  refine wp_loop_rounds 2 ?_
  rw [rounds_succ]
  go_wp2_with fail
  go_region
  all_goals (try go_wp2_with fail)
  all_goals rw [rounds_succ]
  all_goals go_wp2_with fail
  all_goals go_returns
  all_goals refine ⟨rfl, ?_⟩
  all_goals (repeat (first | exact Below.refl _ _ | refine Below.drew ?_ | refine Below.setCell ?_ (by simp) _ | refine Below.alloc ?_ (by simp <;> omega) _))
end Go.Proofs.YtefgjmijbedbkaaDoor
