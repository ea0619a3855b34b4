/-
  The reference's Login and Greeting; conditions as each theorem has them.
-/
import Derived.Test.YtefgjmijbedbkaaDoorRA
set_option linter.unusedSimpArgs false
set_option linter.unusedVariables false
namespace Go.Proofs.YtefgjmijbedbkaaDoor
open Go.RowKit

attribute [local go_sem ↓] run_op33 run_opst33 Go.wp_at_zero Go.wp_at_succ
attribute [local go_sem] rowOf_drew isRow_drew arrAt_ptr isAt_ptr putAt_ptr canPut_drew setRow_drew
theorem res_tttc {P : Program} {fn : Func} {u v x q : Tmp} {ty2 : TypeId} (h : fn.results = #[.tmp u, .tmp v, .tmp x, .cell q ty2]) (tmps : Array Value) (w : World)
    (g2 : Nat) (t2 : TypeId) (cs2 : Array Value) (fr2 : Nat × Nat) (d2 : TypeDesc)
    (hp2 : tmps.getD q undef = .pointer (some ⟨g2, 0, none⟩)) (hg2 : w.heap[g2]? = some (.cells cs2 t2 fr2))
    (hu2 : P.underlying ty2 = some d2) (hd2 : (match d2 with | .struct _ | .array _ _ => true | _ => false) = true) (hi2 : (P.info? ty2).map (·.size) = some cs2.size) :
    (results fn tmps).run P w = .ok (.tuple #[tmps.getD u undef, tmps.getD v undef, tmps.getD x undef, .agg cs2]) w := by
  have hp2' : tmps[q]?.getD undef = .pointer (some ⟨g2, 0, none⟩) := by simpa using hp2
  simp only [results, h]
  simp [Sem.run_bind, Result.andThen, hp2', asAddr, run_loadVar_row w g2 t2 ty2 cs2 fr2 d2 hg2 hu2 hd2 hi2]
theorem txtV_out (b : List Nat) (a m : Nat) {l : List Nat} {k : Nat} {e : Er} (h : txt b a m = (l, k, e)) : txtV b a m = .tuple #[.string (strN l), .int .i64 (k : Nat), .agg (badG e)] := by unfold txtV; rw [h, badF_badG]
theorem txt_le (b : List Nat) (a m : Nat) (hm : m ≤ 255) (hb : ∀ x ∈ b, x < 256) : (txt b a m).2.1 ≤ a + 256 ∧ (txt b a m).1.length ≤ 255 := by
  by_cases h : (txt b a m).2.2 = .ok
  · obtain ⟨_, h2, h3, _, e⟩ := txt_ok h
    rw [e]
    refine ⟨by show a + 1 + _ ≤ _; omega, ?_⟩
    show (List.take _ _).length ≤ _
    rw [List.length_take]
    omega
  · rw [txt_bad h]
    exact ⟨by show 0 ≤ _; omega, by simp⟩
def loginV (b : List Nat) : Value := .tuple #[.string (strN (login b).1), .string (strN (login b).2.1), .int .i64 ((login b).2.2.1 : Nat), badF (login b).2.2.2]
set_option maxRecDepth 100000 in
set_option maxHeartbeats 4000000 in
theorem rlogin_at (x : Option Addr) (n c : Nat) (b : List Nat) (w : World) (h : Src w x n c b) : Calls Tryd.prog 14 #[.slice x n c] w fun e w' => e = .returned (loginV b) ∧ Below w.heap.size w w' := by
  have HBY := hide h.byte
  obtain ⟨W0, hW0⟩ : ∃ W0, W0 = w.alloc (.cells (badC .ok) 33) := ⟨_, rfl⟩
  have b0 : Below w.heap.size w W0 := by rw [hW0]; exact (Below.refl _ _).alloc (Nat.le_refl _) _
  have r0 : W0.heap[w.heap.size]? = some (.cells (badC .ok) 33) := by rw [hW0]; exact alloc_new _ _
  have HW0 : Hid (w.alloc (.cells #[.int .i64 0, .string ⟨#[]⟩, .string ⟨#[]⟩, .string ⟨#[]⟩, .string ⟨#[]⟩, .int .i64 0, .int .i64 0, .int .i64 0, .int .i64 0, .int .i64 0] 33) = W0) := hW0.symm
  have B0 := hide b0
  have R0 := hide r0
  have S0 := hide (h.below b0)
  have SO : Hid (0 < n → ∀ i o, x = some ⟨i, o, none⟩ → ∀ g, w.heap.size < g → i ≠ g) := fun h0 i o e g hg => by have := h.lt h0 e; omega
  clear h hW0 b0 r0
  obtain ⟨er, her⟩ : ∃ er, er = ver b 1 := ⟨_, rfl⟩
  have HER := hide her
  have HV := hide (rversion_at x n c b 1 W0 S0.out (by omega))
  rw [← her] at HV
  clear her
  go_enter Tryd.func14, Tryd.ntmps14
  go_wp2_with fail
  rw [HW0.out]
  refine HV.out.mono ?_
  rintro e w1 ⟨rfl, hb1⟩
  rw [badF_badG]
  obtain ⟨W1, hW1⟩ : ∃ W, W = (w1.alloc (.cells (badC .ok) 33)).setRow w1.heap.size (badG er) := ⟨_, rfl⟩
  have z1 : (w1.alloc (.cells (badC .ok) 33)).heap[w1.heap.size]? = some (.cells (badC .ok) 33) := alloc_new _ _
  have L1 := Loc.new (w := w1) er
  rw [← hW1] at L1
  have b1 : Below w1.heap.size w1 W1 := by rw [hW1]; exact below_setRow ((Below.refl _ _).alloc (Nat.le_refl _) _) (Nat.le_refl _) _
  have cN1 := L1.n
  have b12 : Below W0.heap.size W0 W1 := hb1.trans (b1.mono hb1.size)
  have B1 := hide (B0.out.trans (b12.mono B0.out.size))
  have S1 := hide (S0.out.below b12)
  have R1 := hide (keepB b12 R0.out)
  have LR1 := hide L1.row
  have Z1 := hide z1
  have HW1 := hide hW1
  have hsw1 : w.heap.size < w1.heap.size := Nat.lt_of_lt_of_le (lt_of_some R0.out) hb1.size
  clear L1 b1 b12 hb1 z1 hW1
  by_cases hok1 : er = .ok
  · subst hok1
    have cN : W1.cell? ⟨w1.heap.size, 0, none⟩ = some (.int .i64 0) := cN1
    clear cN1
    have HT := hide (rtext_at x n c b 1 255 W1 S1.out (by omega) (by omega))
    obtain ⟨l1, k1, e1, hE1⟩ : ∃ l k e, txt b 1 255 = (l, k, e) := ⟨_, _, _, rfl⟩
    have hk1 : k1 ≤ 257 := by have := (txt_le b 1 255 (by omega) HBY.out).1; rw [hE1] at this; exact this
    rw [txtV_out b 1 255 hE1] at HT
    have HE1 := hide hE1
    clear hE1
    go_wp2_with (first | (refine wpList_store_rowW rfl 33 _ _ rfl w1.heap.size (badG .ok) rfl rfl 33 (badC .ok) Z1.out (badGI _) (by simp [badC_size, badG_size]) (badG_one _) W1 HW1.out ?_))
    refine HT.out.mono ?_
    rintro e w3 ⟨rfl, hb3⟩
    obtain ⟨W3, hW3⟩ : ∃ W, W = (w3.alloc (.cells (badC .ok) 33)).setRow w3.heap.size (badG e1) := ⟨_, rfl⟩
    have z3 : (w3.alloc (.cells (badC .ok) 33)).heap[w3.heap.size]? = some (.cells (badC .ok) 33) := alloc_new _ _
    have L3 := Loc.new (w := w3) e1
    rw [← hW3] at L3
    have b3 : Below w3.heap.size w3 W3 := by rw [hW3]; exact below_setRow ((Below.refl _ _).alloc (Nat.le_refl _) _) (Nat.le_refl _) _
    have cN3 := L3.n
    have b32 : Below W1.heap.size W1 W3 := hb3.trans (b3.mono hb3.size)
    have B3 := hide (B1.out.trans (b32.mono B1.out.size))
    have S3 := hide (S1.out.below b32)
    have R3 := hide (keepB b32 R1.out)
    have LR3 := hide L3.row
    have Z3 := hide z3
    have HW3 := hide hW3
    have hsw3 : w.heap.size < w3.heap.size := Nat.lt_of_lt_of_le (lt_of_some R1.out) hb3.size
    clear L3 b3 b32 hb3 z3 hW3
    by_cases hok3 : e1 = .ok
    · subst hok3
      have cN : W3.cell? ⟨w3.heap.size, 0, none⟩ = some (.int .i64 0) := cN3
      clear cN3
      have HT2 := hide (rtext_at x n c b k1 255 W3 S3.out (by omega) (by omega))
      obtain ⟨l2, k2, e2, hE2⟩ : ∃ l k e, txt b k1 255 = (l, k, e) := ⟨_, _, _, rfl⟩
      have hk2 : k2 ≤ 600 := by have := (txt_le b k1 255 (by omega) HBY.out).1; rw [hE2] at this; have : k2 ≤ k1 + 256 := this; omega
      rw [txtV_out b k1 255 hE2] at HT2
      have HE2 := hide hE2
      clear hE2
      go_wp2_with (first | (refine wpList_store_rowW rfl 33 _ _ rfl w3.heap.size (badG .ok) rfl rfl 33 (badC .ok) Z3.out (badGI _) (by simp [badC_size, badG_size]) (badG_one _) W3 HW3.out ?_))
      refine HT2.out.mono ?_
      rintro e w4 ⟨rfl, hb4⟩
      have q4 : w4.heap[w3.heap.size]? = some (.cells (badG .ok) 33) := keepB hb4 LR3.out
      obtain ⟨W4, hW4⟩ : ∃ W, W = w4.setRow w3.heap.size (badG e2) := ⟨_, rfl⟩
      have l4 : W4.heap[w3.heap.size]? = some (.cells (badG e2) 33) := by rw [hW4]; exact setRow_heap _ _ _ _ _ q4
      have cN4 : W4.cell? ⟨w3.heap.size, 0, none⟩ = some (.int .i64 (erN e2 : Nat)) := by simp only [World.cell?, l4]; exact badG_N e2
      have hgs4 : w.heap.size < w3.heap.size := by assumption
      have B4 : Hid (Below w.heap.size w W4) := by rw [hW4]; exact below_setRow (B3.out.trans (hb4.mono B3.out.size)) (by omega) _
      have S4 : Hid (Src W4 x n c b) := by
        have s := S3.out.below hb4
        rw [hW4]
        exact s.keep (fun h0 i o ei => setRow_ne _ _ _ _ (SO.out h0 i o ei w3.heap.size (by omega))) (by simp [World.setRow])
      have R4 : Hid (W4.heap[w.heap.size]? = some (.cells (badC .ok) 33)) := by rw [hW4, setRow_ne _ _ _ _ (by omega)]; exact keepB hb4 R3.out
      have LR4 := hide l4
      have Q4 := hide q4
      have HW4 := hide hW4
      clear l4 q4 hb4 hW4 hgs4
      by_cases hok4 : e2 = .ok
      · subst hok4
        have HS : Hid (login b = (l1, l2, k2, .ok)) := by show _ = _; unfold login; rw [if_pos HER.out.symm, HE1.out]; simp only [if_true]; rw [HE2.out]; simp
        have cN : W4.cell? ⟨w3.heap.size, 0, none⟩ = some (.int .i64 0) := cN4
        clear cN4
        obtain ⟨W7, hW7⟩ : ∃ W7, W7 = W4.setRow w.heap.size (badC .ok) := ⟨_, rfl⟩
        have R7 : Hid (W7.heap[w.heap.size]? = some (.cells (badC .ok) 33)) := by rw [hW7]; exact setRow_heap _ _ _ _ _ R4.out
        have B7 : Hid (Below w.heap.size w W7) := by rw [hW7]; exact below_setRow B4.out (Nat.le_refl _) _
        have HW7 := hide hW7
        clear hW7
        go_wp2_with (first | (refine wpList_store_rowW rfl 33 _ _ rfl w3.heap.size (badG .ok) rfl rfl 33 (badG .ok) Q4.out (badGI _) (by simp [badC_size, badG_size]) (badG_one _) W4 HW4.out ?_) | (refine wpList_store_rowW rfl 33 _ _ rfl w.heap.size (badC .ok) rfl rfl 33 (badC .ok) R4.out info33 rfl (badC_one _) W7 HW7.out ?_))
        refine bodyPost_ret (res_tttc rfl _ _ w.heap.size 33 (badC .ok) (0, 0) _ rfl R7.out Tryd.underlying33 rfl info33) rfl ⟨?_, B7.out⟩
        unfold loginV; rw [HS.out]; rfl
      · have HS : Hid (login b = ([], [], 0, e2)) := by show _ = _; unfold login; rw [if_pos HER.out.symm, HE1.out]; simp only [if_true]; rw [HE2.out]; simp [hok4]
        have hpos := erN_pos hok4
        have hle := erN_le e2
        have g1 : decide (0 < (erN e2 : Int)) = true := decide_eq_true (by omega)
        have g1' : decide (0 < erN e2) = true := decide_eq_true hpos
        generalize erN e2 = N at cN4 hpos hle g1 g1'
        go_wp2_with (first | (refine wpList_store_rowW rfl 33 _ _ rfl w3.heap.size (badG e2) rfl rfl 33 (badG .ok) Q4.out (badGI _) (by simp [badC_size, badG_size]) (badG_one _) W4 HW4.out ?_))
        have i3 : isRow W4 w3.heap.size 10 = true := isRow_of LR4.out (badG_size _)
        have j3 : rowOf W4 w3.heap.size = badG e2 := rowOf_of LR4.out
        have cp : canPut 10 33 W4 (.pointer (some ⟨w.heap.size, 0, none⟩)) (.agg (badG e2)) = true := canPut_row R4.out (badC_size _) (badG_size _) (badG_one _)
        obtain ⟨W9, hW9⟩ : ∃ W9, W4.setRow w.heap.size (badG e2) = W9 := ⟨_, rfl⟩
        have R9 : Hid (W9.heap[w.heap.size]? = some (.cells (badG e2) 33)) := by rw [← hW9]; exact setRow_heap _ _ _ _ _ R4.out
        have B9 : Hid (Below w.heap.size w W9) := by rw [← hW9]; exact below_setRow B4.out (Nat.le_refl _) _
        go_region
        all_goals (try go_wp2_with fail)
        all_goals (refine bodyPost_ret (res_tttc rfl _ _ w.heap.size 33 (badG e2) (0, 0) _ rfl R9.out Tryd.underlying33 rfl (badGI _)) rfl ⟨?_, B9.out.drew⟩)
        all_goals (unfold loginV; rw [HS.out, badF_badG]; rfl)
    · have HS : Hid (login b = ([], [], 0, e1)) := by show _ = _; unfold login; rw [if_pos HER.out.symm, HE1.out]; simp [hok3]
      have hpos := erN_pos hok3
      have hle := erN_le e1
      have g1 : decide (0 < (erN e1 : Int)) = true := decide_eq_true (by omega)
      have g1' : decide (0 < erN e1) = true := decide_eq_true hpos
      generalize erN e1 = N at cN3 hpos hle g1 g1'
      go_wp2_with (first | (refine wpList_store_rowW rfl 33 _ _ rfl w3.heap.size (badG e1) rfl rfl 33 (badC .ok) Z3.out (badGI _) (by simp [badC_size, badG_size]) (badG_one _) W3 HW3.out ?_))
      have i3 : isRow W3 w3.heap.size 10 = true := isRow_of LR3.out (badG_size _)
      have j3 : rowOf W3 w3.heap.size = badG e1 := rowOf_of LR3.out
      have cp : canPut 10 33 W3 (.pointer (some ⟨w.heap.size, 0, none⟩)) (.agg (badG e1)) = true := canPut_row R3.out (badC_size _) (badG_size _) (badG_one _)
      obtain ⟨W9, hW9⟩ : ∃ W9, W3.setRow w.heap.size (badG e1) = W9 := ⟨_, rfl⟩
      have R9 : Hid (W9.heap[w.heap.size]? = some (.cells (badG e1) 33)) := by rw [← hW9]; exact setRow_heap _ _ _ _ _ R3.out
      have B9 : Hid (Below w.heap.size w W9) := by rw [← hW9]; exact below_setRow B3.out (Nat.le_refl _) _
      go_region
      all_goals (try go_wp2_with fail)
      all_goals (refine bodyPost_ret (res_tttc rfl _ _ w.heap.size 33 (badG e1) (0, 0) _ rfl R9.out Tryd.underlying33 rfl (badGI _)) rfl ⟨?_, B9.out.drew⟩)
      all_goals (unfold loginV; rw [HS.out, badF_badG]; rfl)
  · have HS : Hid (login b = ([], [], 0, er)) := by show _ = _; unfold login; rw [if_neg (by rw [← HER.out]; exact hok1), ← HER.out]
    have hpos := erN_pos hok1
    have hle := erN_le er
    have g1 : decide (0 < (erN er : Int)) = true := decide_eq_true (by omega)
    have g1' : decide (0 < erN er) = true := decide_eq_true hpos
    generalize erN er = N at cN1 hpos hle g1 g1'
    go_wp2_with (first | (refine wpList_store_rowW rfl 33 _ _ rfl w1.heap.size (badG er) rfl rfl 33 (badC .ok) Z1.out (badGI _) (by simp [badC_size, badG_size]) (badG_one _) W1 HW1.out ?_))
    have i3 : isRow W1 w1.heap.size 10 = true := isRow_of LR1.out (badG_size _)
    have j3 : rowOf W1 w1.heap.size = badG er := rowOf_of LR1.out
    have cp : canPut 10 33 W1 (.pointer (some ⟨w.heap.size, 0, none⟩)) (.agg (badG er)) = true := canPut_row R1.out (badC_size _) (badG_size _) (badG_one _)
    obtain ⟨W9, hW9⟩ : ∃ W9, W1.setRow w.heap.size (badG er) = W9 := ⟨_, rfl⟩
    have R9 : Hid (W9.heap[w.heap.size]? = some (.cells (badG er) 33)) := by rw [← hW9]; exact setRow_heap _ _ _ _ _ R1.out
    have B9 : Hid (Below w.heap.size w W9) := by rw [← hW9]; exact below_setRow B1.out (Nat.le_refl _) _
    go_region
    all_goals (try go_wp2_with fail)
    all_goals (refine bodyPost_ret (res_tttc rfl _ _ w.heap.size 33 (badG er) (0, 0) _ rfl R9.out Tryd.underlying33 rfl (badGI _)) rfl ⟨?_, B9.out.drew⟩)
    all_goals (unfold loginV; rw [HS.out, badF_badG]; rfl)
end Go.Proofs.YtefgjmijbedbkaaDoor
