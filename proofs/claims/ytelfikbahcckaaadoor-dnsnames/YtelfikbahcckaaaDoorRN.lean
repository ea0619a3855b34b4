/-
  The reference's Name; conditions as each theorem has them.
-/
import Derived.Test.YtelfikbahcckaaaDoorRA
import Derived.Test.YtelfikbahcckaaaDoorZ
set_option linter.unusedSimpArgs false
set_option linter.unusedVariables false
namespace Go.Proofs.YtelfikbahcckaaaDoor
open Go.RowKit

theorem res_ttc {P : Program} {fn : Func} {u v q : Tmp} {ty2 : TypeId} (h : fn.results = #[.tmp u, .tmp v, .cell q ty2]) (tmps : Array Value) (w : World)
    (g2 : Nat) (t2 : TypeId) (cs2 : Array Value) (fr2 : Nat × Nat) (d2 : TypeDesc)
    (hp2 : tmps.getD q undef = .pointer (some ⟨g2, 0, none⟩)) (hg2 : w.heap[g2]? = some (.cells cs2 t2 fr2))
    (hu2 : P.underlying ty2 = some d2) (hd2 : (match d2 with | .struct _ | .array _ _ => true | _ => false) = true) (hi2 : (P.info? ty2).map (·.size) = some cs2.size) :
    (results fn tmps).run P w = .ok (.tuple #[tmps.getD u undef, tmps.getD v undef, .agg cs2]) w := by
  have hp2' : tmps[q]?.getD undef = .pointer (some ⟨g2, 0, none⟩) := by simpa using hp2
  simp only [results, h]
  simp [Sem.run_bind, Result.andThen, hp2', asAddr, run_loadVar_row w g2 t2 ty2 cs2 fr2 d2 hg2 hu2 hd2 hi2]
theorem low_append (a b : List Nat) : low (a ++ b) = low a ++ low b := by simp [low]
theorem low_nil_iff (t : List Nat) : low t = [] ↔ t = [] := by simp [low]
theorem lbB_low (t : List Nat) (h : (name (low t)).2 = .ok) : (name t).2 = .ok := by
  obtain ⟨h1, h2, h3, _⟩ := name_ok (l := low t) (q := (name (low t)).1) (by rw [← h])
  rw [low_length] at h1
  have g2 : labs 0 (pcs t) = none := by
    apply labs_all
    intro p hp
    rw [pcs_low] at h2
    have := labs_none _ _ h2 (low p) (List.mem_map_of_mem hp)
    rw [← lab_low, ← low_low, lab_low]
    exact this
  have g3 : ¬ ((pcs t).getLastD []).all dig = true := by
    intro hk
    apply h3
    rw [pcs_low, getLastD_map low rfl, all_low]
    exact hk
  unfold name
  rw [if_neg (by omega), g2]
  simp only []
  rw [if_neg g3]
theorem name_low_iff (t : List Nat) : (name (low t)).2 = .ok ↔ (name t).2 = .ok := by
  constructor
  · exact lbB_low t
  · intro h
    have := name_low (l := t) (q := (name t).1) (by rw [← h])
    rw [this]
theorem strN_isEmpty (t : List Nat) : (strN t).toList.isEmpty = decide (t = []) := by
  rw [Lib.toList_data]
  cases t <;> simp [strN]
theorem tx_low (t l : List Nat) (h : t ≠ []) : strN (low (tx t l)) = strN (low t) ++ ⟨#[46]⟩ ++ strN (low l) := by
  rw [tx_ne h, low_append, low_append, strN_append, strN_append]
  rfl
/-- How it stands with the end. -/
def enI (A q bh : Nat) : Int := if q = A then -1 else (bh : Nat)
set_option maxRecDepth 100000 in
set_option maxHeartbeats 8000000 in
theorem rname_at (a : Option Addr) (n c : Nat) (b : List Nat) (at_ : Int) (w : World) (h : Src w a n c b) (hn : n ≤ 4000) (hlo : -9223372036854775808 ≤ at_) (hhi : at_ ≤ 9223372036854775807) :
    Calls Tryd.prog 9 #[.slice a n c, .int .i64 at_] w fun e w' => e = .returned (.tuple #[.string (strN (namI b at_).1), .int .i64 ((namI b at_).2.1 : Nat), badF (namI b at_).2.2]) ∧ Below w.heap.size w w' := by
  obtain ⟨R, hR⟩ : ∃ R, R = namI b at_ := ⟨_, rfl⟩
  rw [← hR]
  have hl := h.hlen
  have hc := h.hcap
  obtain ⟨W0, hW0⟩ : ∃ W0, W0 = w.alloc (.cells (badC .ok) 32) := ⟨_, rfl⟩
  have b0 : Below w.heap.size w W0 := by rw [hW0]; exact (Below.refl _ _).alloc (Nat.le_refl _) _
  have r0 : W0.heap[w.heap.size]? = some (.cells (badC .ok) 32) := by rw [hW0]; exact alloc_new _ _
  have HW0 : Hid (w.alloc (.cells #[.int .i64 0, .string ⟨#[]⟩, .string ⟨#[]⟩, .string ⟨#[]⟩, .string ⟨#[]⟩, .int .i64 0, .int .i64 0, .int .i64 0, .int .i64 0, .int .i64 0] 32) = W0) := hW0.symm
  have B0 := hide b0
  have R0 := hide r0
  have S0 := hide (h.below b0)
  have HLN := hide hl
  clear hW0 b0 r0
  by_cases hneg : at_ < 0
  · have HS : Hid (R = ([], 0, .one n 6)) := by show _ = _; rw [hR, namI, if_pos hneg, hl]
    have hd : decide (at_ < 0) = true := decide_eq_true hneg
    clear h hneg hR hl
    go_enter Tryd.func9, Tryd.ntmps9
    go_wp2_with fail
    rw [HW0.out]
    refine (dshort_at a n c _).mono ?_
    rintro e w9 ⟨rfl, hb9⟩
    have hr9 : w9.heap[w.heap.size]? = some (.cells (badC .ok) 32) := keepB hb9 R0.out
    obtain ⟨W9, hW9⟩ : ∃ W9, W9 = w9.setRow w.heap.size (badG (.one n 6)) := ⟨_, rfl⟩
    have hrow9 : W9.heap[w.heap.size]? = some (.cells (badG (.one n 6)) 32) := by rw [hW9]; exact setRow_heap _ _ _ _ _ hr9
    have hB9 : Below w.heap.size w W9 := by rw [hW9]; exact below_setRow (B0.out.trans (hb9.mono B0.out.size)) (Nat.le_refl _) _
    have HR9 := hide hr9
    have HW9 := hide hW9
    have HROW9 := hide hrow9
    have HB9 := hide hB9
    clear hr9 hW9 hrow9 hB9 hb9
    rw [badF_badG]
    go_wp2_with (first | (refine wpList_store_rowW rfl 32 _ _ rfl w.heap.size (badG (.one n 6)) rfl rfl 32 (badC .ok) HR9.out (infoG _) (by simp [badC_size, badG_size]) (badG_one _) W9 HW9.out ?_))
    refine bodyPost_ret (res_ttc rfl _ _ w.heap.size 32 (badG (.one n 6)) (0, 0) _ rfl HROW9.out Tryd.underlying32 rfl (infoG _)) rfl ⟨?_, HB9.out⟩
    rw [HS.out]; rfl
  obtain ⟨A, rfl⟩ : ∃ A : Nat, at_ = (A : Int) := ⟨at_.toNat, by omega⟩
  have hd : decide ((A : Int) < 0) = false := decide_eq_false hneg
  have HRR : Hid (R = nm b A A A [] 0) := by show _ = _; rw [hR, namI, if_neg hneg]; rfl
  by_cases hout : n ≤ A
  · have HS : Hid (R = ([], 0, .one n 6)) := by show _ = _; rw [HRR.out, nm_out (by omega), hl]
    have hd2 : decide ((n : Int) ≤ A) = true := decide_eq_true (by omega)
    have hd2' : decide (n ≤ A) = true := decide_eq_true hout
    clear h hneg hR hl hout
    go_enter Tryd.func9, Tryd.ntmps9
    go_wp2_with fail
    rw [HW0.out]
    refine (dshort_at a n c _).mono ?_
    rintro e w9 ⟨rfl, hb9⟩
    have hr9 : w9.heap[w.heap.size]? = some (.cells (badC .ok) 32) := keepB hb9 R0.out
    obtain ⟨W9, hW9⟩ : ∃ W9, W9 = w9.setRow w.heap.size (badG (.one n 6)) := ⟨_, rfl⟩
    have hrow9 : W9.heap[w.heap.size]? = some (.cells (badG (.one n 6)) 32) := by rw [hW9]; exact setRow_heap _ _ _ _ _ hr9
    have hB9 : Below w.heap.size w W9 := by rw [hW9]; exact below_setRow (B0.out.trans (hb9.mono B0.out.size)) (Nat.le_refl _) _
    have HR9 := hide hr9
    have HW9 := hide hW9
    have HROW9 := hide hrow9
    have HB9 := hide hB9
    clear hr9 hW9 hrow9 hB9 hb9
    rw [badF_badG]
    go_wp2_with (first | (refine wpList_store_rowW rfl 32 _ _ rfl w.heap.size (badG (.one n 6)) rfl rfl 32 (badC .ok) HR9.out (infoG _) (by simp [badC_size, badG_size]) (badG_one _) W9 HW9.out ?_))
    refine bodyPost_ret (res_ttc rfl _ _ w.heap.size 32 (badG (.one n 6)) (0, 0) _ rfl HROW9.out Tryd.underlying32 rfl (infoG _)) rfl ⟨?_, HB9.out⟩
    rw [HS.out]; rfl
  have hd2 : decide ((n : Int) ≤ A) = false := decide_eq_false (by omega)
  have hd2' : decide (n ≤ A) = false := decide_eq_false hout
  have hA : A < n := by omega
  obtain ⟨xb, xo, rfl, hxl, hcell⟩ := h.lies (by omega)
  have HX : Hid (∀ wr, Below w.heap.size w wr → ∀ i, i < n → wr.cell? ⟨xb, xo + i, none⟩ = some (.int .u8 (b.getD i 0 : Nat))) := fun wr k i hi => (World.cell?_of_block (k.block xb hxl)).trans (hcell i hi)
  have HSRC : Hid (∀ wr, Below w.heap.size w wr → Src wr (some ⟨xb, xo, none⟩) n c b) := fun wr k => h.below k
  have HBY := hide h.byte
  clear h hneg hR hl hout hcell
  go_enter Tryd.func9, Tryd.ntmps9
  go_wp2_with fail
  rw [HW0.out]
  go_loopg [7, 8, 9, 10] (mea n A A + 1) (fun k vn ve vb vw wr => ∃ q p bh : Nat, ∃ T : ByteArray, ∃ E : Int, p ≤ n ∧ q ≤ A ∧ bh ≤ n ∧ vn = .string T ∧ ve = .int .i64 E ∧ vb = .int .i64 (q : Nat) ∧ vw = .int .i64 (p : Nat) ∧ T.size ≤ 253 ∧ Hid (∃ t, T = strN (low t) ∧ E = enI A q bh ∧ R = nm b A q p t bh ∧ (∀ x ∈ t, x < 256) ∧ t.length ≤ 253 ∧ mea n q p < k ∧ Below w.heap.size w wr ∧ wr.heap[w.heap.size]? = some (.cells (badC .ok) 32)))
  case atStart => exact ⟨A, A, 0, ⟨#[]⟩, -1, by omega, by omega, by omega, rfl, rfl, rfl, rfl, (by decide), [], rfl, by simp [enI], HRR.out, by simp, by simp, by omega, B0.out, R0.out⟩
  case round =>
    obtain ⟨q, p, bh, T, E, hpn, hqn, hbn, rfl, rfl, rfl, rfl, hT, HJ⟩ := hrel
    obtain ⟨t, hTt, hE, hrec, htb, htl, hme, bl, rr⟩ := HJ.out
    have HT := hide hTt
    have HE := hide hE
    have HREC := hide hrec
    have HTB := hide htb
    have HTL := hide htl
    have HME := hide hme
    have BL := hide bl
    have RR := hide rr
    clear HJ hTt hE hrec htb htl hme
    by_cases hp : n ≤ p
    · have HS : Hid (R = ([], 0, .one n 6)) := by show _ = _; rw [HREC.out, nm_out (by rw [HLN.out]; omega), HLN.out]
      have e1 : decide ((n : Int) ≤ p) = true := decide_eq_true (by omega)
      have e1' : decide (n ≤ p) = true := decide_eq_true hp
      clear bl rr hp
      go_wp2_with fail
      refine (dshort_at _ n c _).mono ?_
      rintro e w9 ⟨rfl, hb9⟩
      have hr9 : w9.heap[w.heap.size]? = some (.cells (badC .ok) 32) := keepB hb9 RR.out
      obtain ⟨W9, hW9⟩ : ∃ W9, W9 = w9.setRow w.heap.size (badG (.one n 6)) := ⟨_, rfl⟩
      have hrow9 : W9.heap[w.heap.size]? = some (.cells (badG (.one n 6)) 32) := by rw [hW9]; exact setRow_heap _ _ _ _ _ hr9
      have hB9 : Below w.heap.size w W9 := by rw [hW9]; exact below_setRow (BL.out.trans (hb9.mono BL.out.size)) (Nat.le_refl _) _
      have HR9 := hide hr9
      have HW9 := hide hW9
      have HROW9 := hide hrow9
      have HB9 := hide hB9
      clear hr9 hW9 hrow9 hB9 hb9
      rw [badF_badG]
      go_wp2_with (first | (refine wpList_store_rowW rfl 32 _ _ rfl w.heap.size (badG (.one n 6)) rfl rfl 32 (badC .ok) HR9.out (infoG _) (by simp [badC_size, badG_size]) (badG_one _) W9 HW9.out ?_))
      refine bodyPost_ret (res_ttc rfl _ _ w.heap.size 32 (badG (.one n 6)) (0, 0) _ rfl HROW9.out Tryd.underlying32 rfl (infoG _)) rfl ⟨?_, HB9.out⟩
      rw [HS.out]; rfl
    have e1 : decide ((n : Int) ≤ p) = false := decide_eq_false (by omega)
    have e1' : decide (n ≤ p) = false := decide_eq_false hp
    have hc0 := HX.out wr bl p (by omega)
    have hz := getD_lt HBY.out p
    obtain ⟨z, hzz⟩ : ∃ z, z = b.getD p 0 := ⟨_, rfl⟩
    rw [← hzz] at hc0 hz
    have HZ := hide hzz
    have hgx : xb < wr.heap.size := by have := bl.size; omega
    have hp' : p < n := by omega
    clear hzz hp rr
    by_cases h192 : 192 ≤ z
    · have g1 : decide (192 ≤ (z : Int)) = true := decide_eq_true (by omega)
      have g1' : decide (192 ≤ z) = true := decide_eq_true h192
      by_cases h2 : n < p + 2
      · have HS : Hid (R = ([], 0, .one n 6)) := by show _ = _; rw [HREC.out, nm_led1 (by rw [HLN.out]; omega) (by rw [← HZ.out]; exact h192) (by rw [HLN.out]; exact h2), HLN.out]
        have g2 : decide ((n : Int) < (p : Int) + 2) = true := decide_eq_true (by omega)
        have g2' : decide (n < p + 2) = true := decide_eq_true h2
        clear bl h192 h2
        go_wp2_with fail
        refine (dshort_at _ n c _).mono ?_
        rintro e w9 ⟨rfl, hb9⟩
        have hr9 : w9.heap[w.heap.size]? = some (.cells (badC .ok) 32) := keepB hb9 RR.out
        obtain ⟨W9, hW9⟩ : ∃ W9, W9 = w9.setRow w.heap.size (badG (.one n 6)) := ⟨_, rfl⟩
        have hrow9 : W9.heap[w.heap.size]? = some (.cells (badG (.one n 6)) 32) := by rw [hW9]; exact setRow_heap _ _ _ _ _ hr9
        have hB9 : Below w.heap.size w W9 := by rw [hW9]; exact below_setRow (BL.out.trans (hb9.mono BL.out.size)) (Nat.le_refl _) _
        have HR9 := hide hr9
        have HW9 := hide hW9
        have HROW9 := hide hrow9
        have HB9 := hide hB9
        clear hr9 hW9 hrow9 hB9 hb9
        rw [badF_badG]
        go_wp2_with (first | (refine wpList_store_rowW rfl 32 _ _ rfl w.heap.size (badG (.one n 6)) rfl rfl 32 (badC .ok) HR9.out (infoG _) (by simp [badC_size, badG_size]) (badG_one _) W9 HW9.out ?_))
        refine bodyPost_ret (res_ttc rfl _ _ w.heap.size 32 (badG (.one n 6)) (0, 0) _ rfl HROW9.out Tryd.underlying32 rfl (infoG _)) rfl ⟨?_, HB9.out⟩
        rw [HS.out]; rfl
      have g2 : decide ((n : Int) < (p : Int) + 2) = false := decide_eq_false (by omega)
      have g2' : decide (n < p + 2) = false := decide_eq_false h2
      have H2 := hide (two_at _ n c b p wr (HSRC.out wr bl) (by omega))
      obtain ⟨Y, hY⟩ : ∃ Y, Y = b.getD p 0 * 256 + b.getD (p + 1) 0 := ⟨_, rfl⟩
      rw [← hY] at H2
      have hYl : Y < 65536 := by rw [hY]; have := getD_lt HBY.out p; have := getD_lt HBY.out (p + 1); omega
      have hrem : (Y : Int).tmod 16384 = ((Y % 16384 : Nat) : Int) := by rw [Int.tmod_eq_emod_of_nonneg (by omega)]; omega
      have HLD : Hid (led b p = Y % 16384) := by show _ = _; rw [hY]; rfl
      obtain ⟨L, hL⟩ : ∃ L, L = Y % 16384 := ⟨_, rfl⟩
      have hLl : L < 16384 := by omega
      have HLL := hide hL
      clear hY bl
      go_wp2_with fail
      refine H2.out.mono ?_
      rintro e w2 ⟨rfl, hb2⟩
      have BL2 := hide (BL.out.trans (hb2.mono BL.out.size))
      have RR2 := hide (keepB hb2 RR.out)
      clear hb2 hc0 hgx
      by_cases hq : q ≤ L
      · have HS : Hid (R = ([], 0, .one p 100)) := by show _ = _; rw [HREC.out, nm_led2 (by rw [← HZ.out]; exact h192) (by rw [HLN.out]; omega) (by rw [HLD.out, ← HLL.out]; exact hq)]
        have g3 : decide ((q : Int) ≤ (L : Int)) = true := decide_eq_true (by omega)
        have g3' : decide (q ≤ L) = true := decide_eq_true hq
        rw [← hL] at hrem
        clear h192 h2 hL hq
        go_wp2_with fail
        refine (dfault_at p 100 _).mono ?_
        rintro e w9 ⟨rfl, hb9⟩
        have hr9 : w9.heap[w.heap.size]? = some (.cells (badC .ok) 32) := keepB hb9 RR2.out
        obtain ⟨W9, hW9⟩ : ∃ W9, W9 = w9.setRow w.heap.size (badG (.one p 100)) := ⟨_, rfl⟩
        have hrow9 : W9.heap[w.heap.size]? = some (.cells (badG (.one p 100)) 32) := by rw [hW9]; exact setRow_heap _ _ _ _ _ hr9
        have hB9 : Below w.heap.size w W9 := by rw [hW9]; exact below_setRow (BL2.out.trans (hb9.mono BL2.out.size)) (Nat.le_refl _) _
        have HR9 := hide hr9
        have HW9 := hide hW9
        have HROW9 := hide hrow9
        have HB9 := hide hB9
        clear hr9 hW9 hrow9 hB9 hb9
        rw [badF_badG]
        go_wp2_with (first | (refine wpList_store_rowW rfl 32 _ _ rfl w.heap.size (badG (.one p 100)) rfl rfl 32 (badC .ok) HR9.out (infoG _) (by simp [badC_size, badG_size]) (badG_one _) W9 HW9.out ?_))
        refine bodyPost_ret (res_ttc rfl _ _ w.heap.size 32 (badG (.one p 100)) (0, 0) _ rfl HROW9.out Tryd.underlying32 rfl (infoG _)) rfl ⟨?_, HB9.out⟩
        rw [HS.out]; rfl
      have g3 : decide ((q : Int) ≤ (L : Int)) = false := decide_eq_false (by omega)
      have g3' : decide (q ≤ L) = false := decide_eq_false hq
      rw [← hL] at hrem
      have HN : Hid (R = nm b A L L t (if q = A then p + 2 else bh)) := by
        show _ = _
        rw [HREC.out, nm_led (by rw [← HZ.out]; exact h192) (by rw [HLN.out]; omega) (by rw [HLD.out, ← HLL.out]; omega), HLD.out, ← HLL.out]
      have HMM : Hid (mea n L L < mea n q p) := mea_led (by omega)
      have HP2 : Hid (p + 2 ≤ n) := by show _ ≤ _; omega
      have hLq : L < q := by omega
      by_cases hqA : q = A
      · have HEN : Hid (E = -1) := by show _ = _; rw [HE.out, enI, if_pos hqA]
        have HNN : Hid (R = nm b A L L t (p + 2)) := by show _ = _; rw [HN.out, if_pos hqA]
        have HLA : Hid (L ≠ A) := by show L ≠ A; omega
        obtain rfl := HEN.out
        clear h192 h2 hL hq hqA
        go_wp2_with fail
        go_roundg (gk - 1)
        case measure => have := HME.out; omega
        case rel => exact ⟨L, L, p + 2, T, ((p + 2 : Nat) : Int), by omega, by omega, HP2.out, rfl, by go_num, rfl, rfl, hT, t, HT.out, by unfold enI; rw [if_neg HLA.out], HNN.out, HTB.out, HTL.out, by have := HME.out; have := HMM.out; omega, BL2.out, RR2.out⟩
      · have HEN : Hid (E = (bh : Nat)) := by show _ = _; rw [HE.out, enI, if_neg hqA]
        have HNN : Hid (R = nm b A L L t bh) := by show _ = _; rw [HN.out, if_neg hqA]
        obtain rfl := HEN.out
        have g4 : decide ((bh : Int) < 0) = false := decide_eq_false (by omega)
        have HLA : Hid (L ≠ A) := by show L ≠ A; omega
        clear h192 h2 hL hq hqA
        go_wp2_with fail
        go_roundg (gk - 1)
        case measure => have := HME.out; omega
        case rel => exact ⟨L, L, bh, T, (bh : Nat), by omega, by omega, by omega, rfl, rfl, rfl, rfl, hT, t, HT.out, by unfold enI; rw [if_neg HLA.out], HNN.out, HTB.out, HTL.out, by have := HME.out; have := HMM.out; omega, BL2.out, RR2.out⟩
    have g1 : decide (192 ≤ (z : Int)) = false := decide_eq_false (by omega)
    have g1' : decide (192 ≤ z) = false := decide_eq_false h192
    by_cases h64 : 64 ≤ z
    · have HS : Hid (R = ([], 0, .one p 61)) := by show _ = _; rw [HREC.out, nm_mid (by rw [HLN.out]; exact hp') (by rw [← HZ.out]; omega) (by rw [← HZ.out]; exact h64)]
      have g2 : decide (64 ≤ (z : Int)) = true := decide_eq_true (by omega)
      have g2' : decide (64 ≤ z) = true := decide_eq_true h64
      clear bl h192 h64
      go_wp2_with fail
      refine (dfault_at p 61 _).mono ?_
      rintro e w9 ⟨rfl, hb9⟩
      have hr9 : w9.heap[w.heap.size]? = some (.cells (badC .ok) 32) := keepB hb9 RR.out
      obtain ⟨W9, hW9⟩ : ∃ W9, W9 = w9.setRow w.heap.size (badG (.one p 61)) := ⟨_, rfl⟩
      have hrow9 : W9.heap[w.heap.size]? = some (.cells (badG (.one p 61)) 32) := by rw [hW9]; exact setRow_heap _ _ _ _ _ hr9
      have hB9 : Below w.heap.size w W9 := by rw [hW9]; exact below_setRow (BL.out.trans (hb9.mono BL.out.size)) (Nat.le_refl _) _
      have HR9 := hide hr9
      have HW9 := hide hW9
      have HROW9 := hide hrow9
      have HB9 := hide hB9
      clear hr9 hW9 hrow9 hB9 hb9
      rw [badF_badG]
      go_wp2_with (first | (refine wpList_store_rowW rfl 32 _ _ rfl w.heap.size (badG (.one p 61)) rfl rfl 32 (badC .ok) HR9.out (infoG _) (by simp [badC_size, badG_size]) (badG_one _) W9 HW9.out ?_))
      refine bodyPost_ret (res_ttc rfl _ _ w.heap.size 32 (badG (.one p 61)) (0, 0) _ rfl HROW9.out Tryd.underlying32 rfl (infoG _)) rfl ⟨?_, HB9.out⟩
      rw [HS.out]; rfl
    have g2 : decide (64 ≤ (z : Int)) = false := decide_eq_false (by omega)
    have g2' : decide (64 ≤ z) = false := decide_eq_false h64
    by_cases h0 : 0 < z
    · have g3 : decide (0 < (z : Int)) = true := decide_eq_true (by omega)
      have g3' : decide (0 < z) = true := decide_eq_true h0
      by_cases hs : n < p + 1 + z
      · have HS : Hid (R = ([], 0, .one n 6)) := by show _ = _; rw [HREC.out, nm_lab1 (by rw [HLN.out]; exact hp') (by rw [← HZ.out]; exact h0) (by rw [← HZ.out]; omega) (by rw [HLN.out, ← HZ.out]; exact hs), HLN.out]
        have g4 : decide ((n : Int) < (p : Int) + 1 + z) = true := decide_eq_true (by omega)
        have g4' : decide (n < p + 1 + z) = true := decide_eq_true hs
        clear bl h192 h64 hs
        go_wp2_with fail
        refine (dshort_at _ n c _).mono ?_
        rintro e w9 ⟨rfl, hb9⟩
        have hr9 : w9.heap[w.heap.size]? = some (.cells (badC .ok) 32) := keepB hb9 RR.out
        obtain ⟨W9, hW9⟩ : ∃ W9, W9 = w9.setRow w.heap.size (badG (.one n 6)) := ⟨_, rfl⟩
        have hrow9 : W9.heap[w.heap.size]? = some (.cells (badG (.one n 6)) 32) := by rw [hW9]; exact setRow_heap _ _ _ _ _ hr9
        have hB9 : Below w.heap.size w W9 := by rw [hW9]; exact below_setRow (BL.out.trans (hb9.mono BL.out.size)) (Nat.le_refl _) _
        have HR9 := hide hr9
        have HW9 := hide hW9
        have HROW9 := hide hrow9
        have HB9 := hide hB9
        clear hr9 hW9 hrow9 hB9 hb9
        rw [badF_badG]
        go_wp2_with (first | (refine wpList_store_rowW rfl 32 _ _ rfl w.heap.size (badG (.one n 6)) rfl rfl 32 (badC .ok) HR9.out (infoG _) (by simp [badC_size, badG_size]) (badG_one _) W9 HW9.out ?_))
        refine bodyPost_ret (res_ttc rfl _ _ w.heap.size 32 (badG (.one n 6)) (0, 0) _ rfl HROW9.out Tryd.underlying32 rfl (infoG _)) rfl ⟨?_, HB9.out⟩
        rw [HS.out]; rfl
      have g4 : decide ((n : Int) < (p : Int) + 1 + z) = false := decide_eq_false (by omega)
      have g4' : decide (n < p + 1 + z) = false := decide_eq_false hs
      obtain ⟨x2, q1, q2, q3, q4⟩ := run_cut _ _ _ _ _ (HSRC.out wr bl) (p + 1) z (by omega)
      have ei : (((p + 1 : Nat) : Int)) = (p : Int) + 1 := by omega
      rw [ei] at q1 q2
      obtain ⟨y2, hy2⟩ : ∃ y2, y2 = c - (p + 1) := ⟨_, rfl⟩
      rw [← hy2] at q1 q2 q3
      have q5 := run_str_src q3
      obtain ⟨P, hP⟩ : ∃ P, P = pc b (p + 1) z := ⟨_, rfl⟩
      rw [← hP] at q3 q5
      have HP : Hid (lbl b p = P) := by show _ = _; rw [hP, HZ.out]; rfl
      have hPl : P.length = z := q3.hlen
      have hPb : ∀ x ∈ P, x < 256 := q3.byte
      have HLB := hide (dlabel_at (strN P) wr (by rw [strN_size]; omega) (by rw [strN_size]; omega))
      rw [byt_strN P hPb] at HLB
      have HPB := hide hPb
      have hPs : (strN P).size = z := by rw [strN_size, hPl]
      have n0 : 0 < b.getD p 0 := by rw [← HZ.out]; exact h0
      have n64 : b.getD p 0 < 64 := by rw [← HZ.out]; omega
      have nle : p + 1 + b.getD p 0 ≤ b.length := by rw [← HZ.out, HLN.out]; omega
      have HN0 := hide n0
      have HN64 := hide n64
      have HNLE := hide nle
      have hz64 : z < 64 := by omega
      have HPZ : Hid (p + 1 + z ≤ n) := by show _ ≤ _; omega
      clear q3 q4 ei hy2 hP bl h192 h64 hs hPb n0 n64 nle
      go_wp2_with fail
      refine HLB.out.mono ?_
      rintro e w2 ⟨rfl, rfl⟩
      cases hlb : labB P with
      | false =>
        have HS : Hid (R = ([], 0, .one p 61)) := by show _ = _; rw [HREC.out, nm_lab2 HN0.out HN64.out HNLE.out (by rw [HP.out, hlb]; simp)]
        clear hlb
        go_wp2_with fail
        refine (dfault_at p 61 _).mono ?_
        rintro e w9 ⟨rfl, hb9⟩
        have hr9 : w9.heap[w.heap.size]? = some (.cells (badC .ok) 32) := keepB hb9 RR.out
        obtain ⟨W9, hW9⟩ : ∃ W9, W9 = w9.setRow w.heap.size (badG (.one p 61)) := ⟨_, rfl⟩
        have hrow9 : W9.heap[w.heap.size]? = some (.cells (badG (.one p 61)) 32) := by rw [hW9]; exact setRow_heap _ _ _ _ _ hr9
        have hB9 : Below w.heap.size w W9 := by rw [hW9]; exact below_setRow (BL.out.trans (hb9.mono BL.out.size)) (Nat.le_refl _) _
        have HR9 := hide hr9
        have HW9 := hide hW9
        have HROW9 := hide hrow9
        have HB9 := hide hB9
        clear hr9 hW9 hrow9 hB9 hb9
        rw [badF_badG]
        go_wp2_with (first | (refine wpList_store_rowW rfl 32 _ _ rfl w.heap.size (badG (.one p 61)) rfl rfl 32 (badC .ok) HR9.out (infoG _) (by simp [badC_size, badG_size]) (badG_one _) W9 HW9.out ?_))
        refine bodyPost_ret (res_ttc rfl _ _ w.heap.size 32 (badG (.one p 61)) (0, 0) _ rfl HROW9.out Tryd.underlying32 rfl (infoG _)) rfl ⟨?_, HB9.out⟩
        rw [HS.out]; rfl
      | true =>
        have HLT : Hid (labB (lbl b p) = true) := by show _ = _; rw [HP.out, hlb]
        have HLO := hide (lower_at (strN P))
        rw [byt_strN P HPB.out] at HLO
        have hlow : (strN (low P)).size = z := by rw [strN_size, low_length, hPl]
        by_cases hte : t = []
        · have HTE : Hid (tx t (lbl b p) = P) := by show _ = _; rw [hte, HP.out]; simp [tx]
          have hT0 : T.toList.isEmpty = true := by rw [HT.out, strN_isEmpty, hte]; simp [low]
          have hT0' : T.toList = [] := by simpa using hT0
          have HTT : Hid (T = ⟨#[]⟩) := by show _ = _; rw [HT.out, hte]; rfl
          obtain rfl := HTT.out
          have HLEN : Hid ((tx t (lbl b p)).length ≤ 253) := by show _ ≤ _; rw [HTE.out]; omega
          have HNX : Hid (R = nm b A q (p + 1 + z) P bh) := by show _ = _; rw [HREC.out, nm_lab HN0.out HN64.out HNLE.out HLT.out HLEN.out, HTE.out, ← HZ.out]
          have HMM : Hid (mea n q (p + (1 + z)) < mea n q p) := mea_lab hp' (by omega)
          have g5 : decide (253 < (z : Int)) = false := decide_eq_false (by omega)
          have g5' : decide (253 < z) = false := decide_eq_false (by omega)
          clear hlb hte
          go_wp2_with fail
          refine (HLO.out _ (by rw [strN_size]; omega)).mono ?_
          rintro e w3 ⟨rfl, hb3⟩
          have BL3 := hide (BL.out.trans (hb3.mono BL.out.size))
          have RR3 := hide (keepB hb3 RR.out)
          have e0 : (⟨#[]⟩ : ByteArray) ++ strN (low P) = strN (low P) := by rw [show (⟨#[]⟩ : ByteArray) = strN [] from rfl, ← strN_append]; simp
          clear hb3 hc0 hgx
          go_wp2_with fail
          go_roundg (gk - 1)
          case measure => have := HME.out; omega
          case rel => exact ⟨q, p + 1 + z, bh, strN (low P), E, HPZ.out, hqn, hbn, rfl, rfl, rfl, by go_num, by omega, P, rfl, HE.out, HNX.out, HPB.out, by omega, by have := HME.out; have := HMM.out; rw [← Nat.add_assoc] at this; omega, BL3.out, RR3.out⟩
        · have hT0 : T.toList.isEmpty = false := by rw [HT.out, strN_isEmpty]; simp [low_nil_iff, hte]
          have hT0' : ¬ T.toList = [] := by intro e; rw [e] at hT0; cases hT0
          have HTX := hide (tx_low t P hte)
          have HTE : Hid (tx t (lbl b p) = tx t P) := by show _ = _; rw [HP.out]
          have hsz : (T ++ ⟨#[46]⟩ ++ strN (low P)).size = (tx t P).length := by rw [HT.out, ← HTX.out, strN_size, low_length]
          have hszT : T.size = t.length := by rw [HT.out, strN_size, low_length]
          have hlen : (tx t P).length = T.size + 1 + z := by rw [tx_ne hte]; simp; omega
          by_cases hbig : 253 < (tx t P).length
          · have HS : Hid (R = ([], 0, .one A 63)) := by show _ = _; rw [HREC.out, nm_lab3 HN0.out HN64.out HNLE.out HLT.out (by rw [HTE.out]; exact hbig)]
            have g5 : decide (253 < (T.size : Int) + 1 + z) = true := decide_eq_true (by omega)
            have g5' : decide (253 < T.size + 1 + z) = true := decide_eq_true (by omega)
            clear hlb hte hsz hszT hlen hbig
            go_wp2_with fail
            refine (HLO.out _ (by rw [strN_size]; omega)).mono ?_
            rintro e w3 ⟨rfl, hb3⟩
            have BL3 := hide (BL.out.trans (hb3.mono BL.out.size))
            have RR3 := hide (keepB hb3 RR.out)
            clear hb3 hc0 hgx
            go_wp2_with fail
            refine (dfault_at A 63 _).mono ?_
            rintro e w9 ⟨rfl, hb9⟩
            have hr9 : w9.heap[w.heap.size]? = some (.cells (badC .ok) 32) := keepB hb9 RR3.out
            obtain ⟨W9, hW9⟩ : ∃ W9, W9 = w9.setRow w.heap.size (badG (.one A 63)) := ⟨_, rfl⟩
            have hrow9 : W9.heap[w.heap.size]? = some (.cells (badG (.one A 63)) 32) := by rw [hW9]; exact setRow_heap _ _ _ _ _ hr9
            have hB9 : Below w.heap.size w W9 := by rw [hW9]; exact below_setRow (BL3.out.trans (hb9.mono BL3.out.size)) (Nat.le_refl _) _
            have HR9 := hide hr9
            have HW9 := hide hW9
            have HROW9 := hide hrow9
            have HB9 := hide hB9
            clear hr9 hW9 hrow9 hB9 hb9
            rw [badF_badG]
            go_wp2_with (first | (refine wpList_store_rowW rfl 32 _ _ rfl w.heap.size (badG (.one A 63)) rfl rfl 32 (badC .ok) HR9.out (infoG _) (by simp [badC_size, badG_size]) (badG_one _) W9 HW9.out ?_))
            refine bodyPost_ret (res_ttc rfl _ _ w.heap.size 32 (badG (.one A 63)) (0, 0) _ rfl HROW9.out Tryd.underlying32 rfl (infoG _)) rfl ⟨?_, HB9.out⟩
            rw [HS.out]; rfl
          · have HNX : Hid (R = nm b A q (p + 1 + z) (tx t P) bh) := by show _ = _; rw [HREC.out, nm_lab HN0.out HN64.out HNLE.out HLT.out (by rw [HTE.out]; omega), HTE.out, ← HZ.out]
            have HMM : Hid (mea n q (p + (1 + z)) < mea n q p) := mea_lab hp' (by omega)
            have g5 : decide (253 < (T.size : Int) + 1 + z) = false := decide_eq_false (by omega)
            have g5' : decide (253 < T.size + 1 + z) = false := decide_eq_false (by omega)
            have HSZ : Hid ((T ++ ⟨#[46]⟩ ++ strN (low P)).size ≤ 253) := by show _ ≤ _; rw [hsz]; omega
            have HTLL : Hid ((tx t P).length ≤ 253) := by show _ ≤ _; omega
            have HTXB : Hid (∀ x ∈ tx t P, x < 256) := fun x hx => by
              rw [tx_ne hte] at hx
              rcases List.mem_append.1 hx with h | h
              · rcases List.mem_append.1 h with h | h
                · exact HTB.out x h
                · simp at h; omega
              · exact HPB.out x h
            clear hlb hte hsz hszT hlen hbig
            go_wp2_with fail
            refine (HLO.out _ (by rw [strN_size]; omega)).mono ?_
            rintro e w3 ⟨rfl, hb3⟩
            have BL3 := hide (BL.out.trans (hb3.mono BL.out.size))
            have RR3 := hide (keepB hb3 RR.out)
            clear hb3 hc0 hgx
            go_wp2_with fail
            go_roundg (gk - 1)
            case measure => have := HME.out; omega
            case rel => exact ⟨q, p + 1 + z, bh, T ++ ⟨#[46]⟩ ++ strN (low P), E, HPZ.out, hqn, hbn, rfl, rfl, rfl, by go_num, HSZ.out, tx t P, by rw [HTX.out, HT.out], HE.out, HNX.out, HTXB.out, HTLL.out, by have := HME.out; have := HMM.out; rw [← Nat.add_assoc] at this; omega, BL3.out, RR3.out⟩
    have g3 : decide (0 < (z : Int)) = false := decide_eq_false (by omega)
    have g3' : decide (0 < z) = false := decide_eq_false h0
    have hz0 : b.getD p 0 = 0 := by rw [← HZ.out]; omega
    have HEND : Hid (R = if (name t).2 = .ok then ((name t).1, if q = A then p + 1 else bh, .ok) else ([], 0, .one A 63)) := by show _ = _; rw [HREC.out, nm_end (by rw [HLN.out]; exact hp') hz0]
    have HPN := hide (rparseName_at T wr (by unfold maxLen; omega))
    have hbT : byt T = low t := by rw [HT.out, byt_strN _ (low_lt HTB.out)]
    rw [hbT] at HPN
    clear h192 h64 h0 hz0 hbT
    go_wp2_with fail
    refine HPN.out.mono ?_
    rintro e w2 ⟨rfl, hb2⟩
    have BL2 := hide (BL.out.trans (hb2.mono BL.out.size))
    have RR2 := hide (keepB hb2 RR.out)
    have rr2 := keepB hb2 RR.out
    have hg2 : w.heap.size < w2.heap.size := lt_of_some rr2
    clear hb2 hc0 hgx bl rr2
    by_cases hok : (name t).2 = .ok
    · have hok2 := (name_low_iff t).2 hok
      rw [hok2]
      have HNM : Hid ((name t).1 = low t) := (name_some hok).1
      have HR1 : Hid (R = (low t, if q = A then p + 1 else bh, .ok)) := by show _ = _; rw [HEND.out, if_pos hok, HNM.out]
      simp only [badV]
      obtain ⟨X, hX⟩ : ∃ X, X = strN (name (low t)).1 := ⟨_, rfl⟩
      rw [← hX]
      clear hok hok2 hX
      by_cases hqA : q = A
      · have HEN : Hid (E = -1) := by show _ = _; rw [HE.out, enI, if_pos hqA]
        have HR2 : Hid (R = (low t, p + 1, .ok)) := by show _ = _; rw [HR1.out, if_pos hqA]
        obtain rfl := HEN.out
        clear hqA
        obtain ⟨W3, hW3⟩ : ∃ W3, W3 = w2.alloc (.cells #[.int .i64 0, .string ⟨#[]⟩, .string ⟨#[]⟩, .string ⟨#[]⟩, .string ⟨#[]⟩, .int .i64 0, .int .i64 0, .int .i64 0, .int .i64 0, .int .i64 0] 32) := ⟨_, rfl⟩
        have rr3 : (w2.alloc (.cells #[.int .i64 0, .string ⟨#[]⟩, .string ⟨#[]⟩, .string ⟨#[]⟩, .string ⟨#[]⟩, .int .i64 0, .int .i64 0, .int .i64 0, .int .i64 0, .int .i64 0] 32)).heap[w.heap.size]? = some (.cells (badC .ok) 32) := alloc_old _ RR2.out
        obtain ⟨W4, hW4⟩ : ∃ W4, W4 = (w2.alloc (.cells #[.int .i64 0, .string ⟨#[]⟩, .string ⟨#[]⟩, .string ⟨#[]⟩, .string ⟨#[]⟩, .int .i64 0, .int .i64 0, .int .i64 0, .int .i64 0, .int .i64 0] 32)).setRow w.heap.size (badC .ok) := ⟨_, rfl⟩
        have hrow4 : W4.heap[w.heap.size]? = some (.cells (badC .ok) 32) := by rw [hW4]; exact setRow_heap _ _ _ _ _ rr3
        have hB4 : Below w.heap.size w W4 := by rw [hW4]; exact below_setRow (BL2.out.alloc (by omega) _) (Nat.le_refl _) _
        have HR4 := hide rr3
        have HW4 := hide hW4
        have HROW4 := hide hrow4
        have HB4 := hide hB4
        clear rr3 hW4 hrow4 hB4 hW3
        go_wp2_with (first | (refine wpList_store_rowW rfl 32 _ _ rfl w.heap.size (badC .ok) rfl rfl 32 (badC .ok) HR4.out info32 rfl (badC_one _) W4 HW4.out ?_))
        refine bodyPost_ret (res_ttc rfl _ _ w.heap.size 32 (badC .ok) (0, 0) _ rfl HROW4.out Tryd.underlying32 rfl info32) rfl ⟨?_, HB4.out⟩
        rw [HR2.out, HT.out]; rfl
      · have HEN : Hid (E = (bh : Nat)) := by show _ = _; rw [HE.out, enI, if_neg hqA]
        have HR2 : Hid (R = (low t, bh, .ok)) := by show _ = _; rw [HR1.out, if_neg hqA]
        obtain rfl := HEN.out
        have g4 : decide ((bh : Int) < 0) = false := decide_eq_false (by omega)
        clear hqA
        obtain ⟨W3, hW3⟩ : ∃ W3, W3 = w2.alloc (.cells #[.int .i64 0, .string ⟨#[]⟩, .string ⟨#[]⟩, .string ⟨#[]⟩, .string ⟨#[]⟩, .int .i64 0, .int .i64 0, .int .i64 0, .int .i64 0, .int .i64 0] 32) := ⟨_, rfl⟩
        have rr3 : (w2.alloc (.cells #[.int .i64 0, .string ⟨#[]⟩, .string ⟨#[]⟩, .string ⟨#[]⟩, .string ⟨#[]⟩, .int .i64 0, .int .i64 0, .int .i64 0, .int .i64 0, .int .i64 0] 32)).heap[w.heap.size]? = some (.cells (badC .ok) 32) := alloc_old _ RR2.out
        obtain ⟨W4, hW4⟩ : ∃ W4, W4 = (w2.alloc (.cells #[.int .i64 0, .string ⟨#[]⟩, .string ⟨#[]⟩, .string ⟨#[]⟩, .string ⟨#[]⟩, .int .i64 0, .int .i64 0, .int .i64 0, .int .i64 0, .int .i64 0] 32)).setRow w.heap.size (badC .ok) := ⟨_, rfl⟩
        have hrow4 : W4.heap[w.heap.size]? = some (.cells (badC .ok) 32) := by rw [hW4]; exact setRow_heap _ _ _ _ _ rr3
        have hB4 : Below w.heap.size w W4 := by rw [hW4]; exact below_setRow (BL2.out.alloc (by omega) _) (Nat.le_refl _) _
        have HR4 := hide rr3
        have HW4 := hide hW4
        have HROW4 := hide hrow4
        have HB4 := hide hB4
        clear rr3 hW4 hrow4 hB4 hW3
        go_wp2_with (first | (refine wpList_store_rowW rfl 32 _ _ rfl w.heap.size (badC .ok) rfl rfl 32 (badC .ok) HR4.out info32 rfl (badC_one _) W4 HW4.out ?_))
        refine bodyPost_ret (res_ttc rfl _ _ w.heap.size 32 (badC .ok) (0, 0) _ rfl HROW4.out Tryd.underlying32 rfl info32) rfl ⟨?_, HB4.out⟩
        rw [HR2.out, HT.out]; rfl
    · have HS : Hid (R = ([], 0, .one A 63)) := by show _ = _; rw [HEND.out, if_neg hok]
      have hok2 : (name (low t)).2 ≠ .ok := fun h => hok ((name_low_iff t).1 h)
      obtain ⟨ea, ec, hea⟩ : ∃ ea ec, (name (low t)).2 = .one ea ec := by rcases name_er (low t) with h | h; exact absurd h hok2; exact h
      rw [hea]
      simp only [badV]
      obtain ⟨X, hX⟩ : ∃ X, X = strN (name (low t)).1 := ⟨_, rfl⟩
      rw [← hX]
      clear hok hok2 hX hea
      obtain ⟨W3, hW3⟩ : ∃ W3, W3 = w2.alloc (.cells #[.int .i64 1, .string ⟨#[104, 111, 115, 116]⟩, .string ⟨#[]⟩, .string ⟨#[]⟩, .string ⟨#[]⟩, .int .i64 (ea : Nat), .int .i64 0, .int .i64 0, .int .i64 0, .int .i64 (ec : Nat)] 32) := ⟨_, rfl⟩
      have RR3 : Hid (W3.heap[w.heap.size]? = some (.cells (badC .ok) 32)) := by rw [hW3]; exact alloc_old _ RR2.out
      have BL3 : Hid (Below w.heap.size w W3) := by rw [hW3]; exact BL2.out.alloc (by omega) _
      have HW3 := hide hW3.symm
      clear hW3
      go_wp2_with fail
      rw [HW3.out]
      refine (dfault_at A 63 _).mono ?_
      rintro e w9 ⟨rfl, hb9⟩
      have hr9 : w9.heap[w.heap.size]? = some (.cells (badC .ok) 32) := keepB hb9 RR3.out
      obtain ⟨W9, hW9⟩ : ∃ W9, W9 = w9.setRow w.heap.size (badG (.one A 63)) := ⟨_, rfl⟩
      have hrow9 : W9.heap[w.heap.size]? = some (.cells (badG (.one A 63)) 32) := by rw [hW9]; exact setRow_heap _ _ _ _ _ hr9
      have hB9 : Below w.heap.size w W9 := by rw [hW9]; exact below_setRow (BL3.out.trans (hb9.mono BL3.out.size)) (Nat.le_refl _) _
      have HR9 := hide hr9
      have HW9 := hide hW9
      have HROW9 := hide hrow9
      have HB9 := hide hB9
      clear hr9 hW9 hrow9 hB9 hb9
      rw [badF_badG]
      go_wp2_with (first | (refine wpList_store_rowW rfl 32 _ _ rfl w.heap.size (badG (.one A 63)) rfl rfl 32 (badC .ok) HR9.out (infoG _) (by simp [badC_size, badG_size]) (badG_one _) W9 HW9.out ?_))
      refine bodyPost_ret (res_ttc rfl _ _ w.heap.size 32 (badG (.one A 63)) (0, 0) _ rfl HROW9.out Tryd.underlying32 rfl (infoG _)) rfl ⟨?_, HB9.out⟩
      rw [HS.out]; rfl
end Go.Proofs.YtelfikbahcckaaaDoor
