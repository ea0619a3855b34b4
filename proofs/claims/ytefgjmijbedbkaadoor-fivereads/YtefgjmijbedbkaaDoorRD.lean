/-
  The reference's place: a host within a message; conditions as each theorem has them.
-/
import Derived.Test.YtefgjmijbedbkaaDoorRB
import Derived.Test.YtefgjmijbedbkaaDoorV
import Derived.Deep.RegionWith
set_option linter.unusedSimpArgs false
set_option linter.unusedVariables false
namespace Go.Proofs.YtefgjmijbedbkaaDoor
open Go.RowKit

theorem res_ctc {P : Program} {fn : Func} {p u q : Tmp} {ty ty2 : TypeId} (h : fn.results = #[.cell p ty, .tmp u, .cell q ty2]) (tmps : Array Value) (w : World)
    (g : Nat) (t : TypeId) (cs : Array Value) (fr : Nat × Nat) (d : TypeDesc)
    (hp : tmps.getD p undef = .pointer (some ⟨g, 0, none⟩)) (hg : w.heap[g]? = some (.cells cs t fr))
    (hu : P.underlying ty = some d) (hd : (match d with | .struct _ | .array _ _ => true | _ => false) = true) (hi : (P.info? ty).map (·.size) = some cs.size)
    (g2 : Nat) (t2 : TypeId) (cs2 : Array Value) (fr2 : Nat × Nat) (d2 : TypeDesc)
    (hp2 : tmps.getD q undef = .pointer (some ⟨g2, 0, none⟩)) (hg2 : w.heap[g2]? = some (.cells cs2 t2 fr2))
    (hu2 : P.underlying ty2 = some d2) (hd2 : (match d2 with | .struct _ | .array _ _ => true | _ => false) = true) (hi2 : (P.info? ty2).map (·.size) = some cs2.size) :
    (results fn tmps).run P w = .ok (.tuple #[.agg cs, tmps.getD u undef, .agg cs2]) w := by
  have hp' : tmps[p]?.getD undef = .pointer (some ⟨g, 0, none⟩) := by simpa using hp
  have hp2' : tmps[q]?.getD undef = .pointer (some ⟨g2, 0, none⟩) := by simpa using hp2
  simp only [results, h]
  simp [Sem.run_bind, Result.andThen, hp', hp2', asAddr, run_loadVar_row w g t ty cs fr d hg hu hd hi, run_loadVar_row w g2 t2 ty2 cs2 fr2 d2 hg2 hu2 hd2 hi2]
def z5 : Array Value := #[.int .u8 0, .int .u8 0, .int .u8 0, .int .u8 0, .string ⟨#[]⟩]
/-- Two results of a call in memory, not yet set, and the bytes that it reads. -/
structure Pl (w W : World) (G : Nat) (x : Option Addr) (n c : Nat) (b : List Nat) : Prop where
  bel : Below w.heap.size w W
  rh : W.heap[w.heap.size]? = some (.cells z5 45)
  rb : W.heap[G]? = some (.cells (badC .ok) 33)
  src : Src W x n c b
theorem Pl.below {w W W' : World} {G : Nat} {x : Option Addr} {n c : Nat} {b : List Nat} (h : Pl w W G x n c b) (k : Below W.heap.size W W') : Pl w W' G x n c b :=
  ⟨h.bel.trans (k.mono h.bel.size), keepB k h.rh, keepB k h.rb, h.src.below k⟩
/-- Both results are set. -/
structure Pf (w W : World) (G : Nat) (H E : Array Value) : Prop where
  bel : Below w.heap.size w W
  rh : W.heap[w.heap.size]? = some (.cells H 45)
  rb : W.heap[G]? = some (.cells E 33)
theorem Pl.fin {w W : World} {G : Nat} {x : Option Addr} {n c : Nat} {b : List Nat} (h : Pl w W G x n c b) (hG : w.heap.size < G) (H E : Array Value) : Pf w ((W.setRow w.heap.size H).setRow G E) G H E := by
  have r1 := setRow_heap _ _ H _ _ h.rh
  have r2 : (W.setRow w.heap.size H).heap[G]? = some (.cells (badC .ok) 33) := by rw [setRow_ne _ _ _ _ (by omega)]; exact h.rb
  exact ⟨below_setRow (below_setRow h.bel (Nat.le_refl _) _) (by omega) _, by rw [setRow_ne _ _ _ _ (by omega)]; exact r1, setRow_heap _ _ _ _ _ r2⟩
noncomputable def placeV (b : List Nat) : Value := .tuple #[hoV (place b).1.1 (strN (place b).1.2), .int .i64 ((place b).2.1 : Nat), badF (place b).2.2]
attribute [local go_sem ↓] run_op33 run_opst33 run_opst45 Go.wp_at_zero Go.wp_at_succ
attribute [local go_sem] rowOf_drew isRow_drew arrAt_ptr isAt_ptr putAt_ptr canPut_drew setRow_drew
set_option maxRecDepth 100000 in
set_option maxHeartbeats 8000000 in
theorem rplace_at (x : Option Addr) (n c : Nat) (b : List Nat) (w : World) (h : Src w x n c b) : Calls Tryd.prog 47 #[.slice x n c, .int .i64 3] w fun e w' => e = .returned (placeV b) ∧ Below w.heap.size w w' := by
  have HBY := hide h.byte
  have hl := h.hlen
  have hm := h.hmax
  have hc := h.hcap
  unfold maxLen at hm
  obtain ⟨G, hG⟩ : ∃ G, G = w.heap.size + 1 := ⟨_, rfl⟩
  obtain ⟨W0, hW0⟩ : ∃ W0, W0 = (w.alloc (.cells z5 45)).alloc (.cells (badC .ok) 33) := ⟨_, rfl⟩
  have P0 : Hid (Pl w W0 G x n c b) := by
    rw [hW0, hG]
    have b0 : Below w.heap.size w ((w.alloc (.cells z5 45)).alloc (.cells (badC .ok) 33)) := ((Below.refl _ _).alloc (Nat.le_refl _) _).alloc (by simp) _
    exact ⟨b0, alloc_old _ (alloc_new _ _), alloc_new2 _ _ _, h.below b0⟩
  have HW0 : Hid ((w.alloc (.cells #[.int .u8 0, .int .u8 0, .int .u8 0, .int .u8 0, .string ⟨#[]⟩] 45)).alloc (.cells #[.int .i64 0, .string ⟨#[]⟩, .string ⟨#[]⟩, .string ⟨#[]⟩, .string ⟨#[]⟩, .int .i64 0, .int .i64 0, .int .i64 0, .int .i64 0, .int .i64 0] 33) = W0) := hW0.symm
  have hGw : w.heap.size < G := by omega
  have HG := hide hG.symm
  have HGW := hide hGw
  by_cases h3 : n ≤ 3
  · have HS : Hid (place b = ((noA, []), 0, sh b)) := by show _ = _; unfold place; rw [if_pos (by omega)]
    have g1 : decide ((n : Int) ≤ 3) = true := decide_eq_true (by omega)
    have g1' : decide (n ≤ 3) = true := decide_eq_true h3
    clear h hW0 hG h3
    go_enter Tryd.func47, Tryd.ntmps47
    go_wp2_with fail
    rw [HW0.out, HG.out]
    refine (rshort_at x n c b _ P0.out.src).mono ?_
    rintro e w2 ⟨rfl, hb2⟩
    have P2 := hide (P0.out.below hb2)
    clear hb2
    rw [badF_badG]
    obtain ⟨WX, hWX⟩ : ∃ WX, WX = w2.setRow w.heap.size z5 := ⟨_, rfl⟩
    obtain ⟨WY, hWY⟩ : ∃ WY, WY = WX.setRow G (badG (sh b)) := ⟨_, rfl⟩
    have PF : Hid (Pf w WY G z5 (badG (sh b))) := by rw [hWY, hWX]; exact P2.out.fin HGW.out z5 (badG (sh b))
    have XB : Hid (WX.heap[G]? = some (.cells (badC .ok) 33)) := by rw [hWX, setRow_ne _ _ _ _ (by have := HGW.out; omega)]; exact P2.out.rb
    have HWX := hide hWX
    have HWY := hide hWY
    clear hWX hWY
    go_wp2_with (first
      | (refine wpList_store_rowW rfl 45 _ _ rfl w.heap.size z5 rfl rfl 45 z5 P2.out.rh info45 rfl (by simp [z5, Value.oneCell']) WX HWX.out ?_)
      | (refine wpList_store_rowW rfl 33 _ _ rfl G (badG (sh b)) rfl rfl 33 (badC .ok) XB.out (badGI _) (by simp [badC_size, badG_size]) (badG_one _) WY HWY.out ?_))
    refine bodyPost_ret (res_ctc rfl _ _ w.heap.size 45 z5 (0, 0) _ rfl PF.out.rh Tryd.underlying45 rfl info45 G 33 (badG (sh b)) (0, 0) _ rfl PF.out.rb Tryd.underlying33 rfl (badGI _)) rfl ⟨?_, PF.out.bel⟩
    unfold placeV; rw [HS.out]; rfl
  have g1 : decide ((n : Int) ≤ 3) = false := decide_eq_false (by omega)
  have g1' : decide (n ≤ 3) = false := decide_eq_false h3
  have hn3 : 3 < n := by omega
  obtain ⟨xb, xo, rfl, hxl, hcell⟩ := h.lies (by omega)
  have hc0 := hcell 3 hn3
  have hb := getD_lt h.byte 3
  obtain ⟨z, hz⟩ : ∃ z, z = b.getD 3 0 := ⟨_, rfl⟩
  rw [← hz] at hc0 hb
  have HZ := hide hz
  have HN3 : Hid (¬ b.length ≤ 3) := by show ¬ _; omega
  clear hz h3
  by_cases hz1 : z = 1
  · have q1 : ((z : Int) == 1) = true := by simp; omega
    by_cases h8 : n < 8
    · have HS : Hid (place b = ((noA, []), 0, sh b)) := by show _ = _; unfold place; rw [if_neg HN3.out, if_pos (by rw [← HZ.out]; exact hz1), if_pos (by omega)]
      have g2 : decide ((n : Int) < 8) = true := decide_eq_true (by omega)
      have g2' : decide (n < 8) = true := decide_eq_true h8
      clear h hcell hW0 hG hz1 h8
      go_enter Tryd.func47, Tryd.ntmps47
      go_wp2_with fail
      rw [HW0.out, HG.out]
      refine (rshort_at _ n c b _ P0.out.src).mono ?_
      rintro e w2 ⟨rfl, hb2⟩
      have P2 := hide (P0.out.below hb2)
      clear hb2
      rw [badF_badG]
      obtain ⟨WX, hWX⟩ : ∃ WX, WX = w2.setRow w.heap.size z5 := ⟨_, rfl⟩
      obtain ⟨WY, hWY⟩ : ∃ WY, WY = WX.setRow G (badG (sh b)) := ⟨_, rfl⟩
      have PF : Hid (Pf w WY G z5 (badG (sh b))) := by rw [hWY, hWX]; exact P2.out.fin HGW.out z5 (badG (sh b))
      have XB : Hid (WX.heap[G]? = some (.cells (badC .ok) 33)) := by rw [hWX, setRow_ne _ _ _ _ (by have := HGW.out; omega)]; exact P2.out.rb
      have HWX := hide hWX
      have HWY := hide hWY
      clear hWX hWY
      go_wp2_with (first
        | (refine wpList_store_rowW rfl 45 _ _ rfl w.heap.size z5 rfl rfl 45 z5 P2.out.rh info45 rfl (by simp [z5, Value.oneCell']) WX HWX.out ?_)
        | (refine wpList_store_rowW rfl 33 _ _ rfl G (badG (sh b)) rfl rfl 33 (badC .ok) XB.out (badGI _) (by simp [badC_size, badG_size]) (badG_one _) WY HWY.out ?_))
      refine bodyPost_ret (res_ctc rfl _ _ w.heap.size 45 z5 (0, 0) _ rfl PF.out.rh Tryd.underlying45 rfl info45 G 33 (badG (sh b)) (0, 0) _ rfl PF.out.rb Tryd.underlying33 rfl (badGI _)) rfl ⟨?_, PF.out.bel⟩
      unfold placeV; rw [HS.out]; rfl
    · have HS : Hid (place b = (((b.getD 4 0, b.getD 5 0, b.getD 6 0, b.getD 7 0), []), 8, .ok)) := by show _ = _; unfold place; rw [if_neg HN3.out, if_pos (by rw [← HZ.out]; exact hz1), if_neg (by omega)]
      have g2 : decide ((n : Int) < 8) = false := decide_eq_false (by omega)
      have g2' : decide (n < 8) = false := decide_eq_false h8
      have hn8 : 7 < n := by omega
      have d0 := hcell 4 (by omega)
      have d1 := hcell 5 (by omega)
      have d2 := hcell 6 (by omega)
      have d3 := hcell 7 (by omega)
      have b0 := getD_lt h.byte 4
      have b1 := getD_lt h.byte 5
      have b2 := getD_lt h.byte 6
      have b3 := getD_lt h.byte 7
      generalize b.getD 4 0 = x0 at d0 b0 HS
      generalize b.getD 5 0 = x1 at d1 b1 HS
      generalize b.getD 6 0 = x2 at d2 b2 HS
      generalize b.getD 7 0 = x3 at d3 b3 HS
      have e0 := (P0.out.bel.cell (p := ⟨xb, xo + 4, none⟩) hxl).trans d0
      have e1 := (P0.out.bel.cell (p := ⟨xb, xo + 5, none⟩) hxl).trans d1
      have e2 := (P0.out.bel.cell (p := ⟨xb, xo + 6, none⟩) hxl).trans d2
      have e3 := (P0.out.bel.cell (p := ⟨xb, xo + 7, none⟩) hxl).trans d3
      obtain ⟨WX, hWX⟩ : ∃ WX, W0.setRow w.heap.size #[.int .u8 (x0 : Nat), .int .u8 (x1 : Nat), .int .u8 (x2 : Nat), .int .u8 (x3 : Nat), .string ⟨#[]⟩] = WX := ⟨_, rfl⟩
      obtain ⟨WY, hWY⟩ : ∃ WY, WX.setRow G #[.int .i64 0, .string ⟨#[]⟩, .string ⟨#[]⟩, .string ⟨#[]⟩, .string ⟨#[]⟩, .int .i64 0, .int .i64 0, .int .i64 0, .int .i64 0, .int .i64 0] = WY := ⟨_, rfl⟩
      have cp1 : canPut 5 45 W0 (.pointer (some ⟨w.heap.size, 0, none⟩)) (.agg #[.int .u8 (x0 : Nat), .int .u8 (x1 : Nat), .int .u8 (x2 : Nat), .int .u8 (x3 : Nat), .string ⟨#[]⟩]) = true := canPut_row P0.out.rh rfl rfl (hoC_one (x0, x1, x2, x3) ⟨#[]⟩)
      have xb5 : WX.heap[G]? = some (.cells (badC .ok) 33) := by rw [← hWX, setRow_ne _ _ _ _ (by have := HGW.out; omega)]; exact P0.out.rb
      have cp2 : canPut 10 33 WX (.pointer (some ⟨G, 0, none⟩)) (.agg #[.int .i64 0, .string ⟨#[]⟩, .string ⟨#[]⟩, .string ⟨#[]⟩, .string ⟨#[]⟩, .int .i64 0, .int .i64 0, .int .i64 0, .int .i64 0, .int .i64 0]) = true := canPut_row xb5 rfl rfl (badC_one .ok)
      have PF : Hid (Pf w WY G (hoC (x0, x1, x2, x3) ⟨#[]⟩) (badC .ok)) := by rw [← hWY, ← hWX]; exact P0.out.fin HGW.out (hoC (x0, x1, x2, x3) ⟨#[]⟩) (badC .ok)
      have PD : Hid (Pf w WY.drew G (hoC (x0, x1, x2, x3) ⟨#[]⟩) (badC .ok)) := ⟨PF.out.bel.drew, PF.out.rh, PF.out.rb⟩
      clear h hcell hW0 hG hz1 h8 xb5
      go_enter Tryd.func47, Tryd.ntmps47
      go_wp2_with fail
      rw [HW0.out, HG.out]
      clear d0 d1 d2 d3 hc0
      go_region
      all_goals (try go_wp2_with fail)
      all_goals (refine bodyPost_ret (res_ctc rfl _ _ w.heap.size 45 (hoC (x0, x1, x2, x3) ⟨#[]⟩) (0, 0) _ rfl PD.out.rh Tryd.underlying45 rfl info45 G 33 (badC .ok) (0, 0) _ rfl PD.out.rb Tryd.underlying33 rfl info33) rfl ⟨?_, PD.out.bel⟩)
      all_goals (unfold placeV; rw [HS.out]; rfl)
  have q1 : ((z : Int) == 1) = false := by simp; omega
  by_cases hz3 : z = 3
  · have q3 : ((z : Int) == 3) = true := by simp; omega
    have HPL : Hid (place b = if (txt b 4 253).2.2 = .ok then
      (if (name (txt b 4 253).1).2 = .ok then ((noA, (name (txt b 4 253).1).1), (txt b 4 253).2.1, .ok) else ((noA, []), 0, inF 5 (name (txt b 4 253).1).2))
     else ((noA, []), 0, (txt b 4 253).2.2)) := by show _ = _; unfold place; rw [if_neg HN3.out, if_neg (by rw [← HZ.out]; exact hz1), if_pos (by rw [← HZ.out]; exact hz3)]
    have HT := hide (rtext_at _ n c b 4 253 W0 P0.out.src (by omega) (by omega))
    obtain ⟨l1, k1, e1, hE1⟩ : ∃ l k e, txt b 4 253 = (l, k, e) := ⟨_, _, _, rfl⟩
    have hk1 : k1 ≤ 260 := by have := (txt_le b 4 253 (by omega) HBY.out).1; rw [hE1] at this; exact this
    have hl1 : l1.length ≤ 255 := by have := (txt_le b 4 253 (by omega) HBY.out).2; rw [hE1] at this; exact this
    have HB1 : Hid (∀ z ∈ l1, z < 256) := by
      have : ∀ z ∈ (txt b 4 253).1, z < 256 := fun z hz => by
        by_cases h : (txt b 4 253).2.2 = .ok
        · obtain ⟨_, _, _, _, e⟩ := txt_ok h
          rw [e] at hz
          exact HBY.out z (List.mem_of_mem_drop (List.mem_of_mem_take hz))
        · rw [txt_bad h] at hz; simp at hz
      rw [hE1] at this; exact this
    rw [txtV_out b 4 253 hE1] at HT
    rw [hE1] at HPL
    simp only at HPL
    clear h hcell hW0 hG hz1 hz3 hE1
    go_enter Tryd.func47, Tryd.ntmps47
    go_wp2_with fail
    rw [HW0.out, HG.out]
    refine HT.out.mono ?_
    rintro e w2 ⟨rfl, hb2⟩
    obtain ⟨W3, hW3⟩ : ∃ W, W = (w2.alloc (.cells (badC .ok) 33)).setRow w2.heap.size (badG e1) := ⟨_, rfl⟩
    have z3 : (w2.alloc (.cells (badC .ok) 33)).heap[w2.heap.size]? = some (.cells (badC .ok) 33) := alloc_new _ _
    have L3 := Loc.new (w := w2) e1
    rw [← hW3] at L3
    have b3 : Below w2.heap.size w2 W3 := by rw [hW3]; exact below_setRow ((Below.refl _ _).alloc (Nat.le_refl _) _) (Nat.le_refl _) _
    have cN3 := L3.n
    have P3 := hide ((P0.out.below hb2).below b3)
    have LR3 := hide L3.row
    have Z3 := hide z3
    have HW3 := hide hW3
    have hsw3 : G < w2.heap.size := Nat.lt_of_lt_of_le (lt_of_some P0.out.rb) hb2.size
    clear L3 b3 hb2 z3 hW3
    by_cases hok3 : e1 = .ok
    · subst hok3
      have cN : W3.cell? ⟨w2.heap.size, 0, none⟩ = some (.int .i64 0) := cN3
      clear cN3
      have HPN := hide (rparseName_at (strN l1) W3 (by rw [strN_size]; unfold maxLen; omega))
      rw [byt_strN _ HB1.out] at HPN
      obtain ⟨nn, en, hE2⟩ : ∃ nn en, name l1 = (nn, en) := ⟨_, _, rfl⟩
      rw [hE2] at HPN HPL
      simp only [badV_badC, if_true] at HPN HPL
      have HER : Hid (en = .ok ∨ ∃ a c, en = .one a c ∧ c ≠ 6) := by have := name_er l1; rw [hE2] at this; exact this
      clear hE2
      go_wp2_with (first | (refine wpList_store_rowW rfl 33 _ _ rfl w2.heap.size (badG .ok) rfl rfl 33 (badC .ok) Z3.out (badGI _) (by simp [badC_size, badG_size]) (badG_one _) W3 HW3.out ?_))
      refine HPN.out.mono ?_
      rintro e w4 ⟨rfl, hb4⟩
      have q4 : w4.heap[w2.heap.size]? = some (.cells (badG .ok) 33) := keepB hb4 LR3.out
      obtain ⟨W5, hW5⟩ : ∃ W, W = w4.setRow w2.heap.size (badC en) := ⟨_, rfl⟩
      have l5 : W5.heap[w2.heap.size]? = some (.cells (badC en) 33) := by rw [hW5]; exact setRow_heap _ _ _ _ _ q4
      have cN5 : W5.cell? ⟨w2.heap.size, 0, none⟩ = some (.int .i64 (erN en : Nat)) := by simp only [World.cell?, l5]; exact badC_N en
      have P5 : Hid (Pl w W5 G (some ⟨xb, xo, none⟩) n c b) := by
        have p := P3.out.below hb4
        have := HGW.out
        rw [hW5]
        refine ⟨below_setRow p.bel (by omega) _, by rw [setRow_ne _ _ _ _ (by omega)]; exact p.rh, by rw [setRow_ne _ _ _ _ (by omega)]; exact p.rb, p.src.keep (fun h0 i o ei => setRow_ne _ _ _ _ ?_) (by simp [World.setRow])⟩
        simp only [Option.some.injEq, Addr.mk.injEq, and_true] at ei
        omega
      have LR5 := hide l5
      have Q4 := hide q4
      have HW5 := hide hW5
      clear l5 q4 hW5 hb4
      rcases HER.out with rfl | ⟨qa, qc, rfl, h6⟩
      · have cM : W5.cell? ⟨w2.heap.size, 0, none⟩ = some (.int .i64 0) := cN5
        clear cN5
        have HS : Hid (place b = ((noA, nn), k1, .ok)) := by show _ = _; rw [HPL.out]; simp
        obtain ⟨WX, hWX⟩ : ∃ WX, WX = W5.setRow w.heap.size (hoC noA (strN nn)) := ⟨_, rfl⟩
        obtain ⟨WY, hWY⟩ : ∃ WY, WY = WX.setRow G (badC .ok) := ⟨_, rfl⟩
        have PF : Hid (Pf w WY G (hoC noA (strN nn)) (badC .ok)) := by rw [hWY, hWX]; exact P5.out.fin HGW.out (hoC noA (strN nn)) (badC .ok)
        have XB : Hid (WX.heap[G]? = some (.cells (badC .ok) 33)) := by rw [hWX, setRow_ne _ _ _ _ (by have := HGW.out; omega)]; exact P5.out.rb
        have HWX := hide hWX
        have HWY := hide hWY
        clear hWX hWY
        go_wp2_with (first
          | (refine wpList_store_rowW rfl 33 _ _ rfl w2.heap.size (badC .ok) rfl rfl 33 (badG .ok) Q4.out (badI _) (by simp [badC_size, badG_size]) (badC_one _) W5 HW5.out ?_) | (refine wpList_store_rowW rfl 45 _ _ rfl w.heap.size (hoC noA (strN nn)) rfl rfl 45 z5 P5.out.rh info45 rfl (hoC_one _ _) WX HWX.out ?_)
          | (refine wpList_store_rowW rfl 33 _ _ rfl G (badC .ok) rfl rfl 33 (badC .ok) XB.out info33 (by simp [badC_size, badG_size]) (badC_one _) WY HWY.out ?_))
        refine bodyPost_ret (res_ctc rfl _ _ w.heap.size 45 (hoC noA (strN nn)) (0, 0) _ rfl PF.out.rh Tryd.underlying45 rfl info45 G 33 (badC .ok) (0, 0) _ rfl PF.out.rb Tryd.underlying33 rfl info33) rfl ⟨?_, PF.out.bel⟩
        unfold placeV; rw [HS.out]; rfl
      · have cM : W5.cell? ⟨w2.heap.size, 0, none⟩ = some (.int .i64 1) := cN5
        clear cN5
        have HS : Hid (place b = ((noA, []), 0, .two 5 qa qc)) := by show _ = _; rw [HPL.out]; rfl
        go_wp2_with (first
          | (refine wpList_store_rowW rfl 33 _ _ rfl w2.heap.size (badC (.one qa qc)) rfl rfl 33 (badG .ok) Q4.out (badI _) (by simp [badC_size, badG_size]) (badC_one _) W5 HW5.out ?_)
          | (refine wpList_load_rowG rfl 33 _ rfl w2.heap.size rfl 33 (badC (.one qa qc)) (0, 0) _ LR5.out Tryd.underlying33 rfl (badI _) ?_))
        rw [← badV_badC]
        refine (wrap5_at 5 qa qc _).mono ?_
        rintro e w6 ⟨rfl, hb6⟩
        have P6 := hide (P5.out.below hb6)
        clear hb6
        rw [badF_badG]
        obtain ⟨WX, hWX⟩ : ∃ WX, WX = w6.setRow w.heap.size z5 := ⟨_, rfl⟩
        obtain ⟨WY, hWY⟩ : ∃ WY, WY = WX.setRow G (badG (.two 5 qa qc)) := ⟨_, rfl⟩
        have PF : Hid (Pf w WY G z5 (badG (.two 5 qa qc))) := by rw [hWY, hWX]; exact P6.out.fin HGW.out z5 (badG (.two 5 qa qc))
        have XB : Hid (WX.heap[G]? = some (.cells (badC .ok) 33)) := by rw [hWX, setRow_ne _ _ _ _ (by have := HGW.out; omega)]; exact P6.out.rb
        have HWX := hide hWX
        have HWY := hide hWY
        clear hWX hWY
        go_wp2_with (first
          | (refine wpList_store_rowW rfl 45 _ _ rfl w.heap.size z5 rfl rfl 45 z5 P6.out.rh info45 rfl (by simp [z5, Value.oneCell']) WX HWX.out ?_)
          | (refine wpList_store_rowW rfl 33 _ _ rfl G (badG (.two 5 qa qc)) rfl rfl 33 (badC .ok) XB.out (badGI _) (by simp [badC_size, badG_size]) (badG_one _) WY HWY.out ?_))
        refine bodyPost_ret (res_ctc rfl _ _ w.heap.size 45 z5 (0, 0) _ rfl PF.out.rh Tryd.underlying45 rfl info45 G 33 (badG (.two 5 qa qc)) (0, 0) _ rfl PF.out.rb Tryd.underlying33 rfl (badGI _)) rfl ⟨?_, PF.out.bel⟩
        unfold placeV; rw [HS.out]; rfl
    · have HS : Hid (place b = ((noA, []), 0, e1)) := by show _ = _; rw [HPL.out, if_neg hok3]
      have hpos := erN_pos hok3
      have hle := erN_le e1
      have gg : decide (0 < (erN e1 : Int)) = true := decide_eq_true (by omega)
      have gg' : decide (0 < erN e1) = true := decide_eq_true hpos
      generalize erN e1 = N at cN3 hpos hle gg gg'
      go_wp2_with (first | (refine wpList_store_rowW rfl 33 _ _ rfl w2.heap.size (badG e1) rfl rfl 33 (badC .ok) Z3.out (badGI _) (by simp [badC_size, badG_size]) (badG_one _) W3 HW3.out ?_))
      obtain ⟨WX, hWX⟩ : ∃ WX, W3.setRow w.heap.size #[.int .u8 0, .int .u8 0, .int .u8 0, .int .u8 0, .string ⟨#[]⟩] = WX := ⟨_, rfl⟩
      obtain ⟨WY, hWY⟩ : ∃ WY, WX.setRow G (badG e1) = WY := ⟨_, rfl⟩
      have cp1 : canPut 5 45 W3 (.pointer (some ⟨w.heap.size, 0, none⟩)) (.agg #[.int .u8 0, .int .u8 0, .int .u8 0, .int .u8 0, .string ⟨#[]⟩]) = true := canPut_row P3.out.rh rfl rfl (hoC_one (0, 0, 0, 0) ⟨#[]⟩)
      have xb5 : WX.heap[G]? = some (.cells (badC .ok) 33) := by rw [← hWX, setRow_ne _ _ _ _ (by have := HGW.out; omega)]; exact P3.out.rb
      have lx5 : WX.heap[w2.heap.size]? = some (.cells (badG e1) 33) := by rw [← hWX, setRow_ne _ _ _ _ (by have := HGW.out; omega)]; exact LR3.out
      have i3 : isRow W3 w2.heap.size 10 = true := isRow_of LR3.out (badG_size _)
      have j3 : rowOf W3 w2.heap.size = badG e1 := rowOf_of LR3.out
      have i4 : isRow WX w2.heap.size 10 = true := isRow_of lx5 (badG_size _)
      have j4 : rowOf WX w2.heap.size = badG e1 := rowOf_of lx5
      have cp2 : canPut 10 33 WX (.pointer (some ⟨G, 0, none⟩)) (.agg (badG e1)) = true := canPut_row xb5 (badC_size _) (badG_size _) (badG_one _)
      have PD : Hid (Pf w WY.drew G z5 (badG e1)) := by
        have := P3.out.fin HGW.out z5 (badG e1)
        rw [show W3.setRow w.heap.size z5 = WX from hWX, hWY] at this
        exact ⟨this.bel.drew, this.rh, this.rb⟩
      clear xb5 lx5
      go_region
      all_goals (try go_wp2_with fail)
      all_goals (refine bodyPost_ret (res_ctc rfl _ _ w.heap.size 45 z5 (0, 0) _ rfl PD.out.rh Tryd.underlying45 rfl info45 G 33 (badG e1) (0, 0) _ rfl PD.out.rb Tryd.underlying33 rfl (badGI _)) rfl ⟨?_, PD.out.bel⟩)
      all_goals (unfold placeV; rw [HS.out, badF_badG]; rfl)
  · have q3 : ((z : Int) == 3) = false := by simp; omega
    have HS : Hid (place b = ((noA, []), 0, .one 3 71)) := by show _ = _; unfold place; rw [if_neg HN3.out, if_neg (by rw [← HZ.out]; exact hz1), if_neg (by rw [← HZ.out]; exact hz3)]
    clear h hcell hW0 hG hz1 hz3
    go_enter Tryd.func47, Tryd.ntmps47
    go_wp2_with fail
    rw [HW0.out, HG.out]
    refine (rfault_at 3 71 _).mono ?_
    rintro e w2 ⟨rfl, hb2⟩
    have P2 := hide (P0.out.below hb2)
    clear hb2
    rw [badF_badG]
    obtain ⟨WX, hWX⟩ : ∃ WX, WX = w2.setRow w.heap.size z5 := ⟨_, rfl⟩
    obtain ⟨WY, hWY⟩ : ∃ WY, WY = WX.setRow G (badG (.one 3 71)) := ⟨_, rfl⟩
    have PF : Hid (Pf w WY G z5 (badG (.one 3 71))) := by rw [hWY, hWX]; exact P2.out.fin HGW.out z5 (badG (.one 3 71))
    have XB : Hid (WX.heap[G]? = some (.cells (badC .ok) 33)) := by rw [hWX, setRow_ne _ _ _ _ (by have := HGW.out; omega)]; exact P2.out.rb
    have HWX := hide hWX
    have HWY := hide hWY
    clear hWX hWY
    go_wp2_with (first
      | (refine wpList_store_rowW rfl 45 _ _ rfl w.heap.size z5 rfl rfl 45 z5 P2.out.rh info45 rfl (by simp [z5, Value.oneCell']) WX HWX.out ?_)
      | (refine wpList_store_rowW rfl 33 _ _ rfl G (badG (.one 3 71)) rfl rfl 33 (badC .ok) XB.out (badGI _) (by simp [badC_size, badG_size]) (badG_one _) WY HWY.out ?_))
    refine bodyPost_ret (res_ctc rfl _ _ w.heap.size 45 z5 (0, 0) _ rfl PF.out.rh Tryd.underlying45 rfl info45 G 33 (badG (.one 3 71)) (0, 0) _ rfl PF.out.rb Tryd.underlying33 rfl (badGI _)) rfl ⟨?_, PF.out.bel⟩
    unfold placeV; rw [HS.out]; rfl
end Go.Proofs.YtefgjmijbedbkaaDoor
