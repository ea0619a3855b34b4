/-
  Clone of package port; conditions as each theorem has them.
-/
import Derived.Test.YtjojhnkibgkleaaZB
import Derived.Test.YtjojhnkibgkleaaYB
set_option linter.unusedSimpArgs false
set_option linter.unusedVariables false
set_option maxRecDepth 8000
namespace Go.Proofs.Ytjojhnkibgkleaa
open Go.RowKit Go.Lib

/-- A copy of which the first k endpoints are there. -/
structure CHalf (B : Nat) (w : World) (b eb : Nat) (gv ov : Value) (P : Pt) (k : Nat) (R G : Nat → Nat) : Prop where
  head : w.heap[b]? = some (.cells #[.bool true, .int .i64 P.c, .slice (some ⟨eb, 0, none⟩) P.L.length P.L.length, gv, ov] 80)
  row : Row w eb (fun i => if i < k then rp R i else .pointer none) (P.L.take k ++ List.replicate (P.L.length - k) (z 0))
  ring : ∀ i, i < k → ∃ ic oc, IsRing w (R i) (G i) P.sz ic oc (at0 P.L i).q
  lt : ∀ i, i < k → B ≤ R i ∧ R i < w.heap.size ∧ B ≤ G i ∧ G i < w.heap.size
  inj : ∀ i j, i < k → j < k → i ≠ j → R i ≠ R j ∧ G i ≠ G j
  bb : B ≤ b
  be : B ≤ eb
  ne : b ≠ eb
theorem CHalf.cells {B : Nat} {w : World} {b eb k : Nat} {gv ov : Value} {P : Pt} {R G : Nat → Nat} (h : CHalf B w b eb gv ov P k R G) : w.cell? ⟨b, 2, none⟩ = some (.slice (some ⟨eb, 0, none⟩) P.L.length P.L.length) := by
  have := h.head
  simp [World.cell?, this]
theorem Row.setAt {w : World} {g : Nat} {V : Nat → Value} {L : List En} {i : Nat} {v : Value} {x : En} (h : Row w g (upd V i v) (L.set i x)) (hi : i < L.length) {j : Nat} (hj : j < 6) (u v' : Value) (x' : En) (hx : (enC v x).set j u = enC v' x') : Row (w.setCell ⟨g, i * 6 + j, none⟩ u) g (upd V i v') (L.set i x') := by
  have := h.set (i := i) (by simpa using hi) hj u v' x' (by rw [upd_at, at0_same hi]; exact hx)
  rwa [upd_upd, List.set_set] at this
/-- A whole endpoint is stored over another. -/
def putC (w : World) (g i : Nat) (p : Value) (x : En) : World := (((((w.setCell ⟨g, i * 6, none⟩ p).setCell ⟨g, i * 6 + 1, none⟩ (.int .i64 x.st)).setCell ⟨g, i * 6 + 2, none⟩ (.int .i64 x.room)).setCell ⟨g, i * 6 + 3, none⟩ (.bool x.nw)).setCell ⟨g, i * 6 + 4, none⟩ (.bool x.oth)).setCell ⟨g, i * 6 + 5, none⟩ (.bool x.ths)
theorem putC_kept (w : World) (g i : Nat) (p : Value) (x : En) : KeptS (fun j => j = g) w (putC w g i p x) :=
  ((((((KeptS.refl (fun j => j = g) w).setCell rfl _).setCell rfl _).setCell rfl _).setCell rfl _).setCell rfl _).setCell rfl _
theorem putC_size (w : World) (g i : Nat) (p : Value) (x : En) : (putC w g i p x).heap.size = w.heap.size := by simp [putC, World.setCell]
theorem Row.all {w : World} {g : Nat} {V : Nat → Value} {L : List En} (h : Row w g V L) {i : Nat} (hi : i < L.length) (p : Value) (x : En) : Row (putC w g i p x) g (upd V i p) (L.set i x) := by
  have t0 := h.set hi (j := 0) (by omega) p p (at0 L i) rfl
  rw [Nat.add_zero] at t0
  have t1 := t0.setAt hi (j := 1) (by omega) (.int .i64 x.st) p { at0 L i with st := x.st } rfl
  have t2 := t1.setAt hi (j := 2) (by omega) (.int .i64 x.room) p { at0 L i with st := x.st, room := x.room } rfl
  have t3 := t2.setAt hi (j := 3) (by omega) (.bool x.nw) p { at0 L i with st := x.st, room := x.room, nw := x.nw } rfl
  have t4 := t3.setAt hi (j := 4) (by omega) (.bool x.oth) p { at0 L i with st := x.st, room := x.room, nw := x.nw, oth := x.oth } rfl
  exact t4.setAt hi (j := 5) (by omega) (.bool x.ths) p x rfl
theorem half_set (L : List En) (k : Nat) (hk : k < L.length) (x : En) : (L.take k ++ List.replicate (L.length - k) (z 0)).set k x = L.take k ++ [x] ++ List.replicate (L.length - (k + 1)) (z 0) := by
  rw [List.set_append, if_neg (by simp; omega)]
  have : (k - (L.take k).length) = 0 := by simp; omega
  rw [this, show L.length - k = (L.length - (k + 1)) + 1 by omega, List.replicate_succ, List.set_cons_zero]
  simp
theorem take_succ_at (L : List En) (k : Nat) (hk : k < L.length) : L.take (k + 1) = L.take k ++ [at0 L k] := by
  rw [List.take_succ_eq_append_getElem hk]
  unfold at0
  rw [List.getD_eq_getElem?_getD, List.getElem?_eq_getElem hk]
  rfl
theorem CHalf.step {B : Nat} {w w3 : World} {b eb k : Nat} {gv ov : Value} {P : Pt} {R G : Nat → Nat} (h : CHalf B w b eb gv ov P k R G) (hk : k < P.L.length) (hB : B ≤ w.heap.size) (hb : Below w.heap.size w w3) {r g : Nat} {ic oc : Int} (hr : IsRing w3 r g P.sz ic oc (at0 P.L k).q) (hrg : w.heap.size ≤ r ∧ w.heap.size ≤ g) :
    CHalf B (putC w3 eb k (.pointer (some ⟨r, 0, none⟩)) (at0 P.L k)) b eb gv ov P (k + 1) (fun i => if i = k then r else R i) (fun i => if i = k then g else G i) := by
  have hbl := lt_of_some h.head
  have hel := h.row.lt
  obtain ⟨⟨c1, e1⟩, ⟨c2, e2⟩⟩ := hr.at_
  have hr1 := lt_of_some e1
  have hg1 := lt_of_some e2
  have hsz := putC_size w3 eb k (.pointer (some ⟨r, 0, none⟩)) (at0 P.L k)
  have kk := putC_kept w3 eb k (.pointer (some ⟨r, 0, none⟩)) (at0 P.L k)
  have hb' := hb.size
  refine ⟨?_, ?_, fun i hi => ?_, fun i hi => ?_, fun i j hi hj hij => ?_, h.bb, h.be, h.ne⟩
  · rw [kk.block b (by omega) h.ne, hb.block b hbl]; exact h.head
  · have hrow := h.row.keep (hb.block eb hel)
    have := hrow.all (i := k) (by simp; omega) (.pointer (some ⟨r, 0, none⟩)) (at0 P.L k)
    rw [half_set P.L k hk, ← take_succ_at P.L k hk] at this
    refine cast (congrArg (fun V => Row _ eb V _) ?_) this
    funext i
    unfold upd rp
    by_cases h1 : i = k
    · subst h1; simp
    · simp only [h1, if_false]
      by_cases h2 : i < k
      · rw [if_pos h2, if_pos (by omega)]
      · rw [if_neg h2, if_neg (by omega)]
  · by_cases h1 : i = k
    · subst h1
      simp only [if_true]
      exact ⟨ic, oc, hr.keep (kk.block _ hr1 (by omega)) (kk.block _ hg1 (by omega))⟩
    · simp only [h1, if_false]
      obtain ⟨ic', oc', hri⟩ := h.ring i (by omega)
      obtain ⟨⟨d1, f1⟩, ⟨d2, f2⟩⟩ := hri.at_
      obtain ⟨er, eh, _⟩ := h.row
      have g1 := lt_of_some f1
      have g2 := lt_of_some f2
      exact ⟨ic', oc', hri.keep ((kk.block _ (by omega) (ty_ne f1 eh (by decide))).trans (hb.block _ g1)) ((kk.block _ (by omega) (ty_ne f2 eh (by decide))).trans (hb.block _ g2))⟩
  · rw [hsz]
    by_cases h1 : i = k
    · subst h1
      simp only [if_true]
      exact ⟨by omega, hr1, by omega, hg1⟩
    · simp only [h1, if_false]
      have := h.lt i (by omega)
      omega
  · by_cases h1 : i = k
    · have hjk : ¬ j = k := by omega
      simp only [h1, hjk, if_true, if_false]
      have := h.lt j (by omega)
      omega
    · by_cases h2 : j = k
      · simp only [h1, h2, if_true, if_false]
        have := h.lt i (by omega)
        omega
      · simp only [h1, h2, if_false]
        exact h.inj i j (by omega) (by omega) hij
/-- All endpoints are there, and the lists are copied. -/
theorem CHalf.done {B : Nat} {w w' : World} {b eb : Nat} {gv ov gv' ov' : Value} {P : Pt} {R G : Nat → Nat} (h : CHalf B w b eb gv ov P P.L.length R G) (ok : P.Ok) (hh : w'.heap[b]? = some (.cells #[.bool true, .int .i64 P.c, .slice (some ⟨eb, 0, none⟩) P.L.length P.L.length, gv', ov'] 80))
    (hk : ∀ k, k < w.heap.size → k ≠ b → w'.heap[k]? = w.heap[k]?) (hs : w.heap.size ≤ w'.heap.size) (hg : OwnG w' gv' P.gr) (ho : OwnO w' ov' P.ou) (hgB : ∀ g, gv'.ownBlock = some g → B ≤ g) (hoB : ∀ g, ov'.ownBlock = some g → B ≤ g) : Port w' (fun k => B ≤ k ∧ k < w'.heap.size) b P := by
  refine ⟨eb, gv', ov', R, G, hh, ?_, fun i hi => ?_, fun i j hi hj hij => h.inj i j hi hj hij, hg, ho, ok, fun k hk => hk.2, ⟨h.bb, lt_of_some hh⟩, ⟨h.be, Nat.lt_of_lt_of_le h.row.lt hs⟩, fun i hi => ?_, fun g e => ?_, fun g e => ?_⟩
  · obtain ⟨cs, e1, e2, e3⟩ := h.row
    have hl : P.L.take P.L.length ++ List.replicate (P.L.length - P.L.length) (z 0) = P.L := by simp
    rw [hl] at e2 e3
    refine ⟨cs, (hk eb (lt_of_some e1) (Ne.symm h.ne)).trans e1, e2, fun i hi j hj => ?_⟩
    have := e3 i hi j hj
    rw [this]
    simp only [hi, if_true]
  · obtain ⟨ic, oc, hr⟩ := h.ring i hi
    obtain ⟨⟨d1, f1⟩, ⟨d2, f2⟩⟩ := hr.at_
    exact ⟨ic, oc, hr.keep (hk _ (lt_of_some f1) (ty_ne f1 h.head (by decide))) (hk _ (lt_of_some f2) (ty_ne f2 h.head (by decide)))⟩
  · have := h.lt i hi
    exact ⟨⟨this.1, by omega⟩, this.2.2.1, by omega⟩
  · obtain ⟨cur, hc⟩ := own_block hg e
    exact ⟨hgB g e, lt_of_some hc⟩
  · obtain ⟨cur, hc⟩ := own_block ho e
    exact ⟨hoB g e, lt_of_some hc⟩
set_option maxRecDepth 100000 in
set_option maxHeartbeats 2000000 in
theorem clone_P {w : World} {S : Nat → Prop} {b eb : Nat} {gv ov : Value} {R G : Nat → Nat} {P : Pt} (h : IsPort w S b eb gv ov R G P) (hlen : P.ou.length ≤ 1900000000000) :
    Calls Try.prog 12 #[.pointer (some ⟨b, 0, none⟩)] w fun x w' => ∃ c, x = .returned (.pointer (some ⟨c, 0, none⟩)) ∧ Port w' (fun k => w.heap.size ≤ k ∧ k < w'.heap.size) c P ∧ Below w.heap.size w w' := by
  obtain ⟨h0, h1, h2, h3, h4⟩ := h.cells
  have HM := hide (pMade_at b true w h0)
  have H0 := hide h
  obtain ⟨N, hN⟩ : ∃ N, N = P.L.length := ⟨_, rfl⟩
  have hN8 : N ≤ 128 := by rw [hN]; exact h.ok.n
  rw [← hN] at h2
  have hmk := run_makeE N hN8
  obtain ⟨C, hC⟩ : ∃ C, C = madeCells zEn (N * 6) := ⟨_, rfl⟩
  have HROW := made_row N
  rw [← hC] at hmk HROW
  have HROW := hide HROW
  have HNN := hide hN
  obtain ⟨ga, gc, hgv⟩ := own_shape h.gr
  obtain ⟨oa, oc, hov⟩ := own_shape h.ou
  obtain ⟨gn, hgn⟩ : ∃ n, n = P.gr.length := ⟨_, rfl⟩
  obtain ⟨on, hon⟩ : ∃ n, n = P.ou.length := ⟨_, rfl⟩
  rw [← hgn] at hgv
  rw [← hon] at hov
  subst hgv hov
  have hbl := lt_of_some h.head
  have h2' : (w.alloc (.cells #[.bool true, .int .i64 P.c, .slice (some ⟨eb, 0, none⟩) N N, .slice ga gn gc, .slice oa on oc] 80)).cell? ⟨b, 2, none⟩ = some (.slice (some ⟨eb, 0, none⟩) N N) := (((Below.refl w.heap.size w).alloc (Nat.le_refl _) _).cell (p := ⟨b, 2, none⟩) hbl).trans h2
  clear hN hC h hgn hon
  go_enter Try.func12, Try.ntmps12
  go_wp2_with fail
  refine HM.out.mono ?_
  rintro x w1 ⟨rfl, rfl⟩
  go_wp2_with fail
  have HH : Hid (CHalf w.heap.size ((w.alloc (.cells #[.bool true, .int .i64 P.c, .slice (some ⟨w.heap.size + 1, 0, none⟩) N N, .slice ga gn gc, .slice oa on oc] 80)).alloc (.cells C 89)) w.heap.size (w.heap.size + 1) (.slice ga gn gc) (.slice oa on oc) P 0 (fun _ => 0) (fun _ => 0)) := by
    refine ⟨?_, ?_, fun i hi => by omega, fun i hi => by omega, fun i j hi hj => by omega, Nat.le_refl _, by omega, by omega⟩
    · rw [← HNN.out, Below.heap_alloc _ _ _ (by simp)]
      exact alloc_new _ _
    · have := HROW.out (w.alloc (.cells #[.bool true, .int .i64 P.c, .slice (some ⟨w.heap.size + 1, 0, none⟩) N N, .slice ga gn gc, .slice oa on oc] 80))
      rw [show (w.alloc (.cells #[.bool true, .int .i64 P.c, .slice (some ⟨w.heap.size + 1, 0, none⟩) N N, .slice ga gn gc, .slice oa on oc] 80)).heap.size = w.heap.size + 1 by simp] at this
      rw [← HNN.out]
      simpa using this
  have HB : Hid (Below w.heap.size w ((w.alloc (.cells #[.bool true, .int .i64 P.c, .slice (some ⟨w.heap.size + 1, 0, none⟩) N N, .slice ga gn gc, .slice oa on oc] 80)).alloc (.cells C 89))) := ((Below.refl _ _).alloc (Nat.le_refl _) _).alloc (by simp) _
  have HROWP := hide (fun (W : World) (k : Below w.heap.size w W) i (hi : i < P.L.length) => And.intro ((H0.out.below k).row.at_ hi) (And.intro ((H0.out.below k).ring i hi) (H0.out.below k).cells.2.2.1))
  clear HROW
  go_loopw [23] (fun i wr => ∃ (k : Nat) (R G : Nat → Nat), k ≤ N ∧ i = .int .i64 k ∧ Hid (CHalf w.heap.size wr w.heap.size (w.heap.size + 1) (.slice ga gn gc) (.slice oa on oc) P k R G) ∧ Hid (Below w.heap.size w wr)) (fun i _ => N - (Go.RowKit.intOf i).toNat)
  case atStart => exact ⟨0, _, _, Nat.zero_le _, rfl, HH, HB⟩
  case round =>
    obtain ⟨k, R', G', hk, rfl, HJ, HBJ⟩ := hrel
    have c2 := HJ.out.cells
    rw [← HNN.out] at c2
    have hBs := HBJ.out.size
    by_cases hlt : k < N
    · have hkP : k < P.L.length := by rw [← HNN.out]; exact hlt
      obtain ⟨he, ⟨ic, oc', hr⟩, b2⟩ := HROWP.out wr HBJ.out k hkP
      rw [← HNN.out] at b2
      have hel := HJ.out.row.lt
      have hcl := lt_of_some HJ.out.head
      have HE := hide he
      have HRI := hide hr
      obtain ⟨x, hx⟩ : ∃ x, x = at0 P.L k := ⟨_, rfl⟩
      have HCP := hide (copied_at (w := wr.drew) (he.keep rfl) (hr.keep rfl rfl))
      rw [← hx] at HCP
      have HX := hide hx
      clear he hr hx
      go_wp2_with fail
      go_region_with (go_at_call 42; refine HCP.out.mono ?_; rintro e w1 ⟨r', g', rfl, hr1, hg1, hri, k1⟩; have k2 : Below wr.heap.size wr w1 := (Below.refl _ wr).drew.trans k1; have g2 := (k2.cell (p := ⟨w.heap.size, 2, none⟩) hcl).trans c2; have hrw := HJ.out.row.keep (k2.block _ hel); have hat := hrw.at_ (i := k) (by simp; omega); have hfz := hrw.frozen; have d0 := hat.c0; have d1 := hat.c1; have d2 := hat.c2; have d3 := hat.c3; have d4 := hat.c4; have d5 := hat.c5; have f0 := hfz (k * 6); have f1 := hfz (k * 6 + 1); have f2 := hfz (k * 6 + 2); have f3 := hfz (k * 6 + 3); have f4 := hfz (k * 6 + 4); have f5 := hfz (k * 6 + 5); have HST : Hid (CHalf w.heap.size (putC w1 (w.heap.size + 1) k (.pointer (some ⟨r', 0, none⟩)) x) w.heap.size (w.heap.size + 1) (.slice ga gn gc) (.slice oa on oc) P (k + 1) (fun i => if i = k then r' else R' i) (fun i => if i = k then g' else G' i)) := (HX.out ▸ HJ.out.step hkP hBs k2 (HX.out ▸ hri) ⟨hr1, hg1⟩); have HK := hide k2; clear hr1 hg1 hri k1 k2 hrw hat hfz)
      all_goals
        go_wp2_with fail
        go_roundw
        case rel => exact ⟨k + 1, _, _, by omega, by go_num, HST, ((((((HBJ.out.trans (HK.out.mono hBs)).setCell (Nat.le_succ _) _).setCell (Nat.le_succ _) _).setCell (Nat.le_succ _) _).setCell (Nat.le_succ _) _).setCell (Nat.le_succ _) _).setCell (Nat.le_succ _) _⟩
        case measure => simp [Go.RowKit.intOf]; omega
    · have hkN : k = P.L.length := by rw [← HNN.out]; omega
      have hkN2 : k = N := by omega
      have HJ1 : Hid (CHalf w.heap.size wr w.heap.size (w.heap.size + 1) (.slice ga gn gc) (.slice oa on oc) P P.L.length R' G') := hkN ▸ HJ.out
      have HW := hide (H0.out.below HBJ.out)
      obtain ⟨_, _, _, b3, b4⟩ := HW.out.cells
      have hcl := lt_of_some HJ.out.head
      have HCL := hide (cloneG HW.out.gr HW.out.ok.g)
      clear c2 hkN hlt
      subst hkN2
      go_wp2_with fail
      refine HCL.out.mono ?_
      rintro x w1 ⟨v1, rfl, hg1, hgB, k1⟩
      obtain ⟨a1, c1, rfl⟩ := own_shape hg1
      have hh1 := (k1.block _ hcl).trans HJ1.out.head
      have e3 : w1.cell? ⟨w.heap.size, 3, none⟩ = some (.slice ga gn gc) := by simp [World.cell?, hh1]
      have f3 : w1.frozen? ⟨w.heap.size, 3, none⟩ = false := by simp [World.frozen?, hh1]
      have hB1 : Below w.heap.size w w1 := HBJ.out.trans (k1.mono HBJ.out.size)
      obtain ⟨V1, hV1⟩ : ∃ V, V = Value.slice a1 P.gr.length c1 := ⟨_, rfl⟩
      obtain ⟨n1, hn1⟩ : ∃ n, n = P.gr.length := ⟨_, rfl⟩
      rw [← hn1] at hV1 ⊢
      rw [← hn1, ← hV1] at hg1 hgB
      obtain ⟨W1, hW1⟩ : ∃ W, W = w1.setCell ⟨w.heap.size, 3, none⟩ (.slice a1 n1 c1) := ⟨_, rfl⟩
      have hB2 : Below w.heap.size w W1 := by rw [hW1]; exact hB1.setCell (Nat.le_refl _) _
      have hH1 : W1.heap[w.heap.size]? = some (.cells #[.bool true, .int .i64 P.c, .slice (some ⟨w.heap.size + 1, 0, none⟩) P.L.length P.L.length, V1, .slice oa on oc] 80) := by rw [hW1, hV1]; exact setHead hh1 3 _ rfl
      have hs1 : W1.heap.size = w1.heap.size := by rw [hW1]; simp [World.setCell]
      have hk1 : ∀ k, k ≠ w.heap.size → W1.heap[k]? = w1.heap[k]? := fun k hk => by rw [hW1]; exact Below.heap_setCell _ _ _ _ hk
      have o4 : (w1.setCell ⟨w.heap.size, 3, none⟩ (.slice a1 n1 c1)).cell? ⟨b, 4, none⟩ = some (.slice oa on oc) := by rw [← hW1]; exact (H0.out.below hB2).cells.2.2.2.2
      have HCO := hide (cloneO (H0.out.below hB2).ou hlen)
      have HW1 := hide hW1
      have HG : Hid (OwnG w1 V1 P.gr ∧ (∀ g, V1.ownBlock = some g → wr.heap.size ≤ g) ∧ Below wr.heap.size wr w1) := ⟨hg1, hgB, k1⟩
      have HF : Hid (W1.heap[w.heap.size]? = some (.cells #[.bool true, .int .i64 P.c, .slice (some ⟨w.heap.size + 1, 0, none⟩) P.L.length P.L.length, V1, .slice oa on oc] 80) ∧ W1.heap.size = w1.heap.size ∧ (∀ k, k ≠ w.heap.size → W1.heap[k]? = w1.heap[k]?) ∧ Below w.heap.size w W1) := ⟨hH1, hs1, hk1, hB2⟩
      have HCLT := hide hcl
      have hbs := HBJ.out.size
      have HBS := hide hbs
      clear hg1 hgB k1 hh1 hB1 hV1 hn1 hW1 hB2 hH1 hs1 hk1 hcl b3 b4 hbs
      go_wp2_with fail
      rw [← HW1.out]
      refine HCO.out.mono ?_
      rintro x w2 ⟨v2, rfl, ho2, hoB, k2⟩
      obtain ⟨a2, c2, rfl⟩ := own_shape ho2
      obtain ⟨g1, g2, g3⟩ := HG.out
      obtain ⟨i1, i2, i3, i4⟩ := HF.out
      have hcl := HCLT.out
      have hbs := HBS.out
      have s1 := g3.size
      have s2 := k2.size
      have hc1 : w.heap.size < W1.heap.size := by omega
      have hh2 := (k2.block _ hc1).trans i1
      obtain ⟨n2, hn2⟩ : ∃ n, n = P.ou.length := ⟨_, rfl⟩
      rw [← hn2] at ho2 hoB ⊢
      have e4 : w2.cell? ⟨w.heap.size, 4, none⟩ = some (.slice oa on oc) := by simp [World.cell?, hh2]
      have f4 : w2.frozen? ⟨w.heap.size, 4, none⟩ = false := by simp [World.frozen?, hh2]
      have hfin : Below w.heap.size w (w2.setCell ⟨w.heap.size, 4, none⟩ (.slice a2 n2 c2)) := (i4.trans (k2.mono i4.size)).setCell (Nat.le_refl _) _
      have hsz : (w2.setCell ⟨w.heap.size, 4, none⟩ (.slice a2 n2 c2)).heap.size = w2.heap.size := by simp [World.setCell]
      have hne : ∀ k, k ≠ w.heap.size → (w2.setCell ⟨w.heap.size, 4, none⟩ (.slice a2 n2 c2)).heap[k]? = w2.heap[k]? := fun k hk => Below.heap_setCell _ _ _ _ hk
      have hport := HJ1.out.done H0.out.ok (setHead hh2 4 (.slice a2 n2 c2) rfl) (fun k hk hkb => (hne k hkb).trans ((k2.block k (by omega)).trans ((i3 k hkb).trans (g3.block k hk)))) (by rw [hsz]; omega) (own_keep g1 (fun g hg => by
        obtain ⟨cur, hc⟩ := own_block g1 hg
        have hgl := g2 g hg
        have hgw := lt_of_some hc
        rw [hne g (by omega), k2.block g (by omega), i3 g (by omega)])) (own_keep ho2 (fun g hg => by
        obtain ⟨cur, hc⟩ := own_block ho2 hg
        have := hoB g hg
        exact hne g (by omega))) (fun g hg => by have := g2 g hg; omega) (fun g hg => by have := hoB g hg; omega)
      have HP := hide hport
      have HFI := hide hfin
      clear g1 g2 g3 i1 i2 i3 i4 hport hfin hsz hne ho2 hoB k2 hh2 hn2 s1 s2 hc1 hcl hbs
      go_wp2_with fail
      go_ret
      exact ⟨_, rfl, HP.out, HFI.out⟩

end Go.Proofs.Ytjojhnkibgkleaa
