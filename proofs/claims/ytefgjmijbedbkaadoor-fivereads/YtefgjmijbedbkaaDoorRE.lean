/-
  The reference's Request; conditions as each theorem has them.
-/
import Derived.Test.YtefgjmijbedbkaaDoorRD
import Derived.Test.YtefgjmijbedbkaaDoorY
set_option linter.unusedSimpArgs false
set_option linter.unusedVariables false
namespace Go.Proofs.YtefgjmijbedbkaaDoor
open Go.RowKit

theorem res_tctc {P : Program} {fn : Func} {v p u q : Tmp} {ty ty2 : TypeId} (h : fn.results = #[.tmp v, .cell p ty, .tmp u, .cell q ty2]) (tmps : Array Value) (w : World)
    (g : Nat) (t : TypeId) (cs : Array Value) (fr : Nat × Nat) (d : TypeDesc)
    (hp : tmps.getD p undef = .pointer (some ⟨g, 0, none⟩)) (hg : w.heap[g]? = some (.cells cs t fr))
    (hu : P.underlying ty = some d) (hd : (match d with | .struct _ | .array _ _ => true | _ => false) = true) (hi : (P.info? ty).map (·.size) = some cs.size)
    (g2 : Nat) (t2 : TypeId) (cs2 : Array Value) (fr2 : Nat × Nat) (d2 : TypeDesc)
    (hp2 : tmps.getD q undef = .pointer (some ⟨g2, 0, none⟩)) (hg2 : w.heap[g2]? = some (.cells cs2 t2 fr2))
    (hu2 : P.underlying ty2 = some d2) (hd2 : (match d2 with | .struct _ | .array _ _ => true | _ => false) = true) (hi2 : (P.info? ty2).map (·.size) = some cs2.size) :
    (results fn tmps).run P w = .ok (.tuple #[tmps.getD v undef, .agg cs, tmps.getD u undef, .agg cs2]) w := by
  have hp' : tmps[p]?.getD undef = .pointer (some ⟨g, 0, none⟩) := by simpa using hp
  have hp2' : tmps[q]?.getD undef = .pointer (some ⟨g2, 0, none⟩) := by simpa using hp2
  simp only [results, h]
  simp [Sem.run_bind, Result.andThen, hp', hp2', asAddr, run_loadVar_row w g t ty cs fr d hg hu hd hi, run_loadVar_row w g2 t2 ty2 cs2 fr2 d2 hg2 hu2 hd2 hi2]
/-- Two results of a call in memory, not yet set, and the bytes that it reads. -/
structure Rl (w W : World) (G : Nat) (x : Option Addr) (n c : Nat) (b : List Nat) : Prop where
  bel : Below w.heap.size w W
  rh : W.heap[w.heap.size]? = some (.cells z47 47)
  rb : W.heap[G]? = some (.cells (badC .ok) 33)
  src : Src W x n c b
theorem Rl.below {w W W' : World} {G : Nat} {x : Option Addr} {n c : Nat} {b : List Nat} (h : Rl w W G x n c b) (k : Below W.heap.size W W') : Rl w W' G x n c b :=
  ⟨h.bel.trans (k.mono h.bel.size), keepB k h.rh, keepB k h.rb, h.src.below k⟩
/-- Both results are set. -/
structure Rf (w W : World) (G : Nat) (H E : Array Value) : Prop where
  bel : Below w.heap.size w W
  rh : W.heap[w.heap.size]? = some (.cells H 47)
  rb : W.heap[G]? = some (.cells E 33)
theorem Rl.fin {w W : World} {G : Nat} {x : Option Addr} {n c : Nat} {b : List Nat} (h : Rl w W G x n c b) (hG : w.heap.size < G) (H E : Array Value) : Rf w ((W.setRow w.heap.size H).setRow G E) G H E := by
  have r1 := setRow_heap _ _ H _ _ h.rh
  have r2 : (W.setRow w.heap.size H).heap[G]? = some (.cells (badC .ok) 33) := by rw [setRow_ne _ _ _ _ (by omega)]; exact h.rb
  exact ⟨below_setRow (below_setRow h.bel (Nat.le_refl _) _) (by omega) _, by rw [setRow_ne _ _ _ _ (by omega)]; exact r1, setRow_heap _ _ _ _ _ r2⟩
noncomputable def rreqV (b : List Nat) : Value := .tuple #[.int .i64 ((req b).1 : Nat), deV (req b).2.1.1 (strN (req b).2.1.2.1) ((req b).2.1.2.2 : Nat), .int .i64 ((req b).2.2.1 : Nat), badF (req b).2.2.2]
attribute [local go_sem ↓] run_op33 run_op45 run_opst33 run_opst47 Go.wp_at_zero Go.wp_at_succ
attribute [local go_sem] rowOf_drew isRow_drew arrAt_ptr isAt_ptr putAt_ptr canPut_drew setRow_drew
set_option maxRecDepth 100000 in
set_option maxHeartbeats 8000000 in
theorem rrequest_at (x : Option Addr) (n c : Nat) (b : List Nat) (w : World) (h : Src w x n c b) : Calls Tryd.prog 16 #[.slice x n c] w fun e w' => e = .returned (rreqV b) ∧ Below w.heap.size w w' := by
  have HBY := hide h.byte
  have hl := h.hlen
  have hm := h.hmax
  have hc := h.hcap
  unfold maxLen at hm
  obtain ⟨G, hG⟩ : ∃ G, G = w.heap.size + 1 := ⟨_, rfl⟩
  obtain ⟨W0, hW0⟩ : ∃ W0, W0 = (w.alloc (.cells z47 47)).alloc (.cells (badC .ok) 33) := ⟨_, rfl⟩
  have P0 : Hid (Rl w W0 G x n c b) := by
    rw [hW0, hG]
    have b0 : Below w.heap.size w ((w.alloc (.cells z47 47)).alloc (.cells (badC .ok) 33)) := ((Below.refl _ _).alloc (Nat.le_refl _) _).alloc (by simp) _
    exact ⟨b0, alloc_old _ (alloc_new _ _), alloc_new2 _ _ _, h.below b0⟩
  have HW0 : Hid ((w.alloc (.cells #[.int .u8 0, .int .u8 0, .int .u8 0, .int .u8 0, .string ⟨#[]⟩, .int .i64 0] 47)).alloc (.cells #[.int .i64 0, .string ⟨#[]⟩, .string ⟨#[]⟩, .string ⟨#[]⟩, .string ⟨#[]⟩, .int .i64 0, .int .i64 0, .int .i64 0, .int .i64 0, .int .i64 0] 33) = W0) := hW0.symm
  have hGw : w.heap.size < G := by omega
  have HG := hide hG.symm
  have HGW := hide hGw
  obtain ⟨er, her⟩ : ∃ er, er = ver b 5 := ⟨_, rfl⟩
  have HER := hide her
  have HV := hide (rversion_at x n c b 5 W0 P0.out.src (by omega))
  rw [← her] at HV
  clear her h hW0 hG
  go_enter Tryd.func16, Tryd.ntmps16
  go_wp2_with fail
  rw [HW0.out, HG.out]
  refine HV.out.mono ?_
  rintro e w1 ⟨rfl, hb1⟩
  rw [badF_badG]
  obtain ⟨W1, hW1⟩ : ∃ W, W = (w1.alloc (.cells (badC .ok) 33)).setRow w1.heap.size (badG er) := ⟨_, rfl⟩
  have z1 : (w1.alloc (.cells (badC .ok) 33)).heap[w1.heap.size]? = some (.cells (badC .ok) 33) := alloc_new _ _
  have L1 := Loc.new (w := w1) er
  rw [← hW1] at L1
  have b1 : Below w1.heap.size w1 W1 := by rw [hW1]; exact below_setRow ((Below.refl _ _).alloc (Nat.le_refl _) _) (Nat.le_refl _) _
  have cN1 := L1.n
  have P1 := hide ((P0.out.below hb1).below b1)
  have LR1 := hide L1.row
  have Z1 := hide z1
  have HW1 := hide hW1
  have hsw1 : G < w1.heap.size := Nat.lt_of_lt_of_le (lt_of_some P0.out.rb) hb1.size
  clear L1 b1 hb1 z1 hW1
  by_cases hok1 : er = .ok
  · subst hok1
    have cN : W1.cell? ⟨w1.heap.size, 0, none⟩ = some (.int .i64 0) := cN1
    clear cN1
    by_cases h3 : n < 3
    · have HS : Hid (req b = (0, noD, 0, sh b)) := by show _ = _; unfold req; rw [if_neg (fun k => k HER.out.symm), if_pos (by omega)]
      have g3 : decide ((n : Int) < 3) = true := decide_eq_true (by omega)
      have g3' : decide (n < 3) = true := decide_eq_true h3
      clear h3
      go_wp2_with (first | (refine wpList_store_rowW rfl 33 _ _ rfl w1.heap.size (badG .ok) rfl rfl 33 (badC .ok) Z1.out (badGI _) (by simp [badC_size, badG_size]) (badG_one _) W1 HW1.out ?_))
      refine (rshort_at _ n c b _ P1.out.src).mono ?_
      rintro e w9 ⟨rfl, hb9⟩
      have P9 := hide (P1.out.below hb9)
      clear hb9
      rw [badF_badG]
      obtain ⟨WX, hWX⟩ : ∃ WX, WX = w9.setRow w.heap.size z47 := ⟨_, rfl⟩
      obtain ⟨WY, hWY⟩ : ∃ WY, WY = WX.setRow G (badG (sh b)) := ⟨_, rfl⟩
      have PF : Hid (Rf w WY G z47 (badG (sh b))) := by rw [hWY, hWX]; exact P9.out.fin HGW.out z47 (badG (sh b))
      have XB : Hid (WX.heap[G]? = some (.cells (badC .ok) 33)) := by rw [hWX, setRow_ne _ _ _ _ (by have := HGW.out; omega)]; exact P9.out.rb
      have HWX := hide hWX
      have HWY := hide hWY
      clear hWX hWY
      go_wp2_with (first
        | (refine wpList_store_rowW rfl 47 _ _ rfl w.heap.size z47 rfl rfl 47 z47 P9.out.rh info47 rfl (by simp [z47, Value.oneCell']) WX HWX.out ?_)
        | (refine wpList_store_rowW rfl 33 _ _ rfl G (badG (sh b)) rfl rfl 33 (badC .ok) XB.out (badGI _) (by simp [badC_size, badG_size]) (badG_one _) WY HWY.out ?_))
      refine bodyPost_ret (res_tctc rfl _ _ w.heap.size 47 z47 (0, 0) _ rfl PF.out.rh Tryd.underlying47 rfl info47 G 33 (badG (sh b)) (0, 0) _ rfl PF.out.rb Tryd.underlying33 rfl (badGI _)) rfl ⟨?_, PF.out.bel⟩
      unfold rreqV; rw [HS.out]; rfl
    have g3 : decide ((n : Int) < 3) = false := decide_eq_false (by omega)
    have g3' : decide (n < 3) = false := decide_eq_false h3
    have hn3 : 2 < n := by omega
    obtain ⟨xb, xo, rfl, hxl, hcell⟩ := P1.out.src.lies (by omega)
    have HC1 := hide hcell
    have hc2 := hcell 2 hn3
    have hbb := getD_lt HBY.out 2
    obtain ⟨z, hz⟩ : ∃ z, z = b.getD 2 0 := ⟨_, rfl⟩
    rw [← hz] at hc2 hbb
    have HZ := hide hz
    have HN3 : Hid (¬ b.length < 3) := by show ¬ _; omega
    clear hz h3 hcell
    by_cases hz0 : z = 0
    · have q0 : ((z : Int) != 0) = false := by simp; omega
      have HR : Hid (req b = if (place b).2.2 ≠ .ok then (0, noD, 0, (place b).2.2) else if b.length < (place b).2.1 + 2 then (0, noD, 0, sh b) else (b.getD 1 0, ((place b).1.1, (place b).1.2, b.getD (place b).2.1 0 * 256 + b.getD ((place b).2.1 + 1) 0), (place b).2.1 + 2, .ok)) := by
        show _ = _
        conv => lhs; unfold req
        rw [if_neg (fun k => k HER.out.symm), if_neg HN3.out, if_neg (fun k => k (by rw [← HZ.out]; exact hz0))]
      have HPL := hide (rplace_at _ n c b W1 P1.out.src)
      have HOK : Hid ((place b).2.2 = .ok → 5 ≤ (place b).2.1 ∧ (place b).2.1 ≤ 258) := fun k => by obtain ⟨_, _, p1, p2, _⟩ := place_ok k; exact ⟨p1, p2⟩
      unfold placeV at HPL
      obtain ⟨A, nm, K, ep, hP⟩ : ∃ A nm K ep, place b = ((A, nm), K, ep) := ⟨_, _, _, _, rfl⟩
      rw [hP] at HPL HR HOK
      simp only [badF_badG, hoV_hoC] at HPL HR HOK
      clear hP hz0
      go_wp2_with (first | (refine wpList_store_rowW rfl 33 _ _ rfl w1.heap.size (badG .ok) rfl rfl 33 (badC .ok) Z1.out (badGI _) (by simp [badC_size, badG_size]) (badG_one _) W1 HW1.out ?_))
      refine HPL.out.mono ?_
      rintro e w2 ⟨rfl, hb2⟩
      obtain ⟨E1, hE1⟩ : ∃ E1, E1 = w2.heap.size + 1 := ⟨_, rfl⟩
      obtain ⟨WZ, hWZ⟩ : ∃ WZ, WZ = (w2.alloc (.cells z5 45)).alloc (.cells (badC .ok) 33) := ⟨_, rfl⟩
      obtain ⟨WH, hWH⟩ : ∃ WH, WH = WZ.setRow w2.heap.size (hoC A (strN nm)) := ⟨_, rfl⟩
      obtain ⟨W3, hW3⟩ : ∃ W3, W3 = WH.setRow E1 (badG ep) := ⟨_, rfl⟩
      have zh : WZ.heap[w2.heap.size]? = some (.cells z5 45) := by rw [hWZ]; exact alloc_old _ (alloc_new _ _)
      have ze : WH.heap[E1]? = some (.cells (badC .ok) 33) := by rw [hWH, setRow_ne _ _ _ _ (by omega), hWZ, hE1]; exact alloc_new2 _ _ _
      have bz : Below w2.heap.size w2 WZ := by rw [hWZ]; exact ((Below.refl _ _).alloc (Nat.le_refl _) _).alloc (by simp) _
      have b3 : Below w2.heap.size w2 W3 := by rw [hW3, hWH]; exact below_setRow (below_setRow bz (Nat.le_refl _) _) (by omega) _
      have lh : W3.heap[w2.heap.size]? = some (.cells (hoC A (strN nm)) 45) := by rw [hW3, setRow_ne _ _ _ _ (by omega), hWH]; exact setRow_heap _ _ _ _ _ zh
      have le3 : W3.heap[E1]? = some (.cells (badG ep) 33) := by rw [hW3]; exact setRow_heap _ _ _ _ _ ze
      have cN3 : W3.cell? ⟨E1, 0, none⟩ = some (.int .i64 (erN ep : Nat)) := by simp only [World.cell?, le3]; exact badG_N ep
      have P3 := hide ((P1.out.below hb2).below b3)
      have LR3 := hide le3
      have LH := hide lh
      have ZH := hide zh
      have ZE := hide ze
      have HWH := hide hWH
      have HW3 := hide hW3
      have HWZ : Hid ((w2.alloc (.cells #[.int .u8 0, .int .u8 0, .int .u8 0, .int .u8 0, .string ⟨#[]⟩] 45)).alloc (.cells #[.int .i64 0, .string ⟨#[]⟩, .string ⟨#[]⟩, .string ⟨#[]⟩, .string ⟨#[]⟩, .int .i64 0, .int .i64 0, .int .i64 0, .int .i64 0, .int .i64 0] 33) = WZ) := hWZ.symm
      have HE1 := hide hE1.symm
      have hsw3 : G < E1 := by have := lt_of_some P1.out.rb; have := hb2.size; omega
      have hsw4 : G < w2.heap.size := by have := lt_of_some P1.out.rb; have := hb2.size; omega
      have HSW := hide hsw4
      clear bz b3 zh ze lh le3 hWZ hWH hW3 hE1
      by_cases hok3 : ep = .ok
      · subst hok3
        have cM : W3.cell? ⟨E1, 0, none⟩ = some (.int .i64 0) := cN3
        clear cN3
        obtain ⟨hK5, hK258⟩ := HOK.out rfl
        rw [if_neg (by simp)] at HR
        by_cases hKn : n < K + 2
        · have HS : Hid (req b = (0, noD, 0, sh b)) := by show _ = _; rw [HR.out, if_pos (by omega)]
          have gk : decide ((n : Int) < (K : Int) + 2) = true := decide_eq_true (by omega)
          have gk' : decide (n < K + 2) = true := decide_eq_true hKn
          clear hKn
          go_wp2_with (first
            | (rw [HWZ.out, HE1.out]; refine wpList_store_rowW rfl 45 _ _ rfl w2.heap.size (hoC A (strN nm)) rfl rfl 45 z5 ZH.out info45 rfl (hoC_one _ _) WH HWH.out ?_)
            | (refine wpList_store_rowW rfl 45 _ _ rfl w2.heap.size (hoC A (strN nm)) rfl rfl 45 z5 ZH.out info45 rfl (hoC_one _ _) WH HWH.out ?_)
            | (refine wpList_store_rowW rfl 33 _ _ rfl E1 (badG .ok) rfl rfl 33 (badC .ok) ZE.out (badGI _) (by simp [badC_size, badG_size]) (badG_one _) W3 HW3.out ?_))
          refine (rshort_at _ n c b _ P3.out.src).mono ?_
          rintro e w9 ⟨rfl, hb9⟩
          have P9 := hide (P3.out.below hb9)
          clear hb9
          rw [badF_badG]
          obtain ⟨WX, hWX⟩ : ∃ WX, WX = w9.setRow w.heap.size z47 := ⟨_, rfl⟩
          obtain ⟨WY, hWY⟩ : ∃ WY, WY = WX.setRow G (badG (sh b)) := ⟨_, rfl⟩
          have PF : Hid (Rf w WY G z47 (badG (sh b))) := by rw [hWY, hWX]; exact P9.out.fin HGW.out z47 (badG (sh b))
          have XB : Hid (WX.heap[G]? = some (.cells (badC .ok) 33)) := by rw [hWX, setRow_ne _ _ _ _ (by have := HGW.out; omega)]; exact P9.out.rb
          have HWX := hide hWX
          have HWY := hide hWY
          clear hWX hWY
          go_wp2_with (first
            | (refine wpList_store_rowW rfl 47 _ _ rfl w.heap.size z47 rfl rfl 47 z47 P9.out.rh info47 rfl (by simp [z47, Value.oneCell']) WX HWX.out ?_)
            | (refine wpList_store_rowW rfl 33 _ _ rfl G (badG (sh b)) rfl rfl 33 (badC .ok) XB.out (badGI _) (by simp [badC_size, badG_size]) (badG_one _) WY HWY.out ?_))
          refine bodyPost_ret (res_tctc rfl _ _ w.heap.size 47 z47 (0, 0) _ rfl PF.out.rh Tryd.underlying47 rfl info47 G 33 (badG (sh b)) (0, 0) _ rfl PF.out.rb Tryd.underlying33 rfl (badGI _)) rfl ⟨?_, PF.out.bel⟩
          unfold rreqV; rw [HS.out]; rfl
        · have HS : Hid (req b = (b.getD 1 0, (A, nm, b.getD K 0 * 256 + b.getD (K + 1) 0), K + 2, .ok)) := by show _ = _; rw [HR.out, if_neg (by omega)]
          have gk : decide ((n : Int) < (K : Int) + 2) = false := decide_eq_false (by omega)
          have gk' : decide (n < K + 2) = false := decide_eq_false hKn
          have hKn2 : K + 1 < n := by omega
          have hKn1 : K < n := by omega
          have hn1 : 1 < n := by omega
          have S3 := P3.out.src
          obtain ⟨xb', xo', ex, hxl3, hcell3⟩ := S3.lies (by omega)
          simp only [Option.some.injEq, Addr.mk.injEq, and_true] at ex
          obtain ⟨rfl, rfl⟩ := ex
          have d1 := hcell3 1 hn1
          have dk := hcell3 K hKn1
          have dk1 := hcell3 (K + 1) hKn2
          have b1 := getD_lt HBY.out 1
          have bk := getD_lt HBY.out K
          have bk1 := getD_lt HBY.out (K + 1)
          generalize b.getD 1 0 = c1 at d1 b1 HS
          generalize b.getD K 0 = p at dk bk HS
          generalize b.getD (K + 1) 0 = q at dk1 bk1 HS
          have i3 : isRow W3 w2.heap.size 5 = true := isRow_of LH.out rfl
          have j3 : rowOf W3 w2.heap.size = #[.int .u8 (A.1 : Nat), .int .u8 (A.2.1 : Nat), .int .u8 (A.2.2.1 : Nat), .int .u8 (A.2.2.2 : Nat), .string (strN nm)] := rowOf_of LH.out
          obtain ⟨WX, hWX⟩ : ∃ WX, W3.setRow w.heap.size #[.int .u8 (A.1 : Nat), .int .u8 (A.2.1 : Nat), .int .u8 (A.2.2.1 : Nat), .int .u8 (A.2.2.2 : Nat), .string (strN nm), .int .i64 ((p : Int) * 256 + q)] = WX := ⟨_, rfl⟩
          obtain ⟨WY, hWY⟩ : ∃ WY, WX.setRow G #[.int .i64 0, .string ⟨#[]⟩, .string ⟨#[]⟩, .string ⟨#[]⟩, .string ⟨#[]⟩, .int .i64 0, .int .i64 0, .int .i64 0, .int .i64 0, .int .i64 0] = WY := ⟨_, rfl⟩
          have cp1 : canPut 6 47 W3 (.pointer (some ⟨w.heap.size, 0, none⟩)) (.agg #[.int .u8 (A.1 : Nat), .int .u8 (A.2.1 : Nat), .int .u8 (A.2.2.1 : Nat), .int .u8 (A.2.2.2 : Nat), .string (strN nm), .int .i64 ((p : Int) * 256 + q)]) = true := canPut_row P3.out.rh rfl rfl (deC_one A (strN nm) _)
          have xb5 : WX.heap[G]? = some (.cells (badC .ok) 33) := by rw [← hWX, setRow_ne _ _ _ _ (by have := HGW.out; omega)]; exact P3.out.rb
          have cp2 : canPut 10 33 WX (.pointer (some ⟨G, 0, none⟩)) (.agg #[.int .i64 0, .string ⟨#[]⟩, .string ⟨#[]⟩, .string ⟨#[]⟩, .string ⟨#[]⟩, .int .i64 0, .int .i64 0, .int .i64 0, .int .i64 0, .int .i64 0]) = true := canPut_row xb5 rfl rfl (badC_one .ok)
          have PD : Hid (Rf w WY.drew G (deC A (strN nm) ((p : Int) * 256 + q)) (badC .ok)) := by
            have := P3.out.fin HGW.out (deC A (strN nm) ((p : Int) * 256 + q)) (badC .ok)
            rw [show W3.setRow w.heap.size (deC A (strN nm) ((p : Int) * 256 + q)) = WX from hWX, show WX.setRow G (badC .ok) = WY from hWY] at this
            exact ⟨this.bel.drew, this.rh, this.rb⟩
          clear xb5 hcell3 hKn S3 hc2 hxl
          go_wp2_with (first
            | (rw [HWZ.out, HE1.out]; refine wpList_store_rowW rfl 45 _ _ rfl w2.heap.size (hoC A (strN nm)) rfl rfl 45 z5 ZH.out info45 rfl (hoC_one _ _) WH HWH.out ?_)
            | (refine wpList_store_rowW rfl 45 _ _ rfl w2.heap.size (hoC A (strN nm)) rfl rfl 45 z5 ZH.out info45 rfl (hoC_one _ _) WH HWH.out ?_)
            | (refine wpList_store_rowW rfl 33 _ _ rfl E1 (badG .ok) rfl rfl 33 (badC .ok) ZE.out (badGI _) (by simp [badC_size, badG_size]) (badG_one _) W3 HW3.out ?_))
          go_region
          all_goals (try go_wp2_with fail)
          all_goals (refine bodyPost_ret (res_tctc rfl _ _ w.heap.size 47 (deC A (strN nm) ((p : Int) * 256 + q)) (0, 0) _ rfl PD.out.rh Tryd.underlying47 rfl info47 G 33 (badC .ok) (0, 0) _ rfl PD.out.rb Tryd.underlying33 rfl info33) rfl ⟨?_, PD.out.bel⟩)
          all_goals (have ev : ((p * 256 + q : Nat) : Int) = (p : Int) * 256 + q := (by omega))
          all_goals (have ek : ((K + 2 : Nat) : Int) = (K : Int) + 2 := (by omega))
          all_goals (unfold rreqV; rw [HS.out, ev, ek]; rfl)
      · have HS : Hid (req b = (0, noD, 0, ep)) := by show _ = _; rw [HR.out, if_pos hok3]
        have hpos := erN_pos hok3
        have hle := erN_le ep
        have gg : decide (0 < (erN ep : Int)) = true := decide_eq_true (by omega)
        have gg' : decide (0 < erN ep) = true := decide_eq_true hpos
        generalize erN ep = N at cN3 hpos hle gg gg'
        go_wp2_with (first
          | (rw [HWZ.out, HE1.out]; refine wpList_store_rowW rfl 45 _ _ rfl w2.heap.size (hoC A (strN nm)) rfl rfl 45 z5 ZH.out info45 rfl (hoC_one _ _) WH HWH.out ?_)
          | (refine wpList_store_rowW rfl 45 _ _ rfl w2.heap.size (hoC A (strN nm)) rfl rfl 45 z5 ZH.out info45 rfl (hoC_one _ _) WH HWH.out ?_)
          | (refine wpList_store_rowW rfl 33 _ _ rfl E1 (badG ep) rfl rfl 33 (badC .ok) ZE.out (badGI _) (by simp [badC_size, badG_size]) (badG_one _) W3 HW3.out ?_))
        obtain ⟨WX, hWX⟩ : ∃ WX, W3.setRow w.heap.size #[.int .u8 0, .int .u8 0, .int .u8 0, .int .u8 0, .string ⟨#[]⟩, .int .i64 0] = WX := ⟨_, rfl⟩
        obtain ⟨WY, hWY⟩ : ∃ WY, WX.setRow G (badG ep) = WY := ⟨_, rfl⟩
        have cp1 : canPut 6 47 W3 (.pointer (some ⟨w.heap.size, 0, none⟩)) (.agg #[.int .u8 0, .int .u8 0, .int .u8 0, .int .u8 0, .string ⟨#[]⟩, .int .i64 0]) = true := canPut_row P3.out.rh rfl rfl (deC_one (0, 0, 0, 0) ⟨#[]⟩ 0)
        have xb5 : WX.heap[G]? = some (.cells (badC .ok) 33) := by rw [← hWX, setRow_ne _ _ _ _ (by have := HGW.out; omega)]; exact P3.out.rb
        have lx5 : WX.heap[E1]? = some (.cells (badG ep) 33) := by rw [← hWX, setRow_ne _ _ _ _ (by have := HGW.out; omega)]; exact LR3.out
        have i3 : isRow W3 E1 10 = true := isRow_of LR3.out (badG_size _)
        have j3 : rowOf W3 E1 = badG ep := rowOf_of LR3.out
        have i4 : isRow WX E1 10 = true := isRow_of lx5 (badG_size _)
        have j4 : rowOf WX E1 = badG ep := rowOf_of lx5
        have cp2 : canPut 10 33 WX (.pointer (some ⟨G, 0, none⟩)) (.agg (badG ep)) = true := canPut_row xb5 (badC_size _) (badG_size _) (badG_one _)
        have PD : Hid (Rf w WY.drew G z47 (badG ep)) := by
          have := P3.out.fin HGW.out z47 (badG ep)
          rw [show W3.setRow w.heap.size z47 = WX from hWX, hWY] at this
          exact ⟨this.bel.drew, this.rh, this.rb⟩
        clear xb5 lx5
        go_region
        all_goals (try go_wp2_with fail)
        all_goals (refine bodyPost_ret (res_tctc rfl _ _ w.heap.size 47 z47 (0, 0) _ rfl PD.out.rh Tryd.underlying47 rfl info47 G 33 (badG ep) (0, 0) _ rfl PD.out.rb Tryd.underlying33 rfl (badGI _)) rfl ⟨?_, PD.out.bel⟩)
        all_goals (unfold rreqV; rw [HS.out, badF_badG]; rfl)
    · have q0 : ((z : Int) != 0) = true := by simp; omega
      have HS : Hid (req b = (0, noD, 0, .one 2 72)) := by show _ = _; unfold req; rw [if_neg (fun k => k HER.out.symm), if_neg HN3.out, if_pos (by rw [← HZ.out]; exact hz0)]
      clear hz0
      go_wp2_with (first | (refine wpList_store_rowW rfl 33 _ _ rfl w1.heap.size (badG .ok) rfl rfl 33 (badC .ok) Z1.out (badGI _) (by simp [badC_size, badG_size]) (badG_one _) W1 HW1.out ?_))
      refine (rfault_at 2 72 _).mono ?_
      rintro e w9 ⟨rfl, hb9⟩
      have P9 := hide (P1.out.below hb9)
      clear hb9
      rw [badF_badG]
      obtain ⟨WX, hWX⟩ : ∃ WX, WX = w9.setRow w.heap.size z47 := ⟨_, rfl⟩
      obtain ⟨WY, hWY⟩ : ∃ WY, WY = WX.setRow G (badG (.one 2 72)) := ⟨_, rfl⟩
      have PF : Hid (Rf w WY G z47 (badG (.one 2 72))) := by rw [hWY, hWX]; exact P9.out.fin HGW.out z47 (badG (.one 2 72))
      have XB : Hid (WX.heap[G]? = some (.cells (badC .ok) 33)) := by rw [hWX, setRow_ne _ _ _ _ (by have := HGW.out; omega)]; exact P9.out.rb
      have HWX := hide hWX
      have HWY := hide hWY
      clear hWX hWY
      go_wp2_with (first
        | (refine wpList_store_rowW rfl 47 _ _ rfl w.heap.size z47 rfl rfl 47 z47 P9.out.rh info47 rfl (by simp [z47, Value.oneCell']) WX HWX.out ?_)
        | (refine wpList_store_rowW rfl 33 _ _ rfl G (badG (.one 2 72)) rfl rfl 33 (badC .ok) XB.out (badGI _) (by simp [badC_size, badG_size]) (badG_one _) WY HWY.out ?_))
      refine bodyPost_ret (res_tctc rfl _ _ w.heap.size 47 z47 (0, 0) _ rfl PF.out.rh Tryd.underlying47 rfl info47 G 33 (badG (.one 2 72)) (0, 0) _ rfl PF.out.rb Tryd.underlying33 rfl (badGI _)) rfl ⟨?_, PF.out.bel⟩
      unfold rreqV; rw [HS.out]; rfl
  · have HS : Hid (req b = (0, noD, 0, er)) := by show _ = _; unfold req; rw [if_pos (fun k => hok1 (HER.out.trans k)), ← HER.out]
    have hpos := erN_pos hok1
    have hle := erN_le er
    have gg : decide (0 < (erN er : Int)) = true := decide_eq_true (by omega)
    have gg' : decide (0 < erN er) = true := decide_eq_true hpos
    generalize erN er = N at cN1 hpos hle gg gg'
    go_wp2_with (first | (refine wpList_store_rowW rfl 33 _ _ rfl w1.heap.size (badG er) rfl rfl 33 (badC .ok) Z1.out (badGI _) (by simp [badC_size, badG_size]) (badG_one _) W1 HW1.out ?_))
    obtain ⟨WX, hWX⟩ : ∃ WX, W1.setRow w.heap.size #[.int .u8 0, .int .u8 0, .int .u8 0, .int .u8 0, .string ⟨#[]⟩, .int .i64 0] = WX := ⟨_, rfl⟩
    obtain ⟨WY, hWY⟩ : ∃ WY, WX.setRow G (badG er) = WY := ⟨_, rfl⟩
    have cp1 : canPut 6 47 W1 (.pointer (some ⟨w.heap.size, 0, none⟩)) (.agg #[.int .u8 0, .int .u8 0, .int .u8 0, .int .u8 0, .string ⟨#[]⟩, .int .i64 0]) = true := canPut_row P1.out.rh rfl rfl (deC_one (0, 0, 0, 0) ⟨#[]⟩ 0)
    have xb5 : WX.heap[G]? = some (.cells (badC .ok) 33) := by rw [← hWX, setRow_ne _ _ _ _ (by have := HGW.out; omega)]; exact P1.out.rb
    have lx5 : WX.heap[w1.heap.size]? = some (.cells (badG er) 33) := by rw [← hWX, setRow_ne _ _ _ _ (by have := HGW.out; omega)]; exact LR1.out
    have i3 : isRow W1 w1.heap.size 10 = true := isRow_of LR1.out (badG_size _)
    have j3 : rowOf W1 w1.heap.size = badG er := rowOf_of LR1.out
    have i4 : isRow WX w1.heap.size 10 = true := isRow_of lx5 (badG_size _)
    have j4 : rowOf WX w1.heap.size = badG er := rowOf_of lx5
    have cp2 : canPut 10 33 WX (.pointer (some ⟨G, 0, none⟩)) (.agg (badG er)) = true := canPut_row xb5 (badC_size _) (badG_size _) (badG_one _)
    have PD : Hid (Rf w WY.drew G z47 (badG er)) := by
      have := P1.out.fin HGW.out z47 (badG er)
      rw [show W1.setRow w.heap.size z47 = WX from hWX, hWY] at this
      exact ⟨this.bel.drew, this.rh, this.rb⟩
    clear xb5 lx5
    go_region
    all_goals (try go_wp2_with fail)
    all_goals (refine bodyPost_ret (res_tctc rfl _ _ w.heap.size 47 z47 (0, 0) _ rfl PD.out.rh Tryd.underlying47 rfl info47 G 33 (badG er) (0, 0) _ rfl PD.out.rb Tryd.underlying33 rfl (badGI _)) rfl ⟨?_, PD.out.bel⟩)
    all_goals (unfold rreqV; rw [HS.out, badF_badG]; rfl)
end Go.Proofs.YtefgjmijbedbkaaDoor
