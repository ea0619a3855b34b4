/-
  FiveReads' walk; conditions as each theorem has them.
-/
import Derived.Test.YtefgjmijbedbkaaDoorWK
import Derived.Test.YtefgjmijbedbkaaDoorPA
import Derived.Test.YtefgjmijbedbkaaDoorRE
set_option linter.unusedSimpArgs false
set_option linter.unusedVariables false
namespace Go.Proofs.YtefgjmijbedbkaaDoor
open Go.RowKit

/-- The call's own copy of the bytes, and what lies below. -/
structure Rs (w W : World) (vo : Value) (b : List Nat) : Prop where
  bel : Below w.heap.size w W
  own : Own W w.heap.size 5 vo (nums .u8 b)
  v : Vars W
theorem Rs.below {w W W' : World} {vo : Value} {b : List Nat} (h : Rs w W vo b) (k : Below W.heap.size W W') : Rs w W' vo b := ⟨h.bel.trans (k.mono h.bel.size), h.own.below k, h.v.below k⟩
theorem Rs.put {w W : World} {vo : Value} {b : List Nat} (h : Rs w W vo b) {g : Nat} {T : TypeId} {old : Array Value} (hg : W.heap[g]? = some (.cells old T)) (hT : T ≠ 5) (hw : w.heap.size ≤ g) (h0 : 0 < w.heap.size) (cs : Array Value) : Rs w (W.setRow g cs) vo b := by
  refine ⟨below_setRow h.bel hw _, h.own.keep fun i hi => setRow_ne _ _ _ _ fun e => ?_, ?_⟩
  · obtain ⟨_, cur, hc⟩ := h.own.block hi
    subst e
    rw [hg] at hc
    simp at hc
    exact hT hc.2
  · obtain ⟨m, hm⟩ := h.v
    exact ⟨m, (World.cell?_of_block (setRow_ne _ _ _ _ (show (0 : Nat) ≠ g by omega))).trans hm⟩
theorem Rs.src {w W : World} {vo : Value} {b : List Nat} (h : Rs w W vo b) (hb : ∀ x ∈ b, x < 256) {x : Option Addr} {c : Nat} (e : vo = .slice x b.length c) : Src W x b.length c b := by
  obtain ⟨a, cap, e2, s, _⟩ := own_src h.own hb
  rw [e] at e2
  simp at e2
  obtain ⟨rfl, rfl⟩ := e2
  exact s
set_option maxRecDepth 100000 in
set_option maxHeartbeats 8000000 in
theorem reads_walk (a : Option Addr) (n c : Nat) (b : List Nat) (w : World) (hV : Vars w) (h : Src w a n c b) (hn : n ≤ 140737488351232) : Calls Tryd.prog 3 #[.slice a n c] w fun e w' => e = .returned (.bool true) ∧ Below w.heap.size w w' := by
  have HBY := hide h.byte
  have HL := hide h.hlen
  have HBT := hide (bytes_at a n c b w h (by omega))
  have V0 := hide hV
  have h0w : 0 < w.heap.size := by obtain ⟨m, hm⟩ := hV; exact lt_of_cell hm
  have H0W := hide h0w
  have SB : Hid (∀ W : World, Below w.heap.size w W → Src W a n c b) := fun W k => h.keep (fun h0 i o ei => k.block i (h.lt h0 ei)) k.size
  clear h hV
  go_enter Tryd.func3, Tryd.ntmps3
  go_wp2_with fail
  refine HBT.out.mono ?_
  rintro e w1 ⟨vo, rfl, o1, b1⟩
  obtain ⟨xo, co, hvo, so1, _⟩ := own_src o1 HBY.out
  rw [HL.out] at so1 hvo
  have Q1 := hide (Rs.mk (w := w) b1 o1 (V0.out.below b1))
  have SO : Hid (∀ W : World, Rs w W vo b → Src W xo n co b) := fun W q => by
    have := q.src HBY.out (x := xo) (c := co) (by rw [HL.out]; exact hvo)
    rwa [HL.out] at this
  have HG := hide (greeting_at xo n co b w1 so1)
  have HVO := hide hvo
  clear b1 o1 so1 HBT
  rw [hvo]
  clear hvo
  obtain ⟨lg, kg, eg, hEg⟩ : ∃ l k e, greet b = (l, k, e) := ⟨_, _, _, rfl⟩
  rw [hEg] at HG
  go_wp2_with fail
  refine HG.out.mono ?_
  rintro e w2 ⟨x2, y2, u2, rfl, si2, hf2, hb2⟩
  have Q2 := hide (Q1.out.below hb2)
  have HRG := hide (rgreeting_at a n c b w2 (SB.out w2 Q2.out.bel))
  rw [hEg] at HRG
  simp only [badF_badG] at HRG
  have SI2 := hide si2
  have F2 := hide hf2
  clear hEg si2 hf2 hb2 HG
  go_wp2_with fail
  refine HRG.out.mono ?_
  rintro e w3 ⟨x3, y3, rfl, si3, hb3⟩
  obtain ⟨GF, hGF⟩ : ∃ GF, GF = w3.heap.size := ⟨_, rfl⟩
  obtain ⟨W4, hW4⟩ : ∃ W, W = (w3.alloc (.cells (badC .ok) 33)).setRow GF (badG eg) := ⟨_, rfl⟩
  have z4 : (w3.alloc (.cells (badC .ok) 33)).heap[GF]? = some (.cells (badC .ok) 33) := by rw [hGF]; exact alloc_new _ _
  have b4 : Below w3.heap.size w3 W4 := by rw [hW4]; exact below_setRow ((Below.refl _ _).alloc (Nat.le_refl _) _) (by omega) _
  have l4 : W4.heap[GF]? = some (.cells (badG eg) 33) := by rw [hW4]; exact setRow_heap _ _ _ _ _ z4
  have b24 : Below w2.heap.size w2 W4 := hb3.trans (b4.mono hb3.size)
  have Q4 := hide (Q2.out.below b24)
  have F4 := hide (F2.out.below b24)
  have HSI := hide (same_ints W4 x2 x3 lg.length y2 lg.length y3 (up lg) (SI2.out.below b24) (si3.below b4))
  have hgw : w.heap.size ≤ GF := by rw [hGF]; exact (Q2.out.below hb3).bel.size
  have HGW := hide hgw
  have Z4 := hide z4
  have L4 := hide l4
  have HW4 := hide hW4
  have HGF := hide hGF.symm
  clear z4 b4 l4 b24 hW4 hb3 si3 hGF HRG SI2 F2
  go_wp2_with (first
    | (rw [HGF.out]; refine wpList_store_rowW rfl 33 _ _ rfl GF (badG eg) rfl rfl 33 (badC .ok) Z4.out (badGI _) (by simp [badC_size, badG_size]) (badG_one _) W4 HW4.out ?_))
  refine HSI.out.mono ?_
  rintro e w5 ⟨rfl, hb5⟩
  have Q5 := hide (Q4.out.below hb5)
  have L5 := hide (keepB hb5 L4.out)
  have HI5 := hide (is_at eg u2 w5 (F4.out.below hb5))
  rw [badF_badG] at HI5
  clear hb5 HSI F4
  have qk : ((kg : Int) != (kg : Int)) = false := by simp
  go_wp2_with (first
    | (refine wpList_load_rowG rfl 33 _ rfl GF rfl 33 (badG eg) (0, 0) _ L5.out Tryd.underlying33 rfl (badGI eg) ?_))
  refine HI5.out.mono ?_
  rintro e w6 ⟨rfl, hb6⟩
  have Q6 := hide (Q5.out.below hb6)
  have L6 := hide (keepB hb6 L5.out)
  have HLO := hide (login_at xo n co b w6 (SO.out w6 Q6.out))
  obtain ⟨lu, lp, kl, el, hEl⟩ : ∃ lu lp k e, login b = (lu, lp, k, e) := ⟨_, _, _, _, rfl⟩
  rw [hEl] at HLO
  clear hb6 HI5
  go_wp2_with fail
  refine HLO.out.mono ?_
  rintro e w7 ⟨u7, rfl, hf7, hb7⟩
  have Q7 := hide (Q6.out.below hb7)
  have L7 := hide (keepB hb7 L6.out)
  have F7 := hide hf7
  have HRL := hide (rlogin_at a n c b w7 (SB.out w7 Q7.out.bel))
  unfold loginV at HRL
  rw [hEl] at HRL
  simp only [badF_badG] at HRL
  clear hb7 hf7 hEl HLO
  go_wp2_with fail
  refine HRL.out.mono ?_
  rintro e w8 ⟨rfl, hb8⟩
  have q8 := keepB hb8 L7.out
  obtain ⟨W9, hW9⟩ : ∃ W, W = w8.setRow GF (badG el) := ⟨_, rfl⟩
  have l9 : W9.heap[GF]? = some (.cells (badG el) 33) := by rw [hW9]; exact setRow_heap _ _ _ _ _ q8
  have Q9 : Hid (Rs w W9 vo b) := by rw [hW9]; exact (Q7.out.below hb8).put q8 (by decide) HGW.out H0W.out _
  have F9 : Hid (IsF W9 el u7) := by
    rw [hW9]
    exact (F7.out.below hb8).keep fun i C hi => setRow_ne _ _ _ _ fun e => by subst e; rw [q8] at hi; simp at hi
  have HI9 := hide (is_at el u7 W9 F9.out)
  rw [badF_badG] at HI9
  have K8 := hide q8
  have L9 := hide l9
  have HW9 := hide hW9
  have su : ((strN lu).toList != (strN lu).toList) = false := by simp
  have sp : ((strN lp).toList != (strN lp).toList) = false := by simp
  clear hb8 q8 l9 hW9 HRL F7
  go_wp2_with (first
    | (refine wpList_store_rowW rfl 33 _ _ rfl GF (badG el) rfl rfl 33 (badG eg) K8.out (badGI _) (by simp [badG_size]) (badG_one _) W9 HW9.out ?_)
    | (refine wpList_load_rowG rfl 33 _ rfl GF rfl 33 (badG el) (0, 0) _ L9.out Tryd.underlying33 rfl (badGI el) ?_))
  refine HI9.out.mono ?_
  rintro e w10 ⟨rfl, hb10⟩
  have Q10 := hide (Q9.out.below hb10)
  have L10 := hide (keepB hb10 L9.out)
  have HRQ := hide (request_at xo n co b w10 (SO.out w10 Q10.out) Q10.out.v)
  unfold reqV at HRQ
  obtain ⟨cq, A, nm, pt, K, er, hE⟩ : ∃ q A nm pt K er, req b = (q, (A, nm, pt), K, er) := ⟨_, _, _, _, _, _, rfl⟩
  have HE := hide hE
  rw [hE] at HRQ
  obtain ⟨A0, A1, A2, A3⟩ := A
  simp only [deV] at HRQ
  clear hb10 HI9 F9 hE su sp
  go_wp2_with fail
  refine HRQ.out.mono ?_
  rintro e w11 ⟨u11, rfl, hf11, hb11⟩
  have Q11 := hide (Q10.out.below hb11)
  have L11 := hide (keepB hb11 L10.out)
  have F11 := hide hf11
  obtain ⟨GD, hGD⟩ : ∃ GD, GD = w11.heap.size := ⟨_, rfl⟩
  obtain ⟨W12, hW12⟩ : ∃ W, W = w11.alloc (.cells #[.int .u8 (A0 : Nat), .int .u8 (A1 : Nat), .int .u8 (A2 : Nat), .int .u8 (A3 : Nat), .string (strN nm), .int .i64 (pt : Nat)] 47) := ⟨_, rfl⟩
  have b12 : Below w11.heap.size w11 W12 := by rw [hW12]; exact (Below.refl _ _).alloc (Nat.le_refl _) _
  have d12 : W12.heap[GD]? = some (.cells #[.int .u8 (A0 : Nat), .int .u8 (A1 : Nat), .int .u8 (A2 : Nat), .int .u8 (A3 : Nat), .string (strN nm), .int .i64 (pt : Nat)] 47) := by rw [hW12, hGD]; exact alloc_new _ _
  have Q12 := hide (Q11.out.below b12)
  have L12 := hide (keepB b12 L11.out)
  have F12 := hide (F11.out.below b12)
  have D12 := hide d12
  have HRR := hide (rrequest_at a n c b W12 (SB.out W12 Q12.out.bel))
  unfold rreqV at HRR
  rw [HE.out] at HRR
  simp only [badF_badG, deV] at HRR
  have hgd : w.heap.size ≤ GD := by rw [hGD]; exact Q11.out.bel.size
  have HGD2 := hide hgd
  have HW12 := hide hW12.symm
  have HGD := hide hGD.symm
  clear hb11 hf11 b12 d12 hW12 hGD HRQ F11
  go_wp2_with fail
  rw [HW12.out, HGD.out]
  refine HRR.out.mono ?_
  rintro e w13 ⟨rfl, hb13⟩
  obtain ⟨GH, hGH⟩ : ∃ GH, GH = w13.heap.size := ⟨_, rfl⟩
  obtain ⟨W14, hW14⟩ : ∃ W, W = w13.alloc (.cells #[.int .u8 (A0 : Nat), .int .u8 (A1 : Nat), .int .u8 (A2 : Nat), .int .u8 (A3 : Nat), .string (strN nm), .int .i64 (pt : Nat)] 47) := ⟨_, rfl⟩
  have b14 : Below w13.heap.size w13 W14 := by rw [hW14]; exact (Below.refl _ _).alloc (Nat.le_refl _) _
  have q14 := keepB b14 (keepB hb13 L12.out)
  have d14 := keepB b14 (keepB hb13 D12.out)
  have e14 : W14.heap[GH]? = some (.cells #[.int .u8 (A0 : Nat), .int .u8 (A1 : Nat), .int .u8 (A2 : Nat), .int .u8 (A3 : Nat), .string (strN nm), .int .i64 (pt : Nat)] 47) := by rw [hW14, hGH]; exact alloc_new _ _
  have hfd : GF ≠ GD := fun e => by rw [e] at q14; rw [q14] at d14; simp at d14
  have hfh : GF ≠ GH := fun e => by rw [e] at q14; rw [q14] at e14; simp at e14
  obtain ⟨W15, hW15⟩ : ∃ W, W = W14.setRow GF (badG er) := ⟨_, rfl⟩
  have l15 : W15.heap[GF]? = some (.cells (badG er) 33) := by rw [hW15]; exact setRow_heap _ _ _ _ _ q14
  have dd : W15.heap[GD]? = some (.cells #[.int .u8 (A0 : Nat), .int .u8 (A1 : Nat), .int .u8 (A2 : Nat), .int .u8 (A3 : Nat), .string (strN nm), .int .i64 (pt : Nat)] 47) := by rw [hW15, setRow_ne _ _ _ _ (Ne.symm hfd)]; exact d14
  have hh : W15.heap[GH]? = some (.cells #[.int .u8 (A0 : Nat), .int .u8 (A1 : Nat), .int .u8 (A2 : Nat), .int .u8 (A3 : Nat), .string (strN nm), .int .i64 (pt : Nat)] 47) := by rw [hW15, setRow_ne _ _ _ _ (Ne.symm hfh)]; exact e14
  have Q15 : Hid (Rs w W15 vo b) := by rw [hW15]; exact ((Q12.out.below hb13).below b14).put q14 (by decide) HGW.out H0W.out _
  have F15 : Hid (IsF W15 er u11) := by
    rw [hW15]
    exact ((F12.out.below hb13).below b14).keep fun i C hi => setRow_ne _ _ _ _ fun e => by subst e; rw [q14] at hi; simp at hi
  have HI15 := hide (is_at er u11 W15 F15.out)
  rw [badF_badG] at HI15
  have K14 := hide q14
  have L15 := hide l15
  have D15 := hide dd
  have E15 := hide hh
  have HW15 := hide hW15
  have HW14 := hide hW14.symm
  have HGH := hide hGH.symm
  have HFD := hide hfd
  have HFH := hide hfh
  have k0 : W15.cell? ⟨GD, 0, none⟩ = some (.int .u8 (A0 : Nat)) := by simp [World.cell?, dd]
  have k1 : W15.cell? ⟨GD, 1, none⟩ = some (.int .u8 (A1 : Nat)) := by simp [World.cell?, dd]
  have k2 : W15.cell? ⟨GD, 2, none⟩ = some (.int .u8 (A2 : Nat)) := by simp [World.cell?, dd]
  have k3 : W15.cell? ⟨GD, 3, none⟩ = some (.int .u8 (A3 : Nat)) := by simp [World.cell?, dd]
  have k4 : W15.cell? ⟨GD, 4, none⟩ = some (.string (strN nm)) := by simp [World.cell?, dd]
  have k5 : W15.cell? ⟨GD, 5, none⟩ = some (.int .i64 (pt : Nat)) := by simp [World.cell?, dd]
  have j0 : W15.cell? ⟨GH, 0, none⟩ = some (.int .u8 (A0 : Nat)) := by simp [World.cell?, hh]
  have j1 : W15.cell? ⟨GH, 1, none⟩ = some (.int .u8 (A1 : Nat)) := by simp [World.cell?, hh]
  have j2 : W15.cell? ⟨GH, 2, none⟩ = some (.int .u8 (A2 : Nat)) := by simp [World.cell?, hh]
  have j3 : W15.cell? ⟨GH, 3, none⟩ = some (.int .u8 (A3 : Nat)) := by simp [World.cell?, hh]
  have j4 : W15.cell? ⟨GH, 4, none⟩ = some (.string (strN nm)) := by simp [World.cell?, hh]
  have j5 : W15.cell? ⟨GH, 5, none⟩ = some (.int .i64 (pt : Nat)) := by simp [World.cell?, hh]
  have sn : ((strN nm).toList == (strN nm).toList) = true := by simp
  clear hb13 b14 q14 d14 e14 l15 dd hh hW15 hW14 hGH hfd hfh HRR F12
  go_wp2_with (first
    | (rw [HW14.out, HGH.out]; refine wpList_store_rowW rfl 33 _ _ rfl GF (badG er) rfl rfl 33 (badG el) K14.out (badGI _) (by simp [badG_size]) (badG_one _) W15 HW15.out ?_)
    | (refine wpList_load_rowG rfl 33 _ rfl GF rfl 33 (badG er) (0, 0) _ L15.out Tryd.underlying33 rfl (badGI er) ?_))
  refine HI15.out.mono ?_
  rintro e w16 ⟨rfl, hb16⟩
  have Q16 := hide (Q15.out.below hb16)
  have L16 := hide (keepB hb16 L15.out)
  have D16 := hide (keepB hb16 D15.out)
  have E16 := hide (keepB hb16 E15.out)
  have HRP := hide (reply_at xo n co b w16 (SO.out w16 Q16.out) Q16.out.v)
  unfold reqV at HRP
  rw [HE.out] at HRP
  simp only [deV] at HRP
  clear hb16 HI15 F15 k0 k1 k2 k3 k4 k5 j0 j1 j2 j3 j4 j5
  go_wp2_with fail
  refine HRP.out.mono ?_
  rintro e w17 ⟨u17, rfl, hf17, hb17⟩
  have q17 := keepB hb17 D16.out
  have l17 := keepB hb17 L16.out
  have e17 := keepB hb17 E16.out
  obtain ⟨W18, hW18⟩ : ∃ W, W = w17.setRow GD #[.int .u8 (A0 : Nat), .int .u8 (A1 : Nat), .int .u8 (A2 : Nat), .int .u8 (A3 : Nat), .string (strN nm), .int .i64 (pt : Nat)] := ⟨_, rfl⟩
  have l18 : W18.heap[GF]? = some (.cells (badG er) 33) := by rw [hW18, setRow_ne _ _ _ _ HFD.out]; exact l17
  have dd : W18.heap[GD]? = some (.cells #[.int .u8 (A0 : Nat), .int .u8 (A1 : Nat), .int .u8 (A2 : Nat), .int .u8 (A3 : Nat), .string (strN nm), .int .i64 (pt : Nat)] 47) := by rw [hW18]; exact setRow_heap _ _ _ _ _ q17
  have hh : W18.heap[GH]? = some (.cells #[.int .u8 (A0 : Nat), .int .u8 (A1 : Nat), .int .u8 (A2 : Nat), .int .u8 (A3 : Nat), .string (strN nm), .int .i64 (pt : Nat)] 47) := by
    rw [hW18]
    by_cases e : GH = GD
    · rw [e]; exact setRow_heap _ _ _ _ _ q17
    · rw [setRow_ne _ _ _ _ e]; exact e17
  have Q18 : Hid (Rs w W18 vo b) := by rw [hW18]; exact (Q16.out.below hb17).put q17 (by decide) HGD2.out H0W.out _
  have F18 : Hid (IsF W18 er u17) := by
    rw [hW18]
    exact hf17.keep fun i C hi => setRow_ne _ _ _ _ fun e => by subst e; rw [q17] at hi; simp at hi
  have HI18 := hide (is_at er u17 W18 F18.out)
  rw [badF_badG] at HI18
  have K17 := hide q17
  have L18 := hide l18
  have HW18 := hide hW18
  have k0 : W18.cell? ⟨GD, 0, none⟩ = some (.int .u8 (A0 : Nat)) := by simp [World.cell?, dd]
  have k1 : W18.cell? ⟨GD, 1, none⟩ = some (.int .u8 (A1 : Nat)) := by simp [World.cell?, dd]
  have k2 : W18.cell? ⟨GD, 2, none⟩ = some (.int .u8 (A2 : Nat)) := by simp [World.cell?, dd]
  have k3 : W18.cell? ⟨GD, 3, none⟩ = some (.int .u8 (A3 : Nat)) := by simp [World.cell?, dd]
  have k4 : W18.cell? ⟨GD, 4, none⟩ = some (.string (strN nm)) := by simp [World.cell?, dd]
  have k5 : W18.cell? ⟨GD, 5, none⟩ = some (.int .i64 (pt : Nat)) := by simp [World.cell?, dd]
  have j0 : W18.cell? ⟨GH, 0, none⟩ = some (.int .u8 (A0 : Nat)) := by simp [World.cell?, hh]
  have j1 : W18.cell? ⟨GH, 1, none⟩ = some (.int .u8 (A1 : Nat)) := by simp [World.cell?, hh]
  have j2 : W18.cell? ⟨GH, 2, none⟩ = some (.int .u8 (A2 : Nat)) := by simp [World.cell?, hh]
  have j3 : W18.cell? ⟨GH, 3, none⟩ = some (.int .u8 (A3 : Nat)) := by simp [World.cell?, hh]
  have j4 : W18.cell? ⟨GH, 4, none⟩ = some (.string (strN nm)) := by simp [World.cell?, hh]
  have j5 : W18.cell? ⟨GH, 5, none⟩ = some (.int .i64 (pt : Nat)) := by simp [World.cell?, hh]
  clear hb17 hf17 q17 l17 e17 l18 dd hh hW18 HRP
  go_wp2_with (first
    | (refine wpList_store_rowW rfl 47 _ _ rfl GD #[.int .u8 (A0 : Nat), .int .u8 (A1 : Nat), .int .u8 (A2 : Nat), .int .u8 (A3 : Nat), .string (strN nm), .int .i64 (pt : Nat)] rfl rfl 47 _ K17.out info47 rfl (deC_one (A0, A1, A2, A3) (strN nm) (pt : Nat)) W18 HW18.out ?_)
    | (refine wpList_load_rowG rfl 33 _ rfl GF rfl 33 (badG er) (0, 0) _ L18.out Tryd.underlying33 rfl (badGI er) ?_))
  refine HI18.out.mono ?_
  rintro e w19 ⟨rfl, hb19⟩
  have Q19 := hide (Q18.out.below hb19)
  have L19 := hide (keepB hb19 L18.out)
  clear hb19 HI18 F18 k0 k1 k2 k3 k4 k5 j0 j1 j2 j3 j4 j5 sn
  obtain ⟨c20, k20, ec, hE20⟩ : ∃ c k e, pair b 5 = (c, k, e) := ⟨_, _, _, rfl⟩
  have HC20 := hide (choice_at xo n co b w19 (SO.out w19 Q19.out))
  rw [hE20] at HC20
  go_wp2_with fail
  refine HC20.out.mono ?_
  rintro e w20 ⟨u20, rfl, hf20, hb20⟩
  have Q20 := hide (Q19.out.below hb20)
  have L20 := hide (keepB hb20 L19.out)
  have F20 := hide hf20
  have HC21 := hide (rchoice_at a n c b w20 (SB.out w20 Q20.out.bel))
  unfold pairV at HC21
  rw [hE20] at HC21
  simp only [badF_badG] at HC21
  clear hb20 hf20 hE20 HC20
  go_wp2_with fail
  refine HC21.out.mono ?_
  rintro e w21 ⟨rfl, hb21⟩
  have q21 := keepB hb21 L20.out
  obtain ⟨W22, hW22⟩ : ∃ W, W = w21.setRow GF (badG ec) := ⟨_, rfl⟩
  have l22 : W22.heap[GF]? = some (.cells (badG ec) 33) := by rw [hW22]; exact setRow_heap _ _ _ _ _ q21
  have Q22 : Hid (Rs w W22 vo b) := by rw [hW22]; exact (Q20.out.below hb21).put q21 (by decide) HGW.out H0W.out _
  have F22 : Hid (IsF W22 ec u20) := by
    rw [hW22]
    exact (F20.out.below hb21).keep fun i C hi => setRow_ne _ _ _ _ fun e => by subst e; rw [q21] at hi; simp at hi
  have HI22 := hide (is_at ec u20 W22 F22.out)
  rw [badF_badG] at HI22
  have K21 := hide q21
  have L22 := hide l22
  have HW22 := hide hW22
  clear hb21 q21 l22 hW22 HC21 F20
  go_wp2_with (first
    | (refine wpList_store_rowW rfl 33 _ _ rfl GF (badG ec) rfl rfl 33 (badG er) K21.out (badGI _) (by simp [badG_size]) (badG_one _) W22 HW22.out ?_)
    | (refine wpList_load_rowG rfl 33 _ rfl GF rfl 33 (badG ec) (0, 0) _ L22.out Tryd.underlying33 rfl (badGI ec) ?_))
  refine HI22.out.mono ?_
  rintro e w23 ⟨rfl, hb23⟩
  have Q23 := hide (Q22.out.below hb23)
  have L23 := hide (keepB hb23 L22.out)
  clear hb23 HI22 F22
  obtain ⟨c24, k24, ev, hE24⟩ : ∃ c k e, pair b 1 = (c, k, e) := ⟨_, _, _, rfl⟩
  have HC24 := hide (verdict_at xo n co b w23 (SO.out w23 Q23.out))
  rw [hE24] at HC24
  go_wp2_with fail
  refine HC24.out.mono ?_
  rintro e w24 ⟨u24, rfl, hf24, hb24⟩
  have Q24 := hide (Q23.out.below hb24)
  have L24 := hide (keepB hb24 L23.out)
  have F24 := hide hf24
  have HC25 := hide (rverdict_at a n c b w24 (SB.out w24 Q24.out.bel))
  unfold pairV at HC25
  rw [hE24] at HC25
  simp only [badF_badG] at HC25
  clear hb24 hf24 hE24 HC24
  go_wp2_with fail
  refine HC25.out.mono ?_
  rintro e w25 ⟨rfl, hb25⟩
  have q25 := keepB hb25 L24.out
  obtain ⟨W26, hW26⟩ : ∃ W, W = w25.setRow GF (badG ev) := ⟨_, rfl⟩
  have l26 : W26.heap[GF]? = some (.cells (badG ev) 33) := by rw [hW26]; exact setRow_heap _ _ _ _ _ q25
  have Q26 : Hid (Rs w W26 vo b) := by rw [hW26]; exact (Q24.out.below hb25).put q25 (by decide) HGW.out H0W.out _
  have F26 : Hid (IsF W26 ev u24) := by
    rw [hW26]
    exact (F24.out.below hb25).keep fun i C hi => setRow_ne _ _ _ _ fun e => by subst e; rw [q25] at hi; simp at hi
  have HI26 := hide (is_at ev u24 W26 F26.out)
  rw [badF_badG] at HI26
  have K25 := hide q25
  have L26 := hide l26
  have HW26 := hide hW26
  clear hb25 q25 l26 hW26 HC25 F24
  go_wp2_with (first
    | (refine wpList_store_rowW rfl 33 _ _ rfl GF (badG ev) rfl rfl 33 (badG ec) K25.out (badGI _) (by simp [badG_size]) (badG_one _) W26 HW26.out ?_)
    | (refine wpList_load_rowG rfl 33 _ rfl GF rfl 33 (badG ev) (0, 0) _ L26.out Tryd.underlying33 rfl (badGI ev) ?_))
  refine HI26.out.mono ?_
  rintro e w27 ⟨rfl, hb27⟩
  have Q27 := hide (Q26.out.below hb27)
  have L27 := hide (keepB hb27 L26.out)
  clear hb27 HI26 F26
  have HSM := hide (same_bytes w27 xo a n co n c b (SO.out w27 Q27.out) (SB.out w27 Q27.out.bel))
  have HWK := hide (works_at w27 Q27.out.v)
  go_wp2_with fail
  refine HSM.out.mono ?_
  rintro e w28 ⟨rfl, rfl⟩
  go_wp2_with fail
  refine HWK.out.mono ?_
  rintro e w29 ⟨rfl, hb29⟩
  have B29 := hide (Q27.out.bel.trans (hb29.mono Q27.out.bel.size))
  clear hb29
  go_wp2_with fail
  go_ret
  exact ⟨by first | rfl | simp, B29.out⟩
end Go.Proofs.YtefgjmijbedbkaaDoor
