/-
  Request and Reply of package five; conditions as each theorem has them.
-/
import Derived.Test.YtefgjmijbedbkaaDoorV
import Derived.Test.YtefgjmijbedbkaaDoorX
set_option linter.unusedSimpArgs false
set_option linter.unusedVariables false
namespace Go.Proofs.YtefgjmijbedbkaaDoor
open Go.RowKit

def z47 : Array Value := #[.int .u8 0, .int .u8 0, .int .u8 0, .int .u8 0, .string ⟨#[]⟩, .int .i64 0]
/-- What a request's reading answers. -/
noncomputable def reqV (b : List Nat) (u : Value) : Value := .tuple #[.int .i64 ((req b).1 : Nat), deV (req b).2.1.1 (strN (req b).2.1.2.1) ((req b).2.1.2.2 : Nat), .int .i64 ((req b).2.2.1 : Nat), u]
theorem res_tctt {P : Program} {fn : Func} {u q v x : Tmp} {ty2 : TypeId} (h : fn.results = #[.tmp u, .cell q ty2, .tmp v, .tmp x]) (tmps : Array Value) (w : World)
    (g2 : Nat) (t2 : TypeId) (cs2 : Array Value) (fr2 : Nat × Nat) (d2 : TypeDesc)
    (hp2 : tmps.getD q undef = .pointer (some ⟨g2, 0, none⟩)) (hg2 : w.heap[g2]? = some (.cells cs2 t2 fr2))
    (hu2 : P.underlying ty2 = some d2) (hd2 : (match d2 with | .struct _ | .array _ _ => true | _ => false) = true) (hi2 : (P.info? ty2).map (·.size) = some cs2.size) :
    (results fn tmps).run P w = .ok (.tuple #[tmps.getD u undef, .agg cs2, tmps.getD v undef, tmps.getD x undef]) w := by
  have hp2' : tmps[q]?.getD undef = .pointer (some ⟨g2, 0, none⟩) := by simpa using hp2
  simp only [results, h]
  simp [Sem.run_bind, Result.andThen, hp2', asAddr, run_loadVar_row w g2 t2 ty2 cs2 fr2 d2 hg2 hu2 hd2 hi2]
attribute [local go_sem ↓] run_op47 run_opst47 Go.wp_at_zero Go.wp_at_succ
attribute [local go_sem] rowOf_drew isRow_drew arrAt_ptr isAt_ptr putAt_ptr canPut_drew setRow_drew
set_option maxRecDepth 100000 in
set_option maxHeartbeats 4000000 in
theorem readTo_at (a : Option Addr) (n c : Nat) (b : List Nat) (w : World) (h : Src w a n c b) (hV : Vars w) :
    Calls Tryd.prog 44 #[.slice a n c] w fun e w' => ∃ u, e = .returned (reqV b u) ∧ IsF w' (req b).2.2.2 u ∧ Below w.heap.size w w' := by
  obtain ⟨WA, hWA⟩ : ∃ WA, WA = w.alloc (.cells #[.int .u8 0, .int .u8 0, .int .u8 0, .int .u8 0, .string ⟨#[]⟩, .int .i64 0] 47) := ⟨_, rfl⟩
  have hbA : Below w.heap.size w WA := by rw [hWA]; exact (Below.refl _ _).alloc (Nat.le_refl _) _
  have hrA : WA.heap[w.heap.size]? = some (.cells #[.int .u8 0, .int .u8 0, .int .u8 0, .int .u8 0, .string ⟨#[]⟩, .int .i64 0] 47) := by rw [hWA]; exact alloc_new _ _
  obtain ⟨G, hG⟩ : ∃ G, G = w.heap.size + 1 := ⟨_, rfl⟩
  have hGA : WA.heap.size = G := by rw [hWA, hG]; simp
  obtain ⟨W0, hW0⟩ : ∃ W0, W0 = WA.alloc (.cells #[.slice a n c, .int .i64 0, .nilIface] 74) := ⟨_, rfl⟩
  have HR := hide (Rdr.new WA (h.below hbA))
  rw [← hW0, hGA] at HR
  have k0 : Kept G G WA W0 := by rw [hW0]; exact (Kept.refl _ _ _).alloc _
  have K0 := hide k0
  have HW0 : Hid ((w.alloc (.cells #[.int .u8 0, .int .u8 0, .int .u8 0, .int .u8 0, .string ⟨#[]⟩, .int .i64 0] 47)).alloc (.cells #[.slice a n c, .int .i64 0, .nilIface] 74) = W0) := by rw [hW0, hWA]; rfl
  have HVr := hide (version_at G a n c b (0, .ok) 5 W0 HR.out (by omega))
  have BA := hide hbA
  have RA := hide hrA
  have VA := hide (hV.below hbA)
  have HG := hide hG.symm
  have hGs : w.heap.size < G := by omega
  have HGS : Hid (G ≠ w.heap.size) := by show _ ≠ _; omega
  have hsz : WA.heap.size = G := hGA
  clear h hV hWA hbA hrA hW0 k0 hGA
  go_enter Tryd.func44, Tryd.ntmps44
  go_wp2_with fail
  rw [HW0.out, HG.out]
  clear hG
  refine HVr.out.mono ?_
  rintro e w1 ⟨rfl, r1, k1⟩
  obtain ⟨s1, hs1⟩ : ∃ s1, s1 = wantS b 5 70 (0, .ok) := ⟨_, rfl⟩
  obtain ⟨s2, hs2⟩ : ∃ s2, s2 = tkS b 1 s1 := ⟨_, rfl⟩
  obtain ⟨s3, hs3⟩ : ∃ s3, s3 = wantS b 0 72 s2 := ⟨_, rfl⟩
  obtain ⟨s4, hs4⟩ : ∃ s4, s4 = dsS b s3 := ⟨_, rfl⟩
  have HP := hide (req_st b s1 s2 s3 s4 hs1 hs2 hs3 hs4)
  have S3 := hide hs3
  have S4 := hide hs4
  rw [← hs1] at r1
  have HN := hide (next_at G a n c b s1 w1 r1)
  rw [← hs2] at HN
  have hlt := nx_lt r1.src.byte s1
  have K1 := hide (K0.out.trans k1)
  clear r1 k1 hs1 hs2 hs3 hs4
  obtain ⟨q, hq⟩ : ∃ q, q = nxV b s1 := ⟨_, rfl⟩
  rw [← hq] at HN hlt HP
  clear hq
  go_wp2_with fail
  refine HN.out.mono ?_
  rintro e w2 ⟨rfl, r2, k2⟩
  have HZ := hide (zero_at G a n c b s2 w2 r2)
  rw [← S3.out] at HZ
  have K2 := hide (K1.out.trans k2)
  clear r2 k2
  go_wp2_with fail
  refine HZ.out.mono ?_
  rintro e w3 ⟨rfl, r3, k3⟩
  have K3 := hide (K2.out.trans k3)
  have HD := hide (dest_at G a n c b s3 w3 r3 (by omega) (VA.out.kept K3.out (by omega)))
  rw [← S4.out] at HD
  obtain ⟨A, nm, pt, hd⟩ : ∃ A nm pt, dsV b s3 = (A, nm, pt) := ⟨_, _, _, rfl⟩
  rw [hd] at HD HP
  simp only [deV_deC] at HD
  clear r3 k3 hd
  go_wp2_with fail
  refine HD.out.mono ?_
  rintro e w4 ⟨rfl, r4, k4⟩
  have hz4 := r4.lt
  have K4 := hide (K3.out.trans k4)
  obtain ⟨W5, hW5⟩ : ∃ W5, W5 = (w4.alloc (.cells #[.int .u8 0, .int .u8 0, .int .u8 0, .int .u8 0, .string ⟨#[]⟩, .int .i64 0] 47)).setRow w4.heap.size (deC A (strN nm) (pt : Nat)) := ⟨_, rfl⟩
  have z5 : (w4.alloc (.cells #[.int .u8 0, .int .u8 0, .int .u8 0, .int .u8 0, .string ⟨#[]⟩, .int .i64 0] 47)).heap[w4.heap.size]? = some (.cells #[.int .u8 0, .int .u8 0, .int .u8 0, .int .u8 0, .string ⟨#[]⟩, .int .i64 0] 47) := alloc_new _ _
  have b5 : Below w4.heap.size w4 W5 := by rw [hW5]; exact below_setRow ((Below.refl _ _).alloc (Nat.le_refl _) _) (Nat.le_refl _) _
  have h5 : W5.heap[w4.heap.size]? = some (.cells (deC A (strN nm) (pt : Nat)) 47) := by rw [hW5]; exact setRow_heap _ _ _ _ _ z5
  have K5 := hide (K4.out.trans (Kept.of_below b5))
  have rA5 : W5.heap[w.heap.size]? = some (.cells #[.int .u8 0, .int .u8 0, .int .u8 0, .int .u8 0, .string ⟨#[]⟩, .int .i64 0] 47) := K5.out.at_ RA.out (by omega) (by omega)
  obtain ⟨u, c1, c2, hf, hbb⟩ := (r4.below b5).out K5.out (by omega)
  have HBB : Hid (Below w.heap.size w W5) := by
    have := K5.out
    exact (BA.out.trans ⟨this.os, this.tape, this.output, this.size, fun i hi => this.block i (by omega) (by omega) (by omega)⟩)
  have HF := hide hf
  have Z5 := hide z5
  have H5 := hide h5
  have RA5 := hide rA5
  have HW5 := hide hW5
  obtain ⟨p1, p2⟩ := HP.out
  by_cases hok : s4.2 = .ok
  · obtain rfl := hf.nil hok
    obtain ⟨e1, e2, e3⟩ := p2 hok
    have HE : Hid (req b = (q, (A, nm, pt), s4.1, .ok)) := Prod.ext e2.symm (Prod.ext e3.symm (Prod.ext e1.symm (by rw [← p1, hok])))
    generalize s4.1 = K at c1 HE
    clear r4 k4 z5 b5 h5 rA5 hf hbb p1 p2 e1 e2 e3 hok hW5 HP HD HZ HN HVr
    go_wp2_with (first | (refine wpList_store_rowW rfl 47 _ _ rfl w4.heap.size (deC A (strN nm) (pt : Nat)) rfl rfl 47 _ Z5.out info47 rfl (deC_one _ _ _) W5 HW5.out ?_))
    have i5 : isRow W5 w4.heap.size 6 = true := isRow_of H5.out rfl
    have j5 : rowOf W5 w4.heap.size = #[.int .u8 (A.1 : Nat), .int .u8 (A.2.1 : Nat), .int .u8 (A.2.2.1 : Nat), .int .u8 (A.2.2.2 : Nat), .string (strN nm), .int .i64 (pt : Nat)] := rowOf_of H5.out
    have cp : canPut 6 47 W5 (.pointer (some ⟨w.heap.size, 0, none⟩)) (.agg #[.int .u8 (A.1 : Nat), .int .u8 (A.2.1 : Nat), .int .u8 (A.2.2.1 : Nat), .int .u8 (A.2.2.2 : Nat), .string (strN nm), .int .i64 (pt : Nat)]) = true := canPut_row RA5.out rfl rfl (deC_one A (strN nm) (pt : Nat))
    obtain ⟨W6, hW6⟩ : ∃ W6, W5.setRow w.heap.size #[.int .u8 (A.1 : Nat), .int .u8 (A.2.1 : Nat), .int .u8 (A.2.2.1 : Nat), .int .u8 (A.2.2.2 : Nat), .string (strN nm), .int .i64 (pt : Nat)] = W6 := ⟨_, rfl⟩
    have d1 : W6.cell? ⟨G, 1, none⟩ = some (.int .i64 (K : Nat)) := by rw [← hW6]; exact (World.cell?_of_block (setRow_ne _ _ _ _ HGS.out)).trans c1
    have R6 : Hid (W6.heap[w.heap.size]? = some (.cells (deC A (strN nm) (pt : Nat)) 47)) := by rw [← hW6]; exact setRow_heap _ _ _ _ _ RA5.out
    have B6 : Hid (Below w.heap.size w W6) := by rw [← hW6]; exact below_setRow HBB.out (Nat.le_refl _) _
    go_region
    all_goals (try go_wp2_with fail)
    all_goals (refine bodyPost_ret (res_tctt rfl _ _ w.heap.size 47 (deC A (strN nm) (pt : Nat)) (0, 0) _ rfl R6.out Tryd.underlying47 rfl info47) rfl ⟨.nilIface, ?_, ?_, B6.out.drew⟩)
    all_goals (try unfold reqV)
    all_goals (rw [HE.out])
    all_goals rfl
  · obtain ⟨x1, rfl⟩ := hf.ptr hok
    have HE : Hid (req b = (0, noD, 0, s4.2)) := by
      obtain ⟨t1, t2, t3⟩ := req_bad (b := b) (by rw [← p1]; exact hok)
      exact Prod.ext t1 (Prod.ext t2 (Prod.ext t3 p1.symm))
    clear r4 k4 z5 b5 h5 rA5 hf hbb p1 p2 hok hW5 HP HD HZ HN HVr
    go_wp2_with (first | (refine wpList_store_rowW rfl 47 _ _ rfl w4.heap.size (deC A (strN nm) (pt : Nat)) rfl rfl 47 _ Z5.out info47 rfl (deC_one _ _ _) W5 HW5.out ?_))
    have cp : canPut 6 47 W5 (.pointer (some ⟨w.heap.size, 0, none⟩)) (.agg #[.int .u8 0, .int .u8 0, .int .u8 0, .int .u8 0, .string ⟨#[]⟩, .int .i64 0]) = true := canPut_row RA5.out rfl rfl (by simp [Value.oneCell'])
    obtain ⟨W6, hW6⟩ : ∃ W6, W5.setRow w.heap.size #[.int .u8 0, .int .u8 0, .int .u8 0, .int .u8 0, .string ⟨#[]⟩, .int .i64 0] = W6 := ⟨_, rfl⟩
    have d2 : W6.cell? ⟨G, 2, none⟩ = some (.iface 99 (.pointer (some ⟨x1, 0, none⟩))) := by rw [← hW6]; exact (World.cell?_of_block (setRow_ne _ _ _ _ HGS.out)).trans c2
    have R6 : Hid (W6.heap[w.heap.size]? = some (.cells #[.int .u8 0, .int .u8 0, .int .u8 0, .int .u8 0, .string ⟨#[]⟩, .int .i64 0] 47)) := by rw [← hW6]; exact setRow_heap _ _ _ _ _ RA5.out
    have B6 : Hid (Below w.heap.size w W6) := by rw [← hW6]; exact below_setRow HBB.out (Nat.le_refl _) _
    have F6 : Hid (IsF W6 s4.2 (.iface 99 (.pointer (some ⟨x1, 0, none⟩)))) := by
      rw [← hW6]
      refine HF.out.keep fun i C hi => setRow_ne _ _ _ _ fun ee => ?_
      subst ee; rw [RA5.out] at hi; simp at hi
    go_region
    all_goals (try go_wp2_with fail)
    all_goals (refine bodyPost_ret (res_tctt rfl _ _ w.heap.size 47 #[.int .u8 0, .int .u8 0, .int .u8 0, .int .u8 0, .string ⟨#[]⟩, .int .i64 0] (0, 0) _ rfl R6.out Tryd.underlying47 rfl info47) rfl ⟨.iface 99 (.pointer (some ⟨x1, 0, none⟩)), ?_, ?_, B6.out.drew⟩)
    all_goals (try unfold reqV)
    all_goals (rw [HE.out])
    all_goals first
      | rfl
      | exact F6.out.keep fun _ _ _ => rfl
set_option maxRecDepth 100000 in
set_option maxHeartbeats 2000000 in
theorem request_at (a : Option Addr) (n c : Nat) (b : List Nat) (w : World) (h : Src w a n c b) (hV : Vars w) :
    Calls Tryd.prog 15 #[.slice a n c] w fun e w' => ∃ u, e = .returned (reqV b u) ∧ IsF w' (req b).2.2.2 u ∧ Below w.heap.size w w' := by
  obtain ⟨WA, hWA⟩ : ∃ WA, WA = w.alloc (.cells #[.int .u8 0, .int .u8 0, .int .u8 0, .int .u8 0, .string ⟨#[]⟩, .int .i64 0] 47) := ⟨_, rfl⟩
  have hbA : Below w.heap.size w WA := by rw [hWA]; exact (Below.refl _ _).alloc (Nat.le_refl _) _
  have hrA : WA.heap[w.heap.size]? = some (.cells #[.int .u8 0, .int .u8 0, .int .u8 0, .int .u8 0, .string ⟨#[]⟩, .int .i64 0] 47) := by rw [hWA]; exact alloc_new _ _
  have HR := hide (readTo_at a n c b WA (h.below hbA) (hV.below hbA))
  have BA := hide hbA
  have RA := hide hrA
  have HWA := hide hWA.symm
  clear h hV hWA hbA hrA
  go_enter Tryd.func15, Tryd.ntmps15
  go_wp2_with fail
  rw [HWA.out]
  refine HR.out.mono ?_
  rintro e w1 ⟨u, rfl, hf, hb⟩
  unfold reqV
  obtain ⟨q, A, nm, pt, K, er, hE⟩ : ∃ q A nm pt K er, req b = (q, (A, nm, pt), K, er) := ⟨_, _, _, _, _, _, rfl⟩
  have HE := hide hE
  rw [hE] at hf ⊢
  simp only [deV_deC]
  have r1 : w1.heap[w.heap.size]? = some (.cells #[.int .u8 0, .int .u8 0, .int .u8 0, .int .u8 0, .string ⟨#[]⟩, .int .i64 0] 47) := keepB hb RA.out
  obtain ⟨W2, hW2⟩ : ∃ W2, W2 = w1.setRow w.heap.size (deC A (strN nm) (pt : Nat)) := ⟨_, rfl⟩
  have R1 := hide r1
  have R2 : Hid (W2.heap[w.heap.size]? = some (.cells (deC A (strN nm) (pt : Nat)) 47)) := by rw [hW2]; exact setRow_heap _ _ _ _ _ r1
  have B2 : Hid (Below w.heap.size w W2) := by rw [hW2]; exact below_setRow (BA.out.trans (hb.mono BA.out.size)) (Nat.le_refl _) _
  have F2 : Hid (IsF W2 er u) := by
    rw [hW2]
    refine hf.keep fun i C hi => setRow_ne _ _ _ _ fun ee => ?_
    subst ee; rw [r1] at hi; simp at hi
  have HW2 := hide hW2
  clear hf hb r1 hW2 hE
  go_wp2_with (first | (refine wpList_store_rowW rfl 47 _ _ rfl w.heap.size (deC A (strN nm) (pt : Nat)) rfl rfl 47 _ R1.out info47 rfl (deC_one _ _ _) W2 HW2.out ?_))
  refine bodyPost_ret (res_tctt rfl _ _ w.heap.size 47 (deC A (strN nm) (pt : Nat)) (0, 0) _ rfl R2.out Tryd.underlying47 rfl info47) rfl ⟨u, ?_, ?_, B2.out⟩
  · unfold reqV; rw [HE.out]; rfl
  · rw [HE.out]; exact F2.out
set_option maxRecDepth 100000 in
set_option maxHeartbeats 2000000 in
theorem reply_at (a : Option Addr) (n c : Nat) (b : List Nat) (w : World) (h : Src w a n c b) (hV : Vars w) :
    Calls Tryd.prog 17 #[.slice a n c] w fun e w' => ∃ u, e = .returned (reqV b u) ∧ IsF w' (req b).2.2.2 u ∧ Below w.heap.size w w' := by
  obtain ⟨WA, hWA⟩ : ∃ WA, WA = w.alloc (.cells #[.int .u8 0, .int .u8 0, .int .u8 0, .int .u8 0, .string ⟨#[]⟩, .int .i64 0] 47) := ⟨_, rfl⟩
  have hbA : Below w.heap.size w WA := by rw [hWA]; exact (Below.refl _ _).alloc (Nat.le_refl _) _
  have hrA : WA.heap[w.heap.size]? = some (.cells #[.int .u8 0, .int .u8 0, .int .u8 0, .int .u8 0, .string ⟨#[]⟩, .int .i64 0] 47) := by rw [hWA]; exact alloc_new _ _
  have HR := hide (readTo_at a n c b WA (h.below hbA) (hV.below hbA))
  have BA := hide hbA
  have RA := hide hrA
  have HWA := hide hWA.symm
  clear h hV hWA hbA hrA
  go_enter Tryd.func17, Tryd.ntmps17
  go_wp2_with fail
  rw [HWA.out]
  refine HR.out.mono ?_
  rintro e w1 ⟨u, rfl, hf, hb⟩
  unfold reqV
  obtain ⟨q, A, nm, pt, K, er, hE⟩ : ∃ q A nm pt K er, req b = (q, (A, nm, pt), K, er) := ⟨_, _, _, _, _, _, rfl⟩
  have HE := hide hE
  rw [hE] at hf ⊢
  simp only [deV_deC]
  have r1 : w1.heap[w.heap.size]? = some (.cells #[.int .u8 0, .int .u8 0, .int .u8 0, .int .u8 0, .string ⟨#[]⟩, .int .i64 0] 47) := keepB hb RA.out
  obtain ⟨W2, hW2⟩ : ∃ W2, W2 = w1.setRow w.heap.size (deC A (strN nm) (pt : Nat)) := ⟨_, rfl⟩
  have R1 := hide r1
  have R2 : Hid (W2.heap[w.heap.size]? = some (.cells (deC A (strN nm) (pt : Nat)) 47)) := by rw [hW2]; exact setRow_heap _ _ _ _ _ r1
  have B2 : Hid (Below w.heap.size w W2) := by rw [hW2]; exact below_setRow (BA.out.trans (hb.mono BA.out.size)) (Nat.le_refl _) _
  have F2 : Hid (IsF W2 er u) := by
    rw [hW2]
    refine hf.keep fun i C hi => setRow_ne _ _ _ _ fun ee => ?_
    subst ee; rw [r1] at hi; simp at hi
  have HW2 := hide hW2
  clear hf hb r1 hW2 hE
  go_wp2_with (first | (refine wpList_store_rowW rfl 47 _ _ rfl w.heap.size (deC A (strN nm) (pt : Nat)) rfl rfl 47 _ R1.out info47 rfl (deC_one _ _ _) W2 HW2.out ?_))
  refine bodyPost_ret (res_tctt rfl _ _ w.heap.size 47 (deC A (strN nm) (pt : Nat)) (0, 0) _ rfl R2.out Tryd.underlying47 rfl info47) rfl ⟨u, ?_, ?_, B2.out⟩
  · unfold reqV; rw [HE.out]; rfl
  · rw [HE.out]; exact F2.out
end Go.Proofs.YtefgjmijbedbkaaDoor
