/-
  The reader of package five: port, dest, and what is read of a request; conditions as each theorem has them.
-/
import Derived.Test.YtefgjmijbedbkaaDoorU
import Derived.Test.YtefgjmijbedbkaaDoorW
import Derived.Deep.RegionWith
import Derived.Deep.DrawnRows
set_option linter.unusedSimpArgs false
set_option linter.unusedVariables false
namespace Go.Proofs.YtefgjmijbedbkaaDoor
open Go.RowKit

theorem or_i64 (a b : Nat) (ha : a < 256) (hb : b < 256) : bits .or .i64 ((a : Int) * 256) (b : Int) = ((a * 256 + b : Nat) : Int) := by
  have e : (a : Int) * 256 = ((a * 256 : Nat) : Int) := by omega
  rw [e]
  have ho : (a * 256) ||| b = a * 256 + b := by
    have := Nat.two_pow_add_eq_or_of_lt (i := 8) (b := b) hb a
    rw [show (2 : Nat) ^ 8 * a = a * 256 by omega] at this
    exact this.symm
  have h1 : (BitVec.ofInt 64 ((a * 256 : Nat) : Int)).toNat = a * 256 := by
    rw [BitVec.ofInt_natCast, BitVec.toNat_ofNat]; exact Nat.mod_eq_of_lt (by omega)
  have h2 : (BitVec.ofInt 64 (b : Int)).toNat = b := by
    rw [BitVec.ofInt_natCast, BitVec.toNat_ofNat]; exact Nat.mod_eq_of_lt (by omega)
  show IntKind.i64.wrap ((BitVec.ofInt 64 ((a * 256 : Nat) : Int) ||| BitVec.ofInt 64 (b : Int)).toNat : Int) = _
  rw [BitVec.toNat_or, h1, h2, IntKind.wrap_i64, ho]
  omega
set_option maxHeartbeats 1000000 in
theorem port_at (g : Nat) (a : Option Addr) (n c : Nat) (b : List Nat) (s : Sr) (w : World) (h : Rdr w g a n c b s) :
    Calls Tryd.prog 68 #[.pointer (some ⟨g, 0, none⟩)] w fun e w' => e = .returned (.int .i64 (ptV b s : Nat)) ∧ Rdr w' g a n c b (tkS b 1 (tkS b 1 s)) ∧ Kept g g w w' := by
  have HT := hide (next_at g a n c b s w h)
  have hlt := nx_lt h.src.byte s
  have hlt2 := nx_lt h.src.byte (tkS b 1 s)
  have HP : Hid (ptV b s = nxV b s * 256 + nxV b (tkS b 1 s)) := rfl
  clear h
  obtain ⟨p, hp⟩ : ∃ p, p = nxV b s := ⟨_, rfl⟩
  obtain ⟨q, hq⟩ : ∃ q, q = nxV b (tkS b 1 s) := ⟨_, rfl⟩
  have HB := hide (or_i64 p q (by omega) (by omega))
  rw [← hp, ← hq] at HP
  rw [← hp] at HT hlt
  rw [← hq] at hlt2
  have HQ := hide hq
  clear hp hq
  go_enter Tryd.func68, Tryd.ntmps68
  go_wp2_with fail
  refine HT.out.mono ?_
  rintro e w1 ⟨rfl, r1, k1⟩
  have HT2 := hide (next_at g a n c b _ w1 r1)
  have K1 := hide k1
  clear r1 k1
  rw [← HQ.out] at HT2
  go_wp2_with fail
  refine HT2.out.mono ?_
  rintro e w2 ⟨rfl, r2, k2⟩
  have R2 := hide r2
  have K2 := hide (K1.out.trans k2)
  clear r2 k2
  go_wp2_with fail
  go_ret
  refine ⟨?_, R2.out, K2.out⟩
  rw [HP.out, ← HB.out]
  rfl

theorem stS_ne (b : List Nat) (a c : Nat) (s : Sr) : (stS b a c s).2 ≠ .ok := by
  unfold stS
  split
  · simp
  · assumption
theorem tkS_ok {b : List Nat} {m : Nat} {s : Sr} (h : (tkS b m s).2 = .ok) : s.2 = .ok ∧ (tkS b m s).1 = s.1 + m ∧ s.1 + m ≤ b.length := by
  have h1 : s.2 = .ok := by
    apply Decidable.byContradiction
    intro hn
    rw [tkS_bad hn] at h
    exact hn h
  refine ⟨h1, ?_⟩
  unfold tkS at h ⊢
  rw [if_pos h1] at h ⊢
  by_cases h2 : s.1 + m ≤ b.length
  · rw [if_pos h2]; exact ⟨rfl, h2⟩
  · rw [if_neg h2] at h; exact absurd h (sh_ne b)
def deV (a : Ad) (n : ByteArray) (p : Int) : Value := .agg #[.int .u8 (a.1 : Nat), .int .u8 (a.2.1 : Nat), .int .u8 (a.2.2.1 : Nat), .int .u8 (a.2.2.2 : Nat), .string n, .int .i64 p]
def deC (a : Ad) (n : ByteArray) (p : Int) : Array Value := #[.int .u8 (a.1 : Nat), .int .u8 (a.2.1 : Nat), .int .u8 (a.2.2.1 : Nat), .int .u8 (a.2.2.2 : Nat), .string n, .int .i64 p]
theorem deV_deC (a : Ad) (n : ByteArray) (p : Int) : deV a n p = .agg (deC a n p) := rfl
theorem deC_one (a : Ad) (n : ByteArray) (p : Int) : (deC a n p).all (·.oneCell') = true := by simp [deC, Value.oneCell']

theorem Rdr.put {w : World} {g : Nat} {a : Option Addr} {n c : Nat} {b : List Nat} {s : Sr} (h : Rdr w g a n c b s) {r : Nat} {old : Array Value} (hr : w.heap[r]? = some (.cells old 47)) (hne : g ≠ r) (ho : Off a n r) (cs : Array Value) : Rdr (w.setRow r cs) g a n c b s := by
  obtain ⟨⟨v, t1, t2⟩, t3, t4, t5⟩ := h
  have kb : ∀ i, i ≠ r → (w.setRow r cs).heap[i]? = w.heap[i]? := fun i hi => setRow_ne _ _ _ _ hi
  refine ⟨⟨v, t1.keep (kb g hne), t2.keep fun i C hi => kb i fun ee => ?_⟩, t3.keep (fun h0 i o ei => kb i (ho h0 i o ei)) (by simp [World.setRow]), t4, t5⟩
  subst ee; rw [hr] at hi; simp at hi
theorem Kept.put {w w' : World} {g r : Nat} (h : Kept g g w w') (hr : w.heap.size ≤ r) (cs : Array Value) : Kept g g w (w'.setRow r cs) := by
  refine ⟨h.os, h.tape, h.output, by simp [World.setRow]; exact h.size, fun i hi h1 h2 => ?_⟩
  rw [setRow_ne _ _ _ _ (by omega)]
  exact h.block i hi h1 h2
attribute [local go_sem ↓] run_op45 run_opst47 Go.wp_at_zero Go.wp_at_succ
attribute [local go_sem] rowOf_drew isRow_drew arrAt_ptr isAt_ptr putAt_ptr canPut_drew setRow_drew
set_option maxRecDepth 100000 in
set_option maxHeartbeats 4000000 in
theorem dest_at (g : Nat) (a : Option Addr) (n c : Nat) (b : List Nat) (s : Sr) (w : World) (h : Rdr w g a n c b s) (hg : 0 < g) (hV : Vars w) :
    Calls Tryd.prog 62 #[.pointer (some ⟨g, 0, none⟩)] w fun e w' => e = .returned (deV (dsV b s).1 (strN (dsV b s).2.1) (dsV b s).2.2) ∧ Rdr w' g a n c b (dsS b s) ∧ Kept g g w w' := by
  have H := hide h
  have HV := hide hV
  have hgl := h.lt
  have hlt := nx_lt h.src.byte s
  have c1 : w.cell? ⟨g, 1, none⟩ = some (.int .i64 (s.1 : Nat)) := by obtain ⟨⟨v, h1, h2⟩, _⟩ := h; exact h1.cell 1
  clear h hV
  obtain ⟨W0, hW0⟩ : ∃ W0, W0 = w.alloc (.cells #[.int .u8 0, .int .u8 0, .int .u8 0, .int .u8 0, .string ⟨#[]⟩, .int .i64 0] 47) := ⟨_, rfl⟩
  have hb0 : Below w.heap.size w W0 := by rw [hW0]; exact (Below.refl _ _).alloc (Nat.le_refl _) _
  have hr0 : W0.heap[w.heap.size]? = some (.cells #[.int .u8 0, .int .u8 0, .int .u8 0, .int .u8 0, .string ⟨#[]⟩, .int .i64 0] 47) := by rw [hW0]; exact alloc_new _ _
  have HT := hide (next_at g a n c b s W0 (H.out.below hb0))
  have V0 := hide (HV.out.below hb0)
  have B0 := hide hb0
  have R0 := hide hr0
  have HW0 := hide hW0.symm
  have hgW : g < W0.heap.size := Nat.lt_of_lt_of_le hgl hb0.size
  clear hb0 hr0 hW0
  obtain ⟨q, hq⟩ : ∃ q, q = nxV b s := ⟨_, rfl⟩
  rw [← hq] at HT hlt
  by_cases h3 : q = 3
  · have HK : Hid (kdS b s = cdS b 253 (tkS b 1 s)) := by show _ = _; unfold kdS; rw [← hq, if_pos h3]
    have HN : Hid (kdN b s = nxV b (tkS b 1 s)) := by show _ = _; unfold kdN; rw [← hq, if_pos h3]
    have HQ := hide hq
    have q3 : ((q : Int) == 3) = true := by simp; omega
    clear hq h3
    go_enter Tryd.func62, Tryd.ntmps62
    go_wp2_with fail
    rw [HW0.out]
    refine HT.out.mono ?_
    rintro e w1 ⟨rfl, r1, k1⟩
    have HC := hide (count_at g a n c b _ 253 w1 r1)
    have hl2 := nx_lt r1.src.byte (tkS b 1 s)
    have K1 := hide k1
    obtain ⟨m, hm⟩ : ∃ m, m = nxV b (tkS b 1 s) := ⟨_, rfl⟩
    rw [← hm] at HC hl2
    have HM := hide hm
    clear r1 k1 c1 hm
    go_wp2_with fail
    refine HC.out.mono ?_
    rintro e w2 ⟨rfl, r2, k2⟩
    have HTK := hide (take_at g a n c b _ m w2 r2 (by omega))
    have K2 := hide (K1.out.trans k2)
    clear r2 k2
    go_wp2_with fail
    refine HTK.out.mono ?_
    rintro e w3 ⟨x, l, y, rfl, r3, k3, p3⟩
    have K3 := hide (K2.out.trans k3)
    have HKS : Hid (kdS b s = tkS b m (cnS b 253 (tkS b 1 s))) := by show _ = _; rw [HK.out, HM.out]; rfl
    rw [← HKS.out] at r3 p3
    have P3 : Hid ((kdS b s).2 = .ok → Src w3 x l y (pc b ((kdS b s).1 - kdN b s) (kdN b s)) ∧ Off x l g ∧ (q = 1 → l = 4) ∧ l ≤ (kdS b s).1 ∧ l ≤ 255) := fun hok => by
      obtain ⟨rfl, e2, e3⟩ := p3 hok
      have ht : (tkS b l (cnS b 253 (tkS b 1 s))).2 = .ok := by rw [← HKS.out]; exact hok
      have hx := (tkS_ok ht).2.1
      rw [← HKS.out] at hx
      rw [HN.out, ← HM.out, hx, Nat.add_sub_cancel]
      exact ⟨e2, e3, fun e => by simp at q3; omega, by omega, by omega⟩
    have HH := hide (host_at g a n c b (kdS b s) q x l y (pc b ((kdS b s).1 - kdN b s) (kdN b s)) w3 r3 hg (V0.out.kept K3.out hg) hlt P3.out)
    clear r3 k3 p3 P3
    obtain ⟨A, nm, hA⟩ : ∃ A nm, hsV q (pc b ((kdS b s).1 - kdN b s) (kdN b s)) (kdS b s) = (A, nm) := ⟨_, _, rfl⟩
    rw [hA] at HH
    have HA := hide hA
    clear hA
    simp only [hoV_hoC] at HH
    go_wp2_with fail
    refine HH.out.mono ?_
    rintro e w4 ⟨rfl, r4, k4⟩
    have K4 := hide (K3.out.trans k4)
    have R4 := hide r4
    have hz4 := r4.lt
    obtain ⟨W5, hW5⟩ : ∃ W5, W5 = (w4.alloc (.cells #[.int .u8 0, .int .u8 0, .int .u8 0, .int .u8 0, .string ⟨#[]⟩] 45)).setRow w4.heap.size (hoC A (strN nm)) := ⟨_, rfl⟩
    have z5 : (w4.alloc (.cells #[.int .u8 0, .int .u8 0, .int .u8 0, .int .u8 0, .string ⟨#[]⟩] 45)).heap[w4.heap.size]? = some (.cells #[.int .u8 0, .int .u8 0, .int .u8 0, .int .u8 0, .string ⟨#[]⟩] 45) := alloc_new _ _
    have b5 : Below w4.heap.size w4 W5 := by rw [hW5]; exact below_setRow ((Below.refl _ _).alloc (Nat.le_refl _) _) (Nat.le_refl _) _
    have h5 : W5.heap[w4.heap.size]? = some (.cells (hoC A (strN nm)) 45) := by rw [hW5]; exact setRow_heap _ _ _ _ _ z5
    have HP := hide (port_at g a n c b _ W5 (R4.out.below b5))
    have HRD := hide (R4.out.below b5).drew
    have K5 := hide (K4.out.trans (Kept.of_below b5))
    have Z5 := hide z5
    have H5 := hide h5
    have HW5 := hide hW5
    clear r4 k4 z5 b5 h5 hW5
    go_wp2_with (first | (refine wpList_store_rowW rfl 45 _ _ rfl w4.heap.size (hoC A (strN nm)) rfl rfl 45 _ Z5.out info45 rfl (hoC_one _ _) W5 HW5.out ?_))
    have i5 : isRow W5 w4.heap.size 5 = true := isRow_of H5.out rfl
    have j5 : rowOf W5 w4.heap.size = #[.int .u8 (A.1 : Nat), .int .u8 (A.2.1 : Nat), .int .u8 (A.2.2.1 : Nat), .int .u8 (A.2.2.2 : Nat), .string (strN nm)] := rowOf_of H5.out
    have hw5 : w4.heap.size < W5.heap.size := lt_of_some H5.out
    have HDS : Hid (hsS q (pc b ((kdS b s).1 - kdN b s) (kdN b s)) (kdS b s) = dsH b s) := by show _ = _; rw [HQ.out]; rfl
    rw [HDS.out] at HRD
    have HPA : Hid (∀ w', Kept g g W5.drew w' → w'.heap[w4.heap.size]? = some (.cells (hoC A (strN nm)) 45) ∧ w'.heap[w.heap.size]? = some (.cells #[.int .u8 0, .int .u8 0, .int .u8 0, .int .u8 0, .string ⟨#[]⟩, .int .i64 0] 47) ∧ Kept g g W0 w') := fun w' k' => by
      have kk := K5.out.trans k'.of_drew
      exact ⟨k'.of_drew.at_ H5.out (by omega) (by omega), kk.at_ R0.out (by omega) (by omega), kk⟩
    obtain ⟨pt, hpt⟩ : ∃ pt, pt = ptV b (dsH b s) := ⟨_, rfl⟩
    have HPT := hide hpt
    have HPO := hide (port_at g a n c b (dsH b s) _ HRD.out)
    rw [← hpt] at HPO
    clear hpt
    go_region_with (first
      | (go_at_call 68; refine HPO.out.mono ?_; rintro e wp ⟨rfl, rp, kp⟩; have RP := hide rp; have HX := hide (HPA.out wp kp); have ip : isRow wp w4.heap.size 5 = true := isRow_of HX.out.1 rfl; have jp : rowOf wp w4.heap.size = #[.int .u8 (A.1 : Nat), .int .u8 (A.2.1 : Nat), .int .u8 (A.2.2.1 : Nat), .int .u8 (A.2.2.2 : Nat), .string (strN nm)] := rowOf_of HX.out.1; have cp : canPut 6 47 wp (.pointer (some ⟨w.heap.size, 0, none⟩)) (.agg #[.int .u8 (A.1 : Nat), .int .u8 (A.2.1 : Nat), .int .u8 (A.2.2.1 : Nat), .int .u8 (A.2.2.2 : Nat), .string (strN nm), .int .i64 (pt : Nat)]) = true := canPut_row HX.out.2.1 rfl rfl (deC_one A (strN nm) (pt : Nat)); clear rp kp))
    all_goals (obtain ⟨W6, hW6⟩ : ∃ W6, W6 = wp.setRow w.heap.size (deC A (strN nm) (pt : Nat)) := ⟨_, rfl⟩)
    all_goals (have R6 : Hid (W6.heap[w.heap.size]? = some (.cells (deC A (strN nm) (pt : Nat)) 47)) := (by rw [hW6]; exact setRow_heap _ _ _ _ _ HX.out.2.1))
    all_goals (have RD6 : Hid (Rdr W6 g a n c b (dsS b s)) := (by rw [hW6]; exact Rdr.put RP.out HX.out.2.1 (by omega) (H.out.src.off (Nat.le_refl _)) _))
    all_goals (have K6 : Hid (Kept g g w W6) := (by rw [hW6]; exact Kept.put ((Kept.of_below B0.out).trans HX.out.2.2) (Nat.le_refl _) _))
    all_goals (have HW6 : Hid (wp.setRow w.heap.size #[.int .u8 (A.1 : Nat), .int .u8 (A.2.1 : Nat), .int .u8 (A.2.2.1 : Nat), .int .u8 (A.2.2.2 : Nat), .string (strN nm), .int .i64 (pt : Nat)] = W6) := hW6.symm)
    all_goals (rw [HW6.out])
    all_goals (clear ip jp cp hW6 i5 j5)
    all_goals (go_wp2_with fail)
    all_goals (refine bodyPost_ret (results_cell_row rfl _ _ w.heap.size 47 (deC A (strN nm) (pt : Nat)) (0, 0) _ rfl R6.out Tryd.underlying47 rfl info47) rfl ⟨?_, RD6.out, K6.out⟩)
    all_goals (have HD : dsV b s = (A, nm, pt) := (by unfold dsV; rw [← HQ.out, HA.out, ← HPT.out]))
    all_goals (rw [HD]; rfl)
  by_cases h1 : q = 1
  · have HK : Hid (kdS b s = tkS b 4 (tkS b 1 s)) := by show _ = _; unfold kdS; rw [← hq, if_neg h3, if_pos h1]
    have HN : Hid (kdN b s = 4) := by show _ = _; unfold kdN; rw [← hq, if_neg h3]
    have HQ := hide hq
    have q3 : ((q : Int) == 3) = false := by simp; omega
    have q1 : ((q : Int) == 1) = true := by simp; omega
    clear hq h3 h1
    go_enter Tryd.func62, Tryd.ntmps62
    go_wp2_with fail
    rw [HW0.out]
    refine HT.out.mono ?_
    rintro e w1 ⟨rfl, r1, k1⟩
    have HTK := hide (take_at g a n c b _ 4 w1 r1 (by omega))
    have K2 := hide k1
    clear r1 k1 c1
    go_wp2_with fail
    refine HTK.out.mono ?_
    rintro e w3 ⟨x, l, y, rfl, r3, k3, p3⟩
    have K3 := hide (K2.out.trans k3)
    rw [← HK.out] at r3 p3
    have P3 : Hid ((kdS b s).2 = .ok → Src w3 x l y (pc b ((kdS b s).1 - kdN b s) (kdN b s)) ∧ Off x l g ∧ (q = 1 → l = 4) ∧ l ≤ (kdS b s).1 ∧ l ≤ 255) := fun hok => by
      obtain ⟨rfl, e2, e3⟩ := p3 hok
      have ht : (tkS b 4 (tkS b 1 s)).2 = .ok := by rw [← HK.out]; exact hok
      have hx := (tkS_ok ht).2.1
      rw [← HK.out] at hx
      rw [HN.out, hx, Nat.add_sub_cancel]
      exact ⟨e2, e3, fun _ => rfl, by omega, by omega⟩
    have HH := hide (host_at g a n c b (kdS b s) q x l y (pc b ((kdS b s).1 - kdN b s) (kdN b s)) w3 r3 hg (V0.out.kept K3.out hg) hlt P3.out)
    clear r3 k3 p3 P3
    obtain ⟨A, nm, hA⟩ : ∃ A nm, hsV q (pc b ((kdS b s).1 - kdN b s) (kdN b s)) (kdS b s) = (A, nm) := ⟨_, _, rfl⟩
    rw [hA] at HH
    have HA := hide hA
    clear hA
    simp only [hoV_hoC] at HH
    go_wp2_with fail
    refine HH.out.mono ?_
    rintro e w4 ⟨rfl, r4, k4⟩
    have K4 := hide (K3.out.trans k4)
    have R4 := hide r4
    have hz4 := r4.lt
    obtain ⟨W5, hW5⟩ : ∃ W5, W5 = (w4.alloc (.cells #[.int .u8 0, .int .u8 0, .int .u8 0, .int .u8 0, .string ⟨#[]⟩] 45)).setRow w4.heap.size (hoC A (strN nm)) := ⟨_, rfl⟩
    have z5 : (w4.alloc (.cells #[.int .u8 0, .int .u8 0, .int .u8 0, .int .u8 0, .string ⟨#[]⟩] 45)).heap[w4.heap.size]? = some (.cells #[.int .u8 0, .int .u8 0, .int .u8 0, .int .u8 0, .string ⟨#[]⟩] 45) := alloc_new _ _
    have b5 : Below w4.heap.size w4 W5 := by rw [hW5]; exact below_setRow ((Below.refl _ _).alloc (Nat.le_refl _) _) (Nat.le_refl _) _
    have h5 : W5.heap[w4.heap.size]? = some (.cells (hoC A (strN nm)) 45) := by rw [hW5]; exact setRow_heap _ _ _ _ _ z5
    have HP := hide (port_at g a n c b _ W5 (R4.out.below b5))
    have HRD := hide (R4.out.below b5).drew
    have K5 := hide (K4.out.trans (Kept.of_below b5))
    have Z5 := hide z5
    have H5 := hide h5
    have HW5 := hide hW5
    clear r4 k4 z5 b5 h5 hW5
    go_wp2_with (first | (refine wpList_store_rowW rfl 45 _ _ rfl w4.heap.size (hoC A (strN nm)) rfl rfl 45 _ Z5.out info45 rfl (hoC_one _ _) W5 HW5.out ?_))
    have i5 : isRow W5 w4.heap.size 5 = true := isRow_of H5.out rfl
    have j5 : rowOf W5 w4.heap.size = #[.int .u8 (A.1 : Nat), .int .u8 (A.2.1 : Nat), .int .u8 (A.2.2.1 : Nat), .int .u8 (A.2.2.2 : Nat), .string (strN nm)] := rowOf_of H5.out
    have hw5 : w4.heap.size < W5.heap.size := lt_of_some H5.out
    have HDS : Hid (hsS q (pc b ((kdS b s).1 - kdN b s) (kdN b s)) (kdS b s) = dsH b s) := by show _ = _; rw [HQ.out]; rfl
    rw [HDS.out] at HRD
    have HPA : Hid (∀ w', Kept g g W5.drew w' → w'.heap[w4.heap.size]? = some (.cells (hoC A (strN nm)) 45) ∧ w'.heap[w.heap.size]? = some (.cells #[.int .u8 0, .int .u8 0, .int .u8 0, .int .u8 0, .string ⟨#[]⟩, .int .i64 0] 47) ∧ Kept g g W0 w') := fun w' k' => by
      have kk := K5.out.trans k'.of_drew
      exact ⟨k'.of_drew.at_ H5.out (by omega) (by omega), kk.at_ R0.out (by omega) (by omega), kk⟩
    obtain ⟨pt, hpt⟩ : ∃ pt, pt = ptV b (dsH b s) := ⟨_, rfl⟩
    have HPT := hide hpt
    have HPO := hide (port_at g a n c b (dsH b s) _ HRD.out)
    rw [← hpt] at HPO
    clear hpt
    go_region_with (first
      | (go_at_call 68; refine HPO.out.mono ?_; rintro e wp ⟨rfl, rp, kp⟩; have RP := hide rp; have HX := hide (HPA.out wp kp); have ip : isRow wp w4.heap.size 5 = true := isRow_of HX.out.1 rfl; have jp : rowOf wp w4.heap.size = #[.int .u8 (A.1 : Nat), .int .u8 (A.2.1 : Nat), .int .u8 (A.2.2.1 : Nat), .int .u8 (A.2.2.2 : Nat), .string (strN nm)] := rowOf_of HX.out.1; have cp : canPut 6 47 wp (.pointer (some ⟨w.heap.size, 0, none⟩)) (.agg #[.int .u8 (A.1 : Nat), .int .u8 (A.2.1 : Nat), .int .u8 (A.2.2.1 : Nat), .int .u8 (A.2.2.2 : Nat), .string (strN nm), .int .i64 (pt : Nat)]) = true := canPut_row HX.out.2.1 rfl rfl (deC_one A (strN nm) (pt : Nat)); clear rp kp))
    all_goals (obtain ⟨W6, hW6⟩ : ∃ W6, W6 = wp.setRow w.heap.size (deC A (strN nm) (pt : Nat)) := ⟨_, rfl⟩)
    all_goals (have R6 : Hid (W6.heap[w.heap.size]? = some (.cells (deC A (strN nm) (pt : Nat)) 47)) := (by rw [hW6]; exact setRow_heap _ _ _ _ _ HX.out.2.1))
    all_goals (have RD6 : Hid (Rdr W6 g a n c b (dsS b s)) := (by rw [hW6]; exact Rdr.put RP.out HX.out.2.1 (by omega) (H.out.src.off (Nat.le_refl _)) _))
    all_goals (have K6 : Hid (Kept g g w W6) := (by rw [hW6]; exact Kept.put ((Kept.of_below B0.out).trans HX.out.2.2) (Nat.le_refl _) _))
    all_goals (have HW6 : Hid (wp.setRow w.heap.size #[.int .u8 (A.1 : Nat), .int .u8 (A.2.1 : Nat), .int .u8 (A.2.2.1 : Nat), .int .u8 (A.2.2.2 : Nat), .string (strN nm), .int .i64 (pt : Nat)] = W6) := hW6.symm)
    all_goals (rw [HW6.out])
    all_goals (clear ip jp cp hW6 i5 j5)
    all_goals (go_wp2_with fail)
    all_goals (refine bodyPost_ret (results_cell_row rfl _ _ w.heap.size 47 (deC A (strN nm) (pt : Nat)) (0, 0) _ rfl R6.out Tryd.underlying47 rfl info47) rfl ⟨?_, RD6.out, K6.out⟩)
    all_goals (have HD : dsV b s = (A, nm, pt) := (by unfold dsV; rw [← HQ.out, HA.out, ← HPT.out]))
    all_goals (rw [HD]; rfl)
  · have HK : Hid (kdS b s = stS b s.1 71 (tkS b 1 s)) := by show _ = _; unfold kdS; rw [← hq, if_neg h3, if_neg h1]
    have HQ := hide hq
    have q3 : ((q : Int) == 3) = false := by simp; omega
    have q1 : ((q : Int) == 1) = false := by simp; omega
    clear hq h3 h1
    go_enter Tryd.func62, Tryd.ntmps62
    go_wp2_with fail
    rw [HW0.out]
    refine HT.out.mono ?_
    rintro e w1 ⟨rfl, r1, k1⟩
    have HTK := hide (stop_at g a n c b _ s.1 71 w1 r1)
    have K2 := hide k1
    clear r1 k1 c1
    go_wp2_with fail
    refine HTK.out.mono ?_
    rintro e w3 ⟨rfl, r3, k3⟩
    have K3 := hide (K2.out.trans k3)
    rw [← HK.out] at r3
    have p3 : True := trivial
    obtain ⟨x, l, y, hx, hl, hy⟩ : ∃ (x : Option Addr) (l y : Nat), x = none ∧ l = 0 ∧ y = 0 := ⟨_, _, _, rfl, rfl, rfl⟩
    have P3 : Hid ((kdS b s).2 = .ok → Src w3 none 0 0 (pc b ((kdS b s).1 - kdN b s) (kdN b s)) ∧ Off none 0 g ∧ (q = 1 → 0 = 4) ∧ 0 ≤ (kdS b s).1 ∧ 0 ≤ 255) := fun hok => by
      rw [HK.out] at hok
      exact absurd hok (stS_ne _ _ _ _)
    have HH := hide (host_at g a n c b (kdS b s) q none 0 0 (pc b ((kdS b s).1 - kdN b s) (kdN b s)) w3 r3 hg (V0.out.kept K3.out hg) hlt P3.out)
    clear r3 k3 p3 P3
    obtain ⟨A, nm, hA⟩ : ∃ A nm, hsV q (pc b ((kdS b s).1 - kdN b s) (kdN b s)) (kdS b s) = (A, nm) := ⟨_, _, rfl⟩
    rw [hA] at HH
    have HA := hide hA
    clear hA
    simp only [hoV_hoC] at HH
    go_wp2_with fail
    refine HH.out.mono ?_
    rintro e w4 ⟨rfl, r4, k4⟩
    have K4 := hide (K3.out.trans k4)
    have R4 := hide r4
    have hz4 := r4.lt
    obtain ⟨W5, hW5⟩ : ∃ W5, W5 = (w4.alloc (.cells #[.int .u8 0, .int .u8 0, .int .u8 0, .int .u8 0, .string ⟨#[]⟩] 45)).setRow w4.heap.size (hoC A (strN nm)) := ⟨_, rfl⟩
    have z5 : (w4.alloc (.cells #[.int .u8 0, .int .u8 0, .int .u8 0, .int .u8 0, .string ⟨#[]⟩] 45)).heap[w4.heap.size]? = some (.cells #[.int .u8 0, .int .u8 0, .int .u8 0, .int .u8 0, .string ⟨#[]⟩] 45) := alloc_new _ _
    have b5 : Below w4.heap.size w4 W5 := by rw [hW5]; exact below_setRow ((Below.refl _ _).alloc (Nat.le_refl _) _) (Nat.le_refl _) _
    have h5 : W5.heap[w4.heap.size]? = some (.cells (hoC A (strN nm)) 45) := by rw [hW5]; exact setRow_heap _ _ _ _ _ z5
    have HP := hide (port_at g a n c b _ W5 (R4.out.below b5))
    have HRD := hide (R4.out.below b5).drew
    have K5 := hide (K4.out.trans (Kept.of_below b5))
    have Z5 := hide z5
    have H5 := hide h5
    have HW5 := hide hW5
    clear r4 k4 z5 b5 h5 hW5
    go_wp2_with (first | (refine wpList_store_rowW rfl 45 _ _ rfl w4.heap.size (hoC A (strN nm)) rfl rfl 45 _ Z5.out info45 rfl (hoC_one _ _) W5 HW5.out ?_))
    have i5 : isRow W5 w4.heap.size 5 = true := isRow_of H5.out rfl
    have j5 : rowOf W5 w4.heap.size = #[.int .u8 (A.1 : Nat), .int .u8 (A.2.1 : Nat), .int .u8 (A.2.2.1 : Nat), .int .u8 (A.2.2.2 : Nat), .string (strN nm)] := rowOf_of H5.out
    have hw5 : w4.heap.size < W5.heap.size := lt_of_some H5.out
    have HDS : Hid (hsS q (pc b ((kdS b s).1 - kdN b s) (kdN b s)) (kdS b s) = dsH b s) := by show _ = _; rw [HQ.out]; rfl
    rw [HDS.out] at HRD
    have HPA : Hid (∀ w', Kept g g W5.drew w' → w'.heap[w4.heap.size]? = some (.cells (hoC A (strN nm)) 45) ∧ w'.heap[w.heap.size]? = some (.cells #[.int .u8 0, .int .u8 0, .int .u8 0, .int .u8 0, .string ⟨#[]⟩, .int .i64 0] 47) ∧ Kept g g W0 w') := fun w' k' => by
      have kk := K5.out.trans k'.of_drew
      exact ⟨k'.of_drew.at_ H5.out (by omega) (by omega), kk.at_ R0.out (by omega) (by omega), kk⟩
    obtain ⟨pt, hpt⟩ : ∃ pt, pt = ptV b (dsH b s) := ⟨_, rfl⟩
    have HPT := hide hpt
    have HPO := hide (port_at g a n c b (dsH b s) _ HRD.out)
    rw [← hpt] at HPO
    clear hpt
    go_region_with (first
      | (go_at_call 68; refine HPO.out.mono ?_; rintro e wp ⟨rfl, rp, kp⟩; have RP := hide rp; have HX := hide (HPA.out wp kp); have ip : isRow wp w4.heap.size 5 = true := isRow_of HX.out.1 rfl; have jp : rowOf wp w4.heap.size = #[.int .u8 (A.1 : Nat), .int .u8 (A.2.1 : Nat), .int .u8 (A.2.2.1 : Nat), .int .u8 (A.2.2.2 : Nat), .string (strN nm)] := rowOf_of HX.out.1; have cp : canPut 6 47 wp (.pointer (some ⟨w.heap.size, 0, none⟩)) (.agg #[.int .u8 (A.1 : Nat), .int .u8 (A.2.1 : Nat), .int .u8 (A.2.2.1 : Nat), .int .u8 (A.2.2.2 : Nat), .string (strN nm), .int .i64 (pt : Nat)]) = true := canPut_row HX.out.2.1 rfl rfl (deC_one A (strN nm) (pt : Nat)); clear rp kp))
    all_goals (obtain ⟨W6, hW6⟩ : ∃ W6, W6 = wp.setRow w.heap.size (deC A (strN nm) (pt : Nat)) := ⟨_, rfl⟩)
    all_goals (have R6 : Hid (W6.heap[w.heap.size]? = some (.cells (deC A (strN nm) (pt : Nat)) 47)) := (by rw [hW6]; exact setRow_heap _ _ _ _ _ HX.out.2.1))
    all_goals (have RD6 : Hid (Rdr W6 g a n c b (dsS b s)) := (by rw [hW6]; exact Rdr.put RP.out HX.out.2.1 (by omega) (H.out.src.off (Nat.le_refl _)) _))
    all_goals (have K6 : Hid (Kept g g w W6) := (by rw [hW6]; exact Kept.put ((Kept.of_below B0.out).trans HX.out.2.2) (Nat.le_refl _) _))
    all_goals (have HW6 : Hid (wp.setRow w.heap.size #[.int .u8 (A.1 : Nat), .int .u8 (A.2.1 : Nat), .int .u8 (A.2.2.1 : Nat), .int .u8 (A.2.2.2 : Nat), .string (strN nm), .int .i64 (pt : Nat)] = W6) := hW6.symm)
    all_goals (rw [HW6.out])
    all_goals (clear ip jp cp hW6 i5 j5)
    all_goals (go_wp2_with fail)
    all_goals (refine bodyPost_ret (results_cell_row rfl _ _ w.heap.size 47 (deC A (strN nm) (pt : Nat)) (0, 0) _ rfl R6.out Tryd.underlying47 rfl info47) rfl ⟨?_, RD6.out, K6.out⟩)
    all_goals (have HD : dsV b s = (A, nm, pt) := (by unfold dsV; rw [← HQ.out, HA.out, ← HPT.out]))
    all_goals (rw [HD]; rfl)
end Go.Proofs.YtefgjmijbedbkaaDoor
