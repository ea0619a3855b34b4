/-
  A question is sent, and settled; A question is settled, and what is asked, stepped and taken; conditions as each theorem has them.
-/
import Derived.Test.YtabkelhipmijfaaGreatDoorJoinedGE
import Derived.Test.YtabkelhipmijfaaGreatDoorJoined11
set_option linter.unusedSimpArgs false
set_option linter.unusedVariables false
namespace Go.Proofs.YtabkelhipmijfaaGreatDoor
open Go.RowKit

variable {w : World} {S : Nat → Prop} {r t g : Nat} {qv pv : Value} {V : List Value} {R : Rs}
theorem Vars.keptS {w w' : World} {S : Nat → Prop} (h : Vars w) (k : KeptS S w w') (h0 : ¬ S 0) : Vars w' := by
  obtain ⟨m, hm⟩ := h
  have hl : 0 < w.heap.size := by simpa using Nm.lt_of_cell hm
  exact ⟨m, (World.cell?_of_block (k.block 0 hl h0)).trans hm⟩
theorem grow_zero {w w' : World} {S : Nat → Prop} (h : Vars w) (h0 : ¬ S 0) : ¬ grow S w w' 0 := by
  obtain ⟨m, hm⟩ := h
  have hl : 0 < w.heap.size := by simpa using Nm.lt_of_cell hm
  rintro (h1 | h1)
  · exact h0 h1
  · omega
theorem grow_from {a b c : World} (hB : a.heap.size ≤ b.heap.size) {r : Nat} {R : Rs} (h : Res c (grow S b c) r R) : Res c (grow S a c) r R := by
  obtain ⟨t, g, qv, pv, V, h⟩ := h
  exact Res.of (h.wide (fun k hk => by
    rcases hk with hk | hk
    · exact Or.inl hk
    · exact Or.inr ⟨Nat.le_trans hB hk.1, hk.2⟩) (fun k hk => by
    rcases hk with hk | hk
    · exact h.lt k (Or.inl hk)
    · exact hk.2))
theorem grow2 {a b c : World} (h1 : a.heap.size ≤ b.heap.size) (h2 : b.heap.size ≤ c.heap.size) {r : Nat} {R : Rs} (h : Res c (grow (grow S a b) b c) r R) : Res c (grow S a c) r R := by
  obtain ⟨t, g, qv, pv, V, h⟩ := h
  exact Res.of (h.wide (fun k hk => by
    rcases hk with (hk | hk) | hk
    · exact Or.inl hk
    · exact Or.inr ⟨hk.1, Nat.lt_of_lt_of_le hk.2 h2⟩
    · exact Or.inr ⟨Nat.le_trans h1 hk.1, hk.2⟩) (fun k hk => by
    rcases hk with hk | hk
    · exact h.lt k (Or.inl (Or.inl hk))
    · exact hk.2))
theorem KeptS.grow2 {a b c : World} (h1 : KeptS S a b) (h2 : KeptS (YtabkelhipmijfaaGreatDoor.grow S a b) b c) : KeptS S a c := h1.trans h2 (fun x hx => hx.elim Or.inl (fun y => Or.inr y.1))
theorem srcA_nm {w : World} {a : Option Addr} {n c : Nat} {l : List Ad} (h : SrcA w a n c l) : Nm.SrcA w a n c l := ⟨h.hlen, h.hcap, h.hmax, h.nil, h.lies, h.byte⟩
set_option maxRecDepth 100000 in
set_option maxHeartbeats 1000000 in
theorem send_at (h : IsRs w S r t g qv pv V R) (hV : Vars w) (h0 : ¬ S 0) {i : Nat} (hi : i < R.qs.length) (now draw : Int) (hn : nowOk now) (h3 : (qAt R.qs i).sent < 3) (hlen : R.ps.length ≤ 4000000000000) :
    Calls Tryz.prog 37 #[.pointer (some ⟨r, 0, none⟩), .int .i64 i, .int .i64 now, .int .i64 draw] w fun e w' => e = .returned (.tuple #[]) ∧ Res w' (grow S w w') r (snd R i now draw) ∧ KeptS S w w' := by
  obtain ⟨c0, c1, c2, c3⟩ := h.cells
  have hq := h.ok.at_ hi
  have hs0 := hq.s0
  obtain ⟨b, c, rfl, eb, hc1, hc2, _, dd⟩ := own_q h.qs hi
  have d0 := dd 0 (by omega)
  have d1 := dd 1 (by omega)
  have d2 := dd 2 (by omega)
  have d3 := dd 3 (by omega)
  rw [Nat.add_zero] at d0
  have hfb : ∀ o, w.frozen? ⟨b, o, none⟩ = false := fun o => by
    obtain ⟨cur, hc⟩ := own_block h.qs eb
    simp [World.frozen?, hc]
  have fb0 := hfb (i * 4)
  have fb2 := hfb (i * 4 + 2)
  have fb3 := hfb (i * 4 + 3)
  obtain ⟨D, hD⟩ : ∃ D, D = draw % 65536 := ⟨_, rfl⟩
  have hbits : bits .and .i64 draw 65535 = D := by rw [hD]; exact and_draw draw
  obtain ⟨N, hN⟩ : ∃ N, N = R.qs.length := ⟨_, rfl⟩
  have hiN : i < N := by omega
  have hN64 : N ≤ 64 := by have := h.ok.few; have := h.ok.most; omega
  obtain ⟨T1, K1⟩ := h.set3 hi D ((qAt R.qs i).sent + 1) (now + 4) (by omega) (by omega)
  have hR : snd R i now draw = { ({ R with qs := R.qs.set i ⟨D, (qAt R.qs i).nm, (qAt R.qs i).sent + 1, now + 4⟩ } : Rs) with ps := R.ps ++ [(putQr D (byt (qAt R.qs i).nm)).1] } := by rw [hD]; rfl
  rw [hR]
  obtain ⟨R1, hR1⟩ : ∃ R1, R1 = ({ R with qs := R.qs.set i ⟨D, (qAt R.qs i).nm, (qAt R.qs i).sent + 1, now + 4⟩ } : Rs) := ⟨_, rfl⟩
  rw [← hR1] at T1 ⊢
  have hps : R1.ps = R.ps := by rw [hR1]
  rw [← hps]
  have hlen1 : R1.ps.length ≤ 4000000000000 := by rw [hps]; exact hlen
  have hnm := hq.nm
  have hw1 : IntKind.i64.wrap (now + 4) = now + 4 := by unfold nowOk at hn; exact Nm.wrap_int _ (by omega) (by omega)
  generalize qAt R.qs i = q at d0 d1 d2 d3 h3 hs0 hnm T1 K1 hbits
  obtain ⟨id, nm, sent, again⟩ := q
  simp only [qC] at d0 d1 d2 d3 h3 hs0 hnm T1 K1
  have hw2 : IntKind.i64.wrap (sent + 1) = sent + 1 := Nm.wrap_int _ (by omega) (by omega)
  have hV1 := Vars.keptS hV K1 h0
  obtain ⟨W1, hW1⟩ : ∃ W1, W1 = (((w.setCell ⟨b, i * 4, none⟩ (.int .i64 D)).setCell ⟨b, i * 4 + 2, none⟩ (.int .i64 (sent + 1))).setCell ⟨b, i * 4 + 3, none⟩ (.int .i64 (now + 4))) := ⟨_, rfl⟩
  rw [← hW1] at T1 K1 hV1
  have HP := hide (pputQuestion_at D nm W1 (by unfold maxLen; omega) hV1)
  have HT1 := hide T1
  have HK1 := hide K1
  have HW1 := hide hW1.symm
  obtain ⟨PQ, hPQ⟩ : ∃ PQ, PQ = putQr D (byt nm) := ⟨_, rfl⟩
  rw [← hPQ] at HP ⊢
  clear h c0 c1 hD hR hR1 dd hfb hq hN hc1 T1 K1 hV1 hW1 hPQ hlen hps hV
  go_enter Tryz.func37, Tryz.ntmps37
  go_wp2_with fail
  rw [HW1.out]
  refine HP.out.mono ?_
  rintro x w2 ⟨v, rfl, ho, hb, k⟩
  have T2 : IsRs w2 (grow S W1 w2) r t g (.slice (some ⟨b, 0, none⟩) R.qs.length c) pv V R1 := (HT1.out.below k).grow
  have ho' : w2.ownsRow 0 5 1 v PQ.1.length (nums .u8 PQ.1) := own_base (by have := ho; unfold Own at this; rwa [nums_length] at this)
  have hf3 := T2.frozen 3
  obtain ⟨e0, e1, e2, e3⟩ := T2.cells
  have hu : ∀ x, v.ownBlock = some x → grow S W1 w2 x := fun x hx => Or.inr (by
    rcases ho.2 with ⟨rfl, _⟩ | ⟨y, cap, cur, rfl, hy, hh, _⟩
    · cases hx
    · simp [Value.ownBlock] at hx
      subst hx
      exact ⟨hy, Nm.lt_of_some hh⟩)
  obtain ⟨av, cv, w3, q1, q4, q5, q6, q7⟩ := post_step T2 v PQ.1 ho' hu hb (by omega)
  have K2 : Hid (KeptS S W1 w2) := KeptS.of_below k
  have HQ6 := hide q6
  have HQ7 := hide q7
  have hsz : Hid (w2.heap.size ≤ (w3.setCell ⟨r, 3, none⟩ (.slice av (R1.ps.length + 1) cv)).heap.size) := q7.size
  obtain ⟨M, hM⟩ : ∃ M, M = R1.ps.length := ⟨_, rfl⟩
  rw [← hM] at q1 HQ6 HQ7 hsz
  have HAP := hide q1
  have HKS : Hid (W1.heap.size ≤ w2.heap.size) := k.size
  obtain ⟨va, vc, rfl⟩ := own_shape ho'
  clear T2 hu ho ho' hb k q1 q6 q7 e0 e1 e2 hlen1 hM
  go_wp2_with (first | (at_builtin; refine wpList_app_run _ rfl _ _ 49 49 rfl pv (.slice (some ⟨w2.heap.size, 0, none⟩) 1 1) rfl rfl HAP.out ?_))
  go_end0
  exact ⟨rfl, grow_from HK1.out.size (grow2 HKS.out hsz.out HQ6.out), HK1.out.trans (KeptS.grow2 K2.out HQ7.out) (fun _ => Or.inl)⟩

end Go.Proofs.YtabkelhipmijfaaGreatDoor

set_option linter.unusedSimpArgs false
set_option linter.unusedVariables false
namespace Go.Proofs.YtabkelhipmijfaaGreatDoor
open Go.RowKit

variable {w : World} {S : Nat → Prop} {r t g : Nat} {qv pv : Value} {V : List Value} {R : Rs}
set_option maxRecDepth 100000 in
set_option maxHeartbeats 1000000 in
theorem settle_at (h : IsRs w S r t g qv pv V R) {i : Nat} (hi : i < R.qs.length) (now : Int) (a : Option Addr) (n c : Nat) (ads : List Ad) (life : Int) (hs : Nm.SrcA w a n c ads) :
    Calls Tryz.prog 44 #[.pointer (some ⟨r, 0, none⟩), .int .i64 i, .int .i64 now, .slice a n c, .int .i64 life] w fun e w' => e = .returned (.tuple #[]) ∧ Res w' (grow S w w') r (stl R i now ads life) ∧ KeptS S w w' := by
  obtain ⟨c0, c1, c2, c3⟩ := h.cells
  obtain ⟨b, cq, rfl, eb, hc1, hc2, _, dd⟩ := own_q h.qs hi
  have d1 := dd 1 (by omega)
  have hnm : (qAt R.qs i).nm.size ≤ 253 := (h.ok.at_ hi).nm
  have hR : stl R i now ads life = { ({ R with tab := Nm.put R.tab now (qAt R.qs i).nm ads life } : Rs) with qs := R.qs.eraseIdx i } := rfl
  rw [hR]
  have H := hide h
  have HSA := hide hs
  have HTB := hide h.tab
  have hok : ({ R with tab := Nm.put R.tab now (qAt R.qs i).nm ads life } : Rs).Ok := ⟨h.ok.most, h.ok.few, by show 1 ≤ (Nm.put _ _ _ _ _).length; rw [Nm.put_length]; exact h.ok.tl, h.ok.q⟩
  have HOK := hide hok
  have HST := hide hi
  have hN64 : R.qs.length ≤ 64 := by have := h.ok.few; have := h.ok.most; omega
  obtain ⟨N, hN⟩ : ∃ N, N = R.qs.length := ⟨_, rfl⟩
  have hiN : i < N := by omega
  have HN64 := hide hN64
  have hN' : N ≤ 64 := by omega
  have HNE := hide hN
  rw [← hN] at c2
  rw [← hN] at H
  have hcN : N ≤ cq ∧ cq ≤ 9223372036854775807 := by unfold maxLen at hc2; omega
  obtain ⟨q, hq⟩ : ∃ q, q = qAt R.qs i := ⟨_, rfl⟩
  rw [← hq] at d1 HOK hnm ⊢
  obtain ⟨id, nm, sent, again⟩ := q
  simp only [qC] at d1 HOK hnm ⊢
  clear h dd eb hR hok hi hN hq hN64 hc1 hc2 hs
  go_enter Tryz.func44, Tryz.ntmps44
  go_wp2_with fail
  go_region_with (go_at_call 71; refine (Nm.put_at t g R.tab now nm a n c ads life _ ?_ ?_).mono ?_; exact HTB.out.keep rfl rfl; exact HSA.out.keep (fun _ _ _ _ => rfl) (Nat.le_refl _); rintro x w1 ⟨rfl, ht1, k1⟩; have k1 := Nm.Kept.of_drewN (n := 1) k1; have T1 := H.out.turnT k1 _ ht1 HOK.out; have KK1 := hide (KeptS.of_nm (S := S) k1 H.out.sg H.out.sg); have HT1 := hide T1; clear T1 ht1 k1)
  all_goals
    obtain ⟨e0, e1, e2, e3⟩ := HT1.out.cells
    have f2 := HT1.out.frozen 2
    have HD := hide (delete_at (.slice (some ⟨b, 0, none⟩) N cq) R.qs i w1 HT1.out.qs HST.out HN64.out)
    have hw : ((i : Int) + 1) = ((i + 1 : Nat) : Int) := by omega
    have hcast : ((i + 1 : Nat) : Int) = (i : Int) + 1 := by omega
    rw [hcast] at HD
    clear hw hcast
    go_wp2_with fail
    refine HD.out.mono ?_
    rintro x w2 ⟨c2', b2, rfl, eb, ho, d, C, hw2⟩
    obtain rfl : b = b2 := by simpa [Value.ownBlock] using eb
    have hsz : w2.heap.size = w1.heap.size := by rw [hw2]; simp
    have hoth : ∀ x, x ≠ b → w2.heap[x]? = w1.heap[x]? := fun x hx => by rw [hw2, setRow_other _ _ _ _ hx]; rfl
    obtain ⟨cur, hcur⟩ := own_block HT1.out.qs (g := b) rfl
    have k2 : KeptS S w1 w2 := ⟨by rw [hw2]; rfl, by rw [hw2]; rfl, by rw [hw2]; rfl, Nat.le_of_eq hsz.symm, fun x hx hn => hoth x (fun e => hn (by subst e; exact HT1.out.sq _ rfl))⟩
    have nb : ∀ (x : Nat) (cs : Array Value) (ty : TypeId) (f : Nat × Nat), w1.heap[x]? = some (Obj.cells cs ty f) → ty ≠ 87 → w2.heap[x]? = w1.heap[x]? := fun x cs ty f hx hne => hoth x (ty_ne hx hcur hne)
    obtain ⟨U1, U2⟩ := HT1.out.turnQV (w3 := w2) (.slice (some ⟨b, 0, none⟩) (R.qs.length - 1) c2') (R.qs.eraseIdx i) k2 nb ho (fun x hx => by
      simp [Value.ownBlock] at hx
      subst hx
      exact Or.inl (HT1.out.sq _ rfl)) ⟨HOK.out.most, by
        have := HOK.out.few
        show (R.qs.eraseIdx i).length ≤ R.most
        have h2 : R.qs.length ≤ R.most := this
        rw [List.length_eraseIdx]
        split <;> omega, HOK.out.tl, fun q hq => HOK.out.q q (mem_eraseIdx hq)⟩
    have hr2 := nb _ _ _ _ HT1.out.head (by decide)
    have g2 : w2.cell? ⟨r, 2, none⟩ = some (.slice (some ⟨b, 0, none⟩) N cq) := by rw [World.cell?_of_block hr2]; exact e2
    have gf2 : w2.frozen? ⟨r, 2, none⟩ = false := by rw [World.frozen?_of_block hr2]; exact f2
    have HU1 := hide U1
    have HU2 := hide U2
    clear U1 U2 k2 nb hoth hw2 hsz hcur ho eb hr2 e0 e1 e2 e3 f2
    go_wp2_with fail
    go_end0
    exact ⟨rfl, grow_from KK1.out.size (Res.of HU1.out), KK1.out.trans HU2.out (fun _ => Or.inl)⟩

end Go.Proofs.YtabkelhipmijfaaGreatDoor
