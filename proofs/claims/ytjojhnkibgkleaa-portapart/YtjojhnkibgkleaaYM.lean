/-
  The reference takes bytes in; conditions as each theorem has them.
-/
import Derived.Test.YtjojhnkibgkleaaYJ
import Derived.Test.YtjojhnkibgkleaaH
set_option linter.unusedSimpArgs false
set_option linter.unusedVariables false
set_option maxRecDepth 8000
namespace Go.Proofs.Ytjojhnkibgkleaa
open Go.RowKit Go.Lib

variable {w : World} {S : Nat → Prop} {y eb ec : Nat} {ea : Option Addr} {bv ov : Value} {Y : Nat → Nat} {V : Nat → Value} {E : Nat → Nat} {P : Pt}
theorem rput_step (h : IsRP w S y eb ec ea bv ov Y V E P) {i : Nat} (hi : i < P.L.length) (d : ByteArray) (hd : d.size ≤ maxLen) (W : World) (k : Below w.heap.size w W) (g cap : Nat) (hg : w.heap.size ≤ g) (hsrc : Src (Lib.bytesWorld W 5 d) (some ⟨g, 0, none⟩) d.size cap (bi d)) :
    Calls Try.prog 85 #[.pointer (some ⟨Y i, 0, none⟩), .slice (some ⟨g, 0, none⟩) d.size cap] (Lib.bytesWorld W 5 d) fun x w' => x = .returned (.int .i64 (fits P.sz (at0 P.L i) d : Nat)) ∧ RPort w' (grow S w w') y { P with L := P.L.set i { at0 P.L i with q := (at0 P.L i).q ++ (bi d).take (fits P.sz (at0 P.L i) d) } } ∧ KeptS S w w' ∧ w'.heap[y]? = w.heap[y]? ∧ w'.heap[eb]? = w.heap[eb]? ∧ ∀ b, w.heap.size ≤ b → b < W.heap.size → w'.heap[b]? = W.heap[b]? := by
  have kW : Below w.heap.size w (Lib.bytesWorld W 5 d) := k.trans ((bytesW_below W d).mono k.size)
  have hW := h.below kW
  have hri := h.ring i hi
  obtain ⟨cy, ey⟩ := hri.head
  refine (rput_v (Y i) P.sz (at0 P.L i).q (V i) _ d.size _ (bi d) (fits P.sz (at0 P.L i) d) rfl _ (hW.ring i hi) hsrc (fun b o e h0 => ?_)).mono ?_
  · simp at e
    have e1 := e.1
    have l1 := h.lt _ (h.sr i hi).1
    refine ⟨by omega, fun e2 => ?_⟩
    have l2 := h.lt _ ((h.sr i hi).2 b e2)
    omega
  · rintro x w' ⟨v', rfl, hr, hv, kk⟩
    obtain ⟨t1, t2⟩ := hW.ringTurn hi kk hr hv
    obtain ⟨cr, er, _⟩ := (h.row (by omega)).2.1
    have nb : ∀ b cs t f, w.heap[b]? = some (Obj.cells cs t f) → t ≠ 108 → t ≠ 5 → w'.heap[b]? = w.heap[b]? := fun b cs t f hb h1 h2 => by
      rw [kk.block b (Nat.lt_of_lt_of_le (lt_of_some hb) kW.size) (fun e => ?_), kW.block b (lt_of_some hb)]
      rcases e with e | e
      · exact ty_ne hb ey h1 e
      · obtain ⟨c5, e5⟩ := hri.blk e
        exact ty_ne hb e5 h2 rfl
    refine ⟨rfl, RPort.of (rgrow_from kW.size t1), (KeptS.of_below kW).trans t2 (fun _ => Or.inl), nb y _ _ _ h.head (by decide) (by decide), nb eb _ _ _ er (by decide) (by decide), fun b hb1 hb2 => ?_⟩
    rw [kk.block b (by have := (bytesW_below W d).size; omega) (fun e => ?_), (bytesW_below W d).block b hb2]
    rcases e with e | e
    · have := h.lt _ (h.sr i hi).1; omega
    · have := h.lt _ ((h.sr i hi).2 b e); omega
set_option maxRecDepth 100000 in
set_option maxHeartbeats 1000000 in
theorem event2_r (h : IsRP w S y eb ec ea bv ov Y V E P) (e N : Int) (d : ByteArray) (hd : d.size ≤ maxLen) (ra : Option Addr) (rn rc : Nat) : EvR w S y P 2 e N d ra rn rc := by
  unfold EvR
  have hbx := ev_below w (.int .i64 2) (.int .i64 e) (.int .i64 N) (.string d) (.slice ra rn rc)
  have HBX := hide hbx
  have h1 := h.below hbx
  have HS := hide (stream_r h1 e)
  have H0 := hide h
  have H1 := hide h1
  have hif : isF P 2 e N d = str_ P e := by simp [isF]
  cases hs : str_ P e
  · obtain ⟨n1, n2, n3⟩ := ev_bad (P := P) (k := 2) (e := e) (N := N) (d := d) (by rw [hif, hs])
    rw [n1, n2, n3]
    rw [hs] at HS
    clear hs h h1 n1 n2 n3 hif hbx
    go_enter Try.func55, Try.ntmps55
    go_wp2_with fail
    refine HS.out.mono ?_
    rintro x w1 ⟨rfl, rfl⟩
    go_wp2_with fail
    go_ret2
    exact ⟨rfl, H0.out.stay HBX.out⟩
  · obtain ⟨i, rfl, hi⟩ := str_nat (str_s h.ok hs)
    rw [hs] at HS
    rw [hs] at hif
    obtain ⟨q2, ⟨c0, c1, c2, c3, c4, c5⟩, fr, hc1, hc2, hn⟩ := h1.end_ hi
    by_cases h0 : (at0 P.L i).st = 1
    · cases ho : (at0 P.L i).oth
      · obtain ⟨n1, n2, n3⟩ := ev_yes (P := P) (k := 2) (e := i) (N := N) (d := d) hif (by decide) (by simp [refu, h0, ho])
        rw [n1, n2, n3, Int.toNat_natCast]
        have hh : hap P.sz (at0 P.L i) 2 N d = { at0 P.L i with q := (at0 P.L i).q ++ (bi d).take (fits P.sz (at0 P.L i) d) } := by simp [hap]
        have hN0 : hapN P.sz (at0 P.L i) 2 d = fits P.sz (at0 P.L i) d := by simp [hapN]
        rw [hh, hN0]
        rw [h0] at c0
        rw [ho] at c3
        obtain ⟨F, hF⟩ : ∃ F, F = fits P.sz (at0 P.L i) d := ⟨_, rfl⟩
        rw [← hF]
        obtain ⟨K, hK⟩ : ∃ K, K = grownCap := ⟨_, rfl⟩
        have HPS := hide (fun W k g cap hg hsrc => rput_step H1.out hi d hd W k g cap hg hsrc)
        have HSRC : Hid (∀ (W : World) (g : Nat), W.heap.size = g → Src (Lib.bytesWorld W 5 d) (some ⟨g, 0, none⟩) d.size (grownCap W d.size 0 5) (bi d)) := fun W g hg => by
          subst hg
          exact conv_src d W hd
        rw [← hF] at HPS
        have c3' : (w.alloc (.cells #[.int .i64 2, .int .i64 i, .int .i64 N, .string d, .slice ra rn rc] 33)).cell? ⟨w.heap.size, 3, none⟩ = some (.string d) := by
          rw [show (w.alloc (.cells #[.int .i64 2, .int .i64 i, .int .i64 N, .string d, .slice ra rn rc] 33)).cell? ⟨w.heap.size, 3, none⟩ = _ from World.cell?_alloc_new w _ _ 3]
          rfl
        unfold rp at c5
        have hyb := cell_lt q2
        have heb := cell_lt c5
        have hwb := cell_lt c3'
        have hcv : ∀ W : World, (convert 9 45 (.string d)).run Try.prog W = .ok (.slice (some ⟨W.heap.size, 0, none⟩) d.size (grownCap W d.size 0 5)) (Lib.bytesWorld W 5 d) := fun W => run_conv d W
        have hmx := hd
        have HQ2 := hide q2
        have HC5 := hide c5
        have HC3 := hide c3'
        clear fr h0 ho hF hK
        clear hs h h1 n1 n2 n3 hif hbx hh hN0
        go_enter Try.func55, Try.ntmps55
        go_wp2_with fail
        refine HS.out.mono ?_
        rintro x w1 ⟨rfl, rfl⟩
        go_wp2_with fail
        go_region_held (fun w' => w'.cell? ⟨y, 2, none⟩ = some (.slice (some ⟨eb, 0, none⟩) P.L.length ec) ∧ w'.cell? ⟨eb, i * 6 + 5, none⟩ = some (.pointer (some ⟨Y i, 0, none⟩)) ∧ w'.cell? ⟨w.heap.size, 3, none⟩ = some (.string d)) (first | assumption | exact ⟨by assumption, by assumption, by assumption⟩ | (refine ⟨?_, ?_, ?_⟩ <;> rw [bytesW_cell (by first | exact hyb | exact heb | exact hwb)] <;> first | exact HQ2.out | exact HC5.out | exact HC3.out) | go_keep) (first | (go_at_call 85; refine (HPS.out _ ?_ _ _ ?_ (HSRC.out _ _ ?_)).mono ?_; exact (Below.refl _ _).drew; simp; simp; rintro x w3 ⟨rfl, h3, k3, g1, g2, g3⟩; have f1 : w3.cell? ⟨y, 2, none⟩ = some (.slice (some ⟨eb, 0, none⟩) P.L.length ec) := (World.cell?_of_block g1).trans HQ2.out; have f2 : w3.cell? ⟨eb, i * 6 + 5, none⟩ = some (.pointer (some ⟨Y i, 0, none⟩)) := (World.cell?_of_block g2).trans HC5.out; have f3 : w3.cell? ⟨w.heap.size, 3, none⟩ = some (.string d) := (World.cell?_of_block (k3.block w.heap.size hwb (fun s => absurd (H0.out.lt _ s) (Nat.lt_irrefl _)))).trans HC3.out; have H3 := hide h3; have K3 := hide k3; clear h3 k3 g1 g2 g3))
        all_goals
          go_wp2_with fail
          go_ret2
          obtain ⟨eb', ec', ea', bv', ov', Y', V', E', h3⟩ := H3.out
          exact ⟨rfl, RPort.of (rgrow_from HBX.out.size h3), (KeptS.of_below HBX.out).trans K3.out (fun _ => Or.inl)⟩
      · obtain ⟨n1, n2, n3⟩ := ev_no (P := P) (k := 2) (e := i) (N := N) (d := d) hif (by decide) (c := 150) (by simp [refu, h0, ho]) (by decide)
        rw [n1, n2, n3]
        rw [h0] at c0
        rw [ho] at c3
        clear fr h0 ho
        clear hs h h1 n1 n2 n3 hif hbx
        go_enter Try.func55, Try.ntmps55
        go_wp2_with fail
        refine HS.out.mono ?_
        rintro x w1 ⟨rfl, rfl⟩
        go_wp2_with fail
        go_ret2
        exact ⟨rfl, H0.out.stay HBX.out⟩
    · obtain ⟨n1, n2, n3⟩ := ev_no (P := P) (k := 2) (e := i) (N := N) (d := d) hif (by decide) (c := 150) (by simp [refu, h0]) (by decide)
      rw [n1, n2, n3]
      obtain ⟨s0, hs0⟩ : ∃ s0, s0 = (at0 P.L i).st := ⟨_, rfl⟩
      rw [← hs0] at c0 h0
      have hst : (s0 != 1) = true := by simp [h0]
      clear fr hs0
      clear hs h h1 n1 n2 n3 hif hbx
      go_enter Try.func55, Try.ntmps55
      go_wp2_with fail
      refine HS.out.mono ?_
      rintro x w1 ⟨rfl, rfl⟩
      go_wp2_with fail
      go_ret2
      exact ⟨rfl, H0.out.stay HBX.out⟩

end Go.Proofs.Ytjojhnkibgkleaa
