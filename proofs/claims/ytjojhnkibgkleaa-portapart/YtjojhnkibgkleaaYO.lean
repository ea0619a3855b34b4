/-
  The reference takes a datagram in; conditions as each theorem has them.
-/
import Derived.Test.YtjojhnkibgkleaaYN
import Derived.Test.YtjojhnkibgkleaaYJ
import Derived.Test.YtjojhnkibgkleaaO
set_option linter.unusedSimpArgs false
set_option linter.unusedVariables false
set_option maxRecDepth 8000
namespace Go.Proofs.Ytjojhnkibgkleaa
open Go.RowKit Go.Lib

variable {w : World} {S : Nat → Prop} {y eb ec : Nat} {ea : Option Addr} {bv ov : Value} {Y : Nat → Nat} {V : Nat → Value} {E : Nat → Nat} {P : Pt}
theorem box_step (h : IsRP w S y eb ec ea bv ov Y V E P) (d : ByteArray) (h8 : P.gr.length < 8) (W : World) (k : Below w.heap.size w W) (g cap tb : Nat) (hg : w.heap.size ≤ g) (hsrc : Src W (some ⟨g, 0, none⟩) d.size cap (bi d)) (hgc : ∃ cur f, W.heap[g]? = some (.cells cur 5 f)) (ht : W.cell? ⟨tb, 0, none⟩ = some (.slice (some ⟨g, 0, none⟩) d.size cap)) :
    W.cell? ⟨y, 3, none⟩ = some bv ∧ ∃ av cv w3, apOk Try.prog 51 bv (.slice (some ⟨tb, 0, none⟩) 1 1) W = true ∧ apV Try.prog 51 bv (.slice (some ⟨tb, 0, none⟩) 1 1) W = .slice av (P.gr.length + 1) cv ∧ apW Try.prog 51 bv (.slice (some ⟨tb, 0, none⟩) 1 1) W = w3 ∧
      w3.cell? ⟨y, 3, none⟩ = some bv ∧ w3.frozen? ⟨y, 3, none⟩ = false ∧ RPort (w3.setCell ⟨y, 3, none⟩ (.slice av (P.gr.length + 1) cv)) (grow S w (w3.setCell ⟨y, 3, none⟩ (.slice av (P.gr.length + 1) cv))) y { P with gr := P.gr ++ [d] } ∧ KeptS S w (w3.setCell ⟨y, 3, none⟩ (.slice av (P.gr.length + 1) cv)) := by
  obtain ⟨g0, g1, g2, g3, g4⟩ := h.cells
  have hW := h.below k
  obtain ⟨a, c, ebv⟩ : ∃ a c, bv = .slice a P.gr.length c := by
    obtain ⟨⟨a, bb, bo, c, e, _⟩, _⟩ := h.box
    exact ⟨a, c, e⟩
  have hbox := hW.box
  rw [ebv] at hbox
  obtain ⟨a', c', w3, hr, B⟩ := box_app hbox g cap d hsrc hgc tb ht h8
  obtain ⟨q1, q2, q3⟩ := ap_of hr
  rw [← ebv] at q1 q2 q3
  have hyl := lt_of_some h.head
  have tn : ∀ x cs t f, w.heap[x]? = some (Obj.cells cs t f) → t ≠ 45 → w3.heap[x]? = w.heap[x]? := fun x cs t f hx htt => by
    rw [B.block x (Nat.lt_of_lt_of_le (lt_of_some hx) k.size) (fun ⟨_, cur, f', hc⟩ => by
      rw [k.block x (lt_of_some hx), hx] at hc
      simp at hc
      exact htt hc.2.1), k.block x (lt_of_some hx)]
  have hy3 : w3.heap[y]? = w.heap[y]? := tn y _ _ _ h.head (by decide)
  have k3 : KeptS S w w3 := ⟨B.os.trans k.os, B.tape.trans k.tape, B.output.trans k.output, Nat.le_trans k.size B.size, fun x hx hn => by rw [B.block x (Nat.lt_of_lt_of_le hx k.size) (fun e => hn e.1), k.block x hx]⟩
  have hz : ∀ v, (w3.setCell ⟨y, 3, none⟩ v).heap.size = w3.heap.size := fun v => by simp [World.setCell]
  have gl : g < w3.heap.size := by
    obtain ⟨cur, f, hc⟩ := hgc
    exact Nat.lt_of_lt_of_le (lt_of_some hc) B.size
  obtain ⟨t1, t2⟩ := h.bxTurn (w3 := w3) (grow S w (w3.setCell ⟨y, 3, none⟩ (.slice a' (P.gr.length + 1) c'))) (fun _ hk => Or.inl hk) (.slice a' (P.gr.length + 1) c') (P.gr ++ [d]) (fun j => if j = P.gr.length then g else E j) k3 tn
    (fun x hx => by
      rcases hx with hx | hx
      · exact Nat.lt_of_lt_of_le (h.lt x hx) k3.size
      · rw [hz] at hx; exact hx.2) (by simp; omega)
    (by
      have hb2 := B.box.wide (T := grow S w (w3.setCell ⟨y, 3, none⟩ (.slice a' (P.gr.length + 1) c'))) (fun x hx => by
        rcases hx with hx | hx | hx
        · exact Or.inl hx
        · subst hx; exact Or.inr ⟨hg, by rw [hz]; exact gl⟩
        · exact Or.inr ⟨Nat.le_trans k.size hx.1, by rw [hz]; exact hx.2⟩)
      refine hb2.keep (fun x hx hcc => Below.heap_setCell _ _ _ _ ?_)
      have hyh := hy3.trans h.head
      rcases hcc with ⟨cur, f, hcc⟩ | ⟨m, hm, rfl⟩
      · exact ty_ne hcc hyh (by decide)
      · obtain ⟨cur, f, hcc⟩ := (hb2.own m hm).2
        exact ty_ne hcc hyh (by decide))
    (fun i j hi hj => by
      simp only [List.length_append, List.length_cons, List.length_nil] at hj
      by_cases e : j = P.gr.length
      · rw [if_pos e]
        intro e2
        have := h.lt _ ((h.sr i hi).2 g e2)
        omega
      · rw [if_neg e]
        exact h.bx i j hi (by omega))
    (h.ok.gr _ (by simp; omega))
  exact ⟨(k.cell (p := ⟨y, 3, none⟩) hyl).trans g3, a', c', w3, q1, q2, q3, by rw [World.cell?_of_block hy3, g3], by rw [World.frozen?_of_block hy3]; exact h.frozen 3, RPort.of t1, t2⟩
theorem conv_blk (t : ByteArray) (w : World) : ∃ cur f, (Lib.bytesWorld w 5 t).heap[w.heap.size]? = some (.cells cur 5 f) := by
  have hn := alloc_new w.drew (.cells (Lib.bytesCells w 5 t) 5)
  unfold Lib.bytesWorld World.freeze
  rw [if_neg (by decide)]
  show ∃ cur f, (((w.drew.alloc (.cells (Lib.bytesCells w 5 t) 5)).heap.modify w.heap.size _)[w.heap.size]?) = _
  rw [Array.getElem?_modify, if_pos rfl]
  have hn' : (w.drew.alloc (.cells (Lib.bytesCells w 5 t) 5)).heap[w.heap.size]? = some (.cells (Lib.bytesCells w 5 t) 5) := hn
  rw [hn']
  exact ⟨_, _, rfl⟩
attribute [local go_sem ↓] run_apX Go.wp_at_zero Go.wp_at_succ
set_option maxRecDepth 100000 in
set_option maxHeartbeats 1000000 in
theorem event8_r (h : IsRP w S y eb ec ea bv ov Y V E P) (e N : Int) (d : ByteArray) (hd : d.size ≤ maxLen) (ra : Option Addr) (rn rc : Nat) : EvR w S y P 8 e N d ra rn rc := by
  unfold EvR
  have hbx := ev_below w (.int .i64 8) (.int .i64 e) (.int .i64 N) (.string d) (.slice ra rn rc)
  have HBX := hide hbx
  have h1 := h.below hbx
  have H0 := hide h
  have H1 := hide h1
  obtain ⟨g0, g1, g2, g3, g4⟩ := h1.cells
  have hn := h.ok.n
  have hg8 := h.ok.g
  have hif : isF P 8 e N d = (decide (e = P.L.length) && decide (d.size ≤ 512)) := by simp [isF]
  obtain ⟨a, c, ebv⟩ : ∃ a c, bv = .slice a P.gr.length c := by
    obtain ⟨⟨a, bb, bo, c, e, _⟩, _⟩ := h.box
    exact ⟨a, c, e⟩
  by_cases he : e = P.L.length
  · by_cases hs : d.size ≤ 512
    · have hif : isF P 8 e N d = true := by rw [hif]; simp [he, hs]
      by_cases hb8 : P.gr.length = 8
      · have n1 : evN P 8 e N d = 0 := by simp [evN]
        have n2 : evC P 8 e N d = 4 := by simp [evC, hif, hb8]
        have n3 : evP P 8 e N d = P := by simp [evP, hif, hb8]
        rw [n1, n2, n3]
        subst ebv
        rw [hb8] at g3
        subst he
        clear h h1 n1 n2 n3 hif hbx hb8 hg8
        go_enter Try.func55, Try.ntmps55
        go_wp2_with fail
        go_ret2
        exact ⟨rfl, H0.out.stay HBX.out⟩
      · have n1 : evN P 8 e N d = 0 := by simp [evN]
        have n2 : evC P 8 e N d = 0 := by simp [evC, hif, hb8]
        have n3 : evP P 8 e N d = { P with gr := P.gr ++ [d] } := by simp [evP, hif, hb8]
        rw [n1, n2, n3]
        have HST := hide (fun W g cap tb k hg hsrc hgc ht => box_step H1.out d (by omega) W k g cap tb hg hsrc hgc ht)
        obtain ⟨W0, hW0⟩ : ∃ W0, W0 = w.alloc (.cells #[.int .i64 8, .int .i64 e, .int .i64 N, .string d, .slice ra rn rc] 33) := ⟨_, rfl⟩
        have cd : W0.cell? ⟨w.heap.size, 3, none⟩ = some (.string d) := by
          rw [hW0, show (w.alloc (.cells #[.int .i64 8, .int .i64 e, .int .i64 N, .string d, .slice ra rn rc] 33)).cell? ⟨w.heap.size, 3, none⟩ = _ from World.cell?_alloc_new w _ _ 3]
          rfl
        have g2' := g2
        have g3' := g3
        rw [← hW0] at H1 HBX g0 g1 g2 g3 g4 HST
        obtain ⟨W1, hW1⟩ : ∃ W1, W1 = Lib.bytesWorld W0.drew 5 d := ⟨_, rfl⟩
        obtain ⟨G, hG⟩ : ∃ G, G = W0.heap.size := ⟨_, rfl⟩
        obtain ⟨cap, hcap⟩ : ∃ cap, cap = grownCap W0.drew d.size 0 5 := ⟨_, rfl⟩
        have hcv : (convert 9 45 (.string d)).run Try.prog W0.drew = .ok (.slice (some ⟨G, 0, none⟩) d.size cap) W1 := by rw [hW1, hG, hcap]; exact run_conv d W0.drew
        have hz1 : W1.heap.size = G + 1 := by rw [hW1, hG, Lib.bytesWorld_size]; rfl
        have hsrc : Src W1 (some ⟨G, 0, none⟩) d.size cap (bi d) := by rw [hW1, hG, hcap]; exact conv_src d W0.drew hd
        have b1 : Below W0.heap.size W0 W1 := by rw [hW1]; exact ((Below.refl _ _).drew).trans (bytesW_below W0.drew d)
        have hb1 : ∃ cur f, W1.heap[G]? = some (.cells cur 5 f) := by rw [hW1, hG]; exact conv_blk d W0.drew
        obtain ⟨G1, hG1⟩ : ∃ G1, G1 = G + 1 := ⟨_, rfl⟩
        rw [← hG1] at hz1
        have b2 : Below W0.heap.size W0 (W1.alloc (.cells #[.slice (some ⟨G, 0, none⟩) d.size cap] 45)) := b1.alloc b1.size _
        have hs2 := hsrc.below ((Below.refl W1.heap.size W1).alloc (Nat.le_refl _) (.cells #[.slice (some ⟨G, 0, none⟩) d.size cap] 45))
        have ht : (W1.alloc (.cells #[.slice (some ⟨G, 0, none⟩) d.size cap] 45)).cell? ⟨G1, 0, none⟩ = some (.slice (some ⟨G, 0, none⟩) d.size cap) := by
          rw [← hz1, show (W1.alloc (.cells #[.slice (some ⟨G, 0, none⟩) d.size cap] 45)).cell? ⟨W1.heap.size, 0, none⟩ = _ from World.cell?_alloc_new W1 _ _ 0]
          rfl
        obtain ⟨k0, av, cv, w3, q1, q2, q3, q4, q5, q6, q7⟩ := HST.out _ G cap G1 b2 (by omega) hs2 (by obtain ⟨cur, f, hc⟩ := hb1; exact ⟨cur, f, alloc_old _ hc⟩) ht
        have k1 : W1.cell? ⟨y, 3, none⟩ = some bv := (b1.cell (p := ⟨y, 3, none⟩) (cell_lt g3)).trans g3
        obtain ⟨n, hnn⟩ : ∃ n, n = P.gr.length := ⟨_, rfl⟩
        rw [← hnn] at ebv hb8 hg8 q2 q6 q7
        have hn8 : n < 8 := by omega
        have HQ6 := hide q6
        have HQ7 := hide q7
        have HW0 := hide hW0.symm
        clear q6 q7 ht hs2 b2 hb1 b1 hsrc hG1 hcap hG hW1 hW0 HST hnn
        subst ebv
        subst he
        clear h h1 n1 n2 n3 hif hbx hb8 hg8
        go_enter Try.func55, Try.ntmps55
        go_wp2_with fail
        rw [HW0.out]
        clear g2' g3'
        go_region
        all_goals
          go_wp2_with fail
          go_ret2
          obtain ⟨eb', ec', ea', bv', ov', Y', V', E', h3⟩ := HQ6.out
          exact ⟨rfl, RPort.of (rgrow_from HBX.out.size h3), (KeptS.of_below HBX.out).trans HQ7.out (fun _ => Or.inl)⟩
    · obtain ⟨n1, n2, n3⟩ := ev_bad (P := P) (k := 8) (e := e) (N := N) (d := d) (by rw [hif]; simp [hs])
      rw [n1, n2, n3]
      have hs2 : 512 < d.size := by omega
      subst he
      clear h h1 n1 n2 n3 hif hbx
      go_enter Try.func55, Try.ntmps55
      go_wp2_with fail
      go_ret2
      exact ⟨rfl, H0.out.stay HBX.out⟩
  · obtain ⟨n1, n2, n3⟩ := ev_bad (P := P) (k := 8) (e := e) (N := N) (d := d) (by rw [hif]; simp [he])
    rw [n1, n2, n3]
    have d1 : (e != (P.L.length : Int)) = true := by simp [he]
    clear h h1 n1 n2 n3 hif hbx
    go_enter Try.func55, Try.ntmps55
    go_wp2_with fail
    go_ret2
    exact ⟨rfl, H0.out.stay HBX.out⟩

end Go.Proofs.Ytjojhnkibgkleaa
