/-
  A call of a port beside the reference's; conditions as each theorem has them.
-/
import Derived.Test.YtjojhnkibgkleaaZF
set_option linter.unusedSimpArgs false
set_option linter.unusedVariables false
set_option maxRecDepth 8000
namespace Go.Proofs.Ytjojhnkibgkleaa
open Go.RowKit Go.Lib

variable {B : Nat} {w : World} {b y : Nat} {P : Pt}
/-- What was made between two worlds. -/
def fresh (w W : World) : Nat → Prop := fun k => w.heap.size ≤ k ∧ k < W.heap.size
theorem Two.fresh {Q : Pt} {W : World} (h : Two nob nob B w b y P Q) (k : Below w.heap.size w W) : Two (fresh w W) (fresh w W) B W b y P Q := (h.new k).less (fun _ e => e.1) (fun _ e => e.1)
theorem Two.more {X Z : Nat → Prop} {Q : Pt} {W : World} (h : Two X Z B w b y P Q) (k : Below w.heap.size w W) : Two X (fun j => Z j ∨ Ytjojhnkibgkleaa.fresh w W j) B W b y P Q := by
  obtain ⟨S, T, h1, ⟨eb, ec, ea, bv, ov, Y, V, E, h2⟩, h3, h4, h5⟩ := h
  exact ⟨S, T, h1.below k, RPort.of (h2.below k), h3, h4, fun j hj => ⟨(h5 j hj).1, fun x => x.elim (h5 j hj).2 (fun e => by have := h2.lt j hj; have := e.1; omega)⟩⟩
theorem bw1 (w : World) (t : ByteArray) : Below w.heap.size w (Lib.bytesWorld w.drew 5 t) := by
  have k := bytesW_below w.drew t
  exact ⟨k.os, k.tape, k.output, k.size, k.block⟩
theorem bw2 (w : World) (t : ByteArray) : Below w.heap.size w (Lib.bytesWorld (Lib.bytesWorld w.drew 5 t) 5 t) := (bw1 w t).trans ((bytesW_below _ _).mono (bw1 w t).size)
theorem bw3 (w : World) (t : ByteArray) : Below w.heap.size w (Lib.bytesWorld (Lib.bytesWorld w.drew 5 t).drew 5 t) := (bw1 w t).trans ((bw1 _ _).mono (bw1 w t).size)
theorem post_pW (h : Two nob nob B w b y P P) (hB : B ≤ w.heap.size) {W : World} (k : Below w.heap.size w W) {a : Option Addr} {n c : Nat} {l : List Int} (hs : Src W a n c l) (hlen : P.ou.length ≤ 1900000000000) : Calls Try.prog 16 #[.pointer (some ⟨b, 0, none⟩), .slice a n c] W fun x w' => x = .returned (.int .i64 (postC n)) ∧ Two (fresh w W) (fresh w W) B w' b y (postP P l) P ∧ KeptS (frm B (fresh w W)) W w' :=
  post_p2 (h.fresh k) (Nat.le_trans hB k.size) (fun _ e => e.2) a n c l hs hlen
theorem post_pV (h : Two nob nob B w b y P P) (hB : B ≤ w.heap.size) {W0 W : World} (k0 : Below w.heap.size w W0) (x : Ac) (hx : W0.heap[w.heap.size]? = some (boxA x)) (k : Below W0.heap.size W0 W) {a : Option Addr} {n c : Nat} {l : List Int} (hs : Src W a n c l) (hlen : P.ou.length ≤ 1900000000000) : Calls Try.prog 16 #[.pointer (some ⟨b, 0, none⟩), .slice a n c] W fun e w' => e = .returned (.int .i64 (postC n)) ∧ Two (fresh w W) (fresh w W) B w' b y (postP P l) P ∧ (∀ j, fresh w W j → j < w'.heap.size) ∧ Below B w w' ∧ B ≤ w'.heap.size ∧ fresh w W w.heap.size ∧ w.heap.size < w'.heap.size ∧ w'.cell? ⟨w.heap.size, 4, none⟩ = some (.string x.e.d) ∧ ∀ (a' : Option Addr) (c' : Nat), Src W a' n c' l → (∀ g o, a' = some ⟨g, o, none⟩ → w.heap.size ≤ g) → Src w' a' n c' l := by
  have k1 := k0.trans (k.mono k0.size)
  have hl := lt_of_some hx
  have hl2 := k.size
  refine (post_pW h hB k1 hs hlen).mono fun e w' ⟨e1, e2, e3⟩ => ⟨e1, e2, fun j q => Nat.lt_of_lt_of_le q.2 e3.size, (k1.mono hB).trans (e3.frm (Nat.le_trans hB k1.size)), Nat.le_trans hB (Nat.le_trans k1.size e3.size), ⟨Nat.le_refl _, by omega⟩, by have := e3.size; omega, ?_, fun a' c' q q2 => q.keepS e3 (fun g o h0 e4 t => t.2 ⟨q2 g o e4, q.lt h0 e4⟩)⟩
  exact (World.cell?_of_block (a := ⟨w.heap.size, 4, none⟩) ((e3.block w.heap.size (by omega) (fun q => q.2 ⟨Nat.le_refl _, by omega⟩)).trans (k.block w.heap.size hl))).trans (boxA_cells hx).2
theorem post_rW {X Z : Nat → Prop} {Q : Pt} (h : Two X Z B w b y P Q) (hB : B ≤ w.heap.size) (hZ : ∀ k, Z k → k < w.heap.size) {W : World} (k : Below w.heap.size w W) {a : Option Addr} {n c : Nat} {l : List Int} (hs : Src W a n c l) (hlen : Q.ou.length ≤ 1900000000000) : Calls Try.prog 64 #[.pointer (some ⟨y, 0, none⟩), .slice a n c] W fun x w' => x = .returned (.int .i64 (postC n)) ∧ Two nob nob B w' b y P (postP Q l) ∧ Below B w w' ∧ ∀ j, Z j → w'.heap[j]? = w.heap[j]? :=
  (post_r2 (h.below k) (Nat.le_trans hB k.size) (fun j e => Nat.lt_of_lt_of_le (hZ j e) k.size) a n c l hs hlen).mono fun x w' ⟨e1, e2, e3⟩ => ⟨e1, e2.mono, (k.mono hB).trans (e3.frm (Nat.le_trans hB k.size)), fun j hj => (e3.block j (Nat.lt_of_lt_of_le (hZ j hj) k.size) (fun q => q.2 hj)).trans (k.block j (hZ j hj))⟩
set_option maxRecDepth 100000 in
set_option maxHeartbeats 1000000 in
theorem play_post (h : Two nob nob B w b y P P) (hB : B ≤ w.heap.size) (x : Ac) (hx : x.In) (hlen : P.ou.length ≤ 1900000000000) (am : Am x.k 12) : Calls Try.prog 17 #[.pointer (some ⟨b, 0, none⟩), .pointer (some ⟨y, 0, none⟩), .agg x.cs.toArray] w (Played B w b y (postP P (bi x.e.d))) := by
  obtain ⟨k, ⟨ek, ee, eN, ed, ea, en, ec⟩, ⟨a1, a2, a3, a4, nm, po⟩⟩ := x
  obtain ⟨⟨hkb, heb, hNb, hdb⟩, hnm, _⟩ := hx
  simp only [] at *
  obtain ⟨X, hX⟩ : ∃ X : Nat → Prop, X = fun k => k = w.heap.size := ⟨_, rfl⟩
  have hXe : ∀ k, X k ↔ k = w.heap.size := fun k => by rw [hX]
  obtain ⟨W0, hW0⟩ : ∃ W0, W0 = (w.alloc (.cells #[.int .i64 k, .int .i64 ek, .int .i64 ee, .int .i64 eN, .string ed, .slice ea en ec, .int .u8 a1, .int .u8 a2, .int .u8 a3, .int .u8 a4, .string nm, .int .i64 po] 41)) := ⟨_, rfl⟩
  have bl0 : Below w.heap.size w W0 := by rw [hW0]; exact (Below.refl _ _).alloc (Nat.le_refl _) _
  have T0 : Hid (Two X X B W0 b y P P) := (h.new bl0).less (fun k e => by rw [(hXe k).1 e]; exact Nat.le_refl _) (fun k e => by rw [(hXe k).1 e]; exact Nat.le_refl _)
  have B0 : Hid (Below B w W0) := bl0.mono hB
  have hB0 : B ≤ W0.heap.size := Nat.le_trans hB bl0.size
  have x0 : W0.heap[w.heap.size]? = some (boxA ⟨k, ⟨ek, ee, eN, ed, ea, en, ec⟩, ⟨a1, a2, a3, a4, nm, po⟩⟩) := by rw [hW0]; exact alloc_new _ _
  have X0 := hide x0
  have TT := hide h
  have BL0 := hide bl0
  have hXX : X w.heap.size := (hXe _).2 rfl
  have l0 : ∀ k, X k → k < W0.heap.size := fun k e => by rw [(hXe k).1 e]; exact lt_of_some x0
  have HW0 : Hid ((w.alloc (.cells #[.int .i64 k, .int .i64 ek, .int .i64 ee, .int .i64 eN, .string ed, .slice ea en ec, .int .u8 a1, .int .u8 a2, .int .u8 a3, .int .u8 a4, .string nm, .int .i64 po] 41)) = W0) := hW0.symm
  have AM := hide am
  have HL := hide hlen
  have ND := hide hdb
  have NN := hide hnm
  have NB := hide hNb
  unfold Ac.cs
  clear h bl0 hW0 am hlen x0 hdb hnm hNb hXe hX
  go_enter Try.func17, Try.ntmps17
  go_wp2_with fail
  rw [HW0.out]
  refine (AM.out _).mono ?_
  rintro e wa ⟨rfl, rfl⟩
  obtain ⟨f3, f4⟩ := boxA_cells X0.out
  simp only [] at f3 f4
  clear f3 T0
  obtain ⟨C, hC⟩ : ∃ C : World → World, C = fun W => Lib.bytesWorld W 5 ed := ⟨_, rfl⟩
  have hcv : ∀ W : World, (convert 9 45 (.string ed)).run Try.prog W = .ok (.slice (some ⟨W.heap.size, 0, none⟩) ed.size (grownCap W ed.size 0 5)) (C W) := fun W => by rw [hC]; exact run_conv ed W
  have CB : Hid (∀ W, Below W.heap.size W (C W)) := fun W => by rw [hC]; exact bytesW_below W ed
  have CD : Hid (∀ W : World, Below W.heap.size W (C W.drew)) := fun W => by rw [hC]; exact bw1 W ed
  have CDD : Hid (∀ W : World, Below W.heap.size W (C (C W.drew))) := fun W => by rw [hC]; exact bw2 W ed
  have CS : Hid (∀ W, Src (C W) (some ⟨W.heap.size, 0, none⟩) ed.size (grownCap W ed.size 0 5) (bi ed)) := fun W => by rw [hC]; exact conv_src ed W ND.out
  have CZ : Hid (∀ W, (C W).heap.size = W.heap.size + 1) := fun W => by rw [hC]; exact Lib.bytesWorld_size W 5 ed
  have hbx : w.heap.size < W0.heap.size := l0 _ hXX
  have BW : Hid (∀ W, Below W0.heap.size W0 W → Below w.heap.size w W) := fun W k => BL0.out.trans (k.mono BL0.out.size)
  have HCB : Hid (∀ W W1, Below W0.heap.size W0 W → KeptS (frm B (fresh w W)) W W1 → W1.cell? ⟨w.heap.size, 4, none⟩ = some (.string ed)) := fun W W1 k k1 => by
    have h1 := k.size
    exact (World.cell?_of_block (a := ⟨w.heap.size, 4, none⟩) ((k1.block w.heap.size (by omega) (fun q => q.2 ⟨Nat.le_refl _, by omega⟩)).trans (k.block w.heap.size hbx))).trans f4
  clear hC
  go_wp2_with fail
  go_region_held (fun w' => w'.cell? ⟨w.heap.size, 4, none⟩ = some (.string ed)) (first | assumption | exact ((CB.out w1).cell (p := ⟨w.heap.size, 4, none⟩) hw1).trans g1 | exact ((CD.out W0).cell (p := ⟨w.heap.size, 4, none⟩) hbx).trans f4 | exact ((CDD.out W0).cell (p := ⟨w.heap.size, 4, none⟩) hbx).trans f4 | go_keep) (first
    | (go_at_call 64; refine ((post_rW T1.out hB1 L1.out (by first | exact Below.refl _ _ | exact CB.out _) (by first | exact CS.out _ | exact SK.out _ _ (CS.out _) (fun g o q => by simp at q; have h1 := (CD.out W0).size; omega) | exact SK.out _ _ ((CS.out _).below (CB.out _)) (fun g o q => by simp at q; omega)) HL.out).mono ?_); rintro e w2 ⟨rfl, t2, k2, z2⟩; have T2 := hide t2; have B2 := hide (B1.out.trans k2); have g2 := (World.cell?_of_block (a := ⟨w.heap.size, 4, none⟩) (z2 w.heap.size FX.out)).trans g1; clear t2 k2 z2)
    | (go_at_call 16; refine ((post_pV TT.out hB BL0.out ⟨k, ⟨ek, ee, eN, ed, ea, en, ec⟩, ⟨a1, a2, a3, a4, nm, po⟩⟩ X0.out (by first | exact CD.out W0 | exact CDD.out W0) (by first | exact CS.out _ | exact (CS.out _).below (CB.out _)) HL.out).mono ?_); rintro e w1 ⟨rfl, t1, l1, b1, hB1, fx, hw1, g1, sk⟩; have T1 := hide t1; have B1 := hide b1; have L1 := hide l1; have SK := hide sk; have FX := hide fx; clear t1 b1 l1 sk fx))
  all_goals
    go_wp2_with fail
    go_ret
    exact ⟨by first | rfl | simp, T2.out, B2.out⟩
end Go.Proofs.Ytjojhnkibgkleaa
