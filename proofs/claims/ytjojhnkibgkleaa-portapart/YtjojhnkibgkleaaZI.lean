/-
  A call of a port beside the reference's; conditions as each theorem has them.
-/
import Derived.Test.YtjojhnkibgkleaaZH
set_option linter.unusedSimpArgs false
set_option linter.unusedVariables false
set_option maxRecDepth 8000
namespace Go.Proofs.Ytjojhnkibgkleaa
open Go.RowKit Go.Lib

variable {B : Nat} {w : World} {b y : Nat} {P : Pt}
theorem send_pV (h : Two nob nob B w b y P P) (hB : B ≤ w.heap.size) {W0 W : World} (k0 : Below w.heap.size w W0) (x : Ac) (hx : W0.heap[w.heap.size]? = some (boxA x)) (k : Below W0.heap.size W0 W) (e : Int) {a : Option Addr} {n c : Nat} {l : List Int} (hs : Src W a n c l) (ha : ∀ g o, a = some ⟨g, o, none⟩ → fresh w W g) (hlen : P.ou.length ≤ 1900000000000) : Calls Try.prog 29 #[.pointer (some ⟨b, 0, none⟩), .int .i64 e, .slice a n c] W fun q w' => q = .returned (.int .i64 (sendT P e n : Nat)) ∧ Two (fresh w W) (fresh w W) B w' b y (sendP P e l) P ∧ (∀ j, fresh w W j → j < w'.heap.size) ∧ Below B w w' ∧ B ≤ w'.heap.size ∧ fresh w W w.heap.size ∧ w.heap.size < w'.heap.size ∧ w'.cell? ⟨w.heap.size, 4, none⟩ = some (.string x.e.d) ∧ Src w' a n c l := by
  have k1 := k0.trans (k.mono k0.size)
  have hl := lt_of_some hx
  have hl2 := k.size
  refine (send_p2 (h.fresh k1) (Nat.le_trans hB k1.size) (fun _ e => e.2) e a n c l hs ha hlen).mono fun q w' ⟨e1, e2, e3⟩ => ⟨e1, e2, fun j q => Nat.lt_of_lt_of_le q.2 e3.size, (k1.mono hB).trans (e3.frm (Nat.le_trans hB k1.size)), Nat.le_trans hB (Nat.le_trans k1.size e3.size), ⟨Nat.le_refl _, by omega⟩, by have := e3.size; omega, ?_, hs.keepS e3 (fun g o h0 e4 t => t.2 (ha g o e4))⟩
  exact (World.cell?_of_block (a := ⟨w.heap.size, 4, none⟩) ((e3.block w.heap.size (by omega) (fun q => q.2 ⟨Nat.le_refl _, by omega⟩)).trans (k.block w.heap.size hl))).trans (boxA_cells hx).2
theorem send_rW {X Z : Nat → Prop} {Q : Pt} (h : Two X Z B w b y P Q) (hB : B ≤ w.heap.size) (hZ : ∀ k, Z k → k < w.heap.size) {W : World} (k : Below w.heap.size w W) (e : Int) {a : Option Addr} {n c : Nat} {l : List Int} (hs : Src W a n c l) (ha : ∀ g o, a = some ⟨g, o, none⟩ → fresh w W g) (hlen : Q.ou.length ≤ 1900000000000) : Calls Try.prog 59 #[.pointer (some ⟨y, 0, none⟩), .int .i64 e, .slice a n c] W fun x w' => x = .returned (.int .i64 (sendT Q e n : Nat)) ∧ Two nob nob B w' b y P (sendP Q e l) ∧ Below B w w' ∧ (∀ j, Z j → w'.heap[j]? = w.heap[j]?) ∧ w.heap.size ≤ w'.heap.size := by
  refine (send_r2 (h.more k) (Nat.le_trans hB k.size) (fun j q => q.elim (fun e => Nat.lt_of_lt_of_le (hZ j e) k.size) (fun e => e.2)) e a n c l hs (fun g o q => Or.inr (ha g o q)) hlen).mono fun x w' ⟨e1, e2, e3⟩ => ⟨e1, e2.mono, (k.mono hB).trans (e3.frm (Nat.le_trans hB k.size)), fun j hj => (e3.block j (Nat.lt_of_lt_of_le (hZ j hj) k.size) (fun q => q.2 (Or.inl hj))).trans (k.block j (hZ j hj)), Nat.le_trans k.size e3.size⟩
set_option maxRecDepth 100000 in
set_option maxHeartbeats 1000000 in
theorem play_send (h : Two nob nob B w b y P P) (hB : B ≤ w.heap.size) (x : Ac) (hx : x.In) (hlen : P.ou.length ≤ 1900000000000) (am : Am x.k 7) : Calls Try.prog 17 #[.pointer (some ⟨b, 0, none⟩), .pointer (some ⟨y, 0, none⟩), .agg x.cs.toArray] w (Played B w b y (sendP P x.e.e (bi x.e.d))) := by
  obtain ⟨k, ⟨ek, ee, eN, ed, ea, en, ec⟩, ⟨a1, a2, a3, a4, nm, po⟩⟩ := x
  obtain ⟨⟨hkb, heb, hNb, hdb⟩, hnm, _⟩ := hx
  simp only [] at *
  obtain ⟨X, hX⟩ : ∃ X : Nat → Prop, X = fun k => k = w.heap.size := ⟨_, rfl⟩
  have hXe : ∀ k, X k ↔ k = w.heap.size := fun k => by rw [hX]
  obtain ⟨W0, hW0⟩ : ∃ W0, W0 = (w.alloc (.cells #[.int .i64 k, .int .i64 ek, .int .i64 ee, .int .i64 eN, .string ed, .slice ea en ec, .int .u8 a1, .int .u8 a2, .int .u8 a3, .int .u8 a4, .string nm, .int .i64 po] 41)) := ⟨_, rfl⟩
  have bl0 : Below w.heap.size w W0 := by rw [hW0]; exact (Below.refl _ _).alloc (Nat.le_refl _) _
  have T0 : Hid (Two X X B W0 b y P P) := (h.new bl0).less (fun k e => by rw [(hXe k).1 e]; exact Nat.le_refl _) (fun k e => by rw [(hXe k).1 e]; exact Nat.le_refl _)
  have B0 : Hid (Below B w W0) := bl0.mono hB
  have hB0 : B ≤ W0.heap.size := Nat.le_trans hB bl0.size
  have x0 : W0.heap[w.heap.size]? = some (boxA ⟨k, ⟨ek, ee, eN, ed, ea, en, ec⟩, ⟨a1, a2, a3, a4, nm, po⟩⟩) := by rw [hW0]; exact alloc_new _ _
  have X0 := hide x0
  have TT := hide h
  have BL0 := hide bl0
  have hXX : X w.heap.size := (hXe _).2 rfl
  have l0 : ∀ k, X k → k < W0.heap.size := fun k e => by rw [(hXe k).1 e]; exact lt_of_some x0
  have HW0 : Hid ((w.alloc (.cells #[.int .i64 k, .int .i64 ek, .int .i64 ee, .int .i64 eN, .string ed, .slice ea en ec, .int .u8 a1, .int .u8 a2, .int .u8 a3, .int .u8 a4, .string nm, .int .i64 po] 41)) = W0) := hW0.symm
  have AM := hide am
  have HL := hide hlen
  have ND := hide hdb
  have NN := hide hnm
  have NB := hide hNb
  unfold Ac.cs
  clear h bl0 hW0 am hlen x0 hdb hnm hNb hXe hX
  go_enter Try.func17, Try.ntmps17
  go_wp2_with fail
  rw [HW0.out]
  refine (AM.out _).mono ?_
  rintro e wa ⟨rfl, rfl⟩
  obtain ⟨f3, f4⟩ := boxA_cells X0.out
  simp only [] at f3 f4
  clear f3 T0
  obtain ⟨C, hC⟩ : ∃ C : World → World, C = fun W => Lib.bytesWorld W 5 ed := ⟨_, rfl⟩
  have hcv : ∀ W : World, (convert 9 45 (.string ed)).run Try.prog W = .ok (.slice (some ⟨W.heap.size, 0, none⟩) ed.size (grownCap W ed.size 0 5)) (C W) := fun W => by rw [hC]; exact run_conv ed W
  have CB : Hid (∀ W, Below W.heap.size W (C W)) := fun W => by rw [hC]; exact bytesW_below W ed
  have CD : Hid (∀ W : World, Below W.heap.size W (C W.drew)) := fun W => by rw [hC]; exact bw1 W ed
  have CS : Hid (∀ W, Src (C W) (some ⟨W.heap.size, 0, none⟩) ed.size (grownCap W ed.size 0 5) (bi ed)) := fun W => by rw [hC]; exact conv_src ed W ND.out
  have CZ : Hid (∀ W, (C W).heap.size = W.heap.size + 1) := fun W => by rw [hC]; exact Lib.bytesWorld_size W 5 ed
  have hbx : w.heap.size < W0.heap.size := l0 _ hXX
  have hst : strOfNums (bi ed) = ed := str_bi ed
  clear hC
  go_wp2_with fail
  refine ((send_pV TT.out hB BL0.out ⟨k, ⟨ek, ee, eN, ed, ea, en, ec⟩, ⟨a1, a2, a3, a4, nm, po⟩⟩ X0.out (by exact CB.out W0) ee (CS.out _) (fun g o q => by simp at q; have := CZ.out W0; exact ⟨by omega, by omega⟩) HL.out).mono ?_)
  rintro e w1 ⟨rfl, t1, l1, b1, hB1, fx, hw1, g1, s1⟩
  have T1 := hide t1
  have B1 := hide b1
  have L1 := hide l1
  have S1 := hide s1
  have FX := hide fx
  clear t1 b1 l1 s1 fx
  go_wp2_with fail
  refine ((send_rW T1.out hB1 L1.out (CB.out _) ee (CS.out _) (fun g o q => by simp at q; have := CZ.out w1; exact ⟨by omega, by omega⟩) HL.out).mono ?_)
  rintro e w2 ⟨rfl, t2, k2, z2, _⟩
  have T2 := hide t2
  have B2 := hide (B1.out.trans k2)
  have g2 := (World.cell?_of_block (a := ⟨w.heap.size, 4, none⟩) (z2 w.heap.size FX.out)).trans g1
  have hcs := run_str (S1.out.keep (w' := w2) (fun g o q _ => z2 g (by simp at q; have := CZ.out W0; exact ⟨by omega, by omega⟩)))
  have hcsd := run_str ((S1.out.keep (w' := w2) (fun g o q _ => z2 g (by simp at q; have := CZ.out W0; exact ⟨by omega, by omega⟩))).keep (w' := w2.drew) (fun _ _ _ _ => rfl))
  rw [hst] at hcs hcsd
  clear t2 k2 z2 f4 g1
  go_wp2_with fail
  go_ret
  exact ⟨by first | rfl | simp, T2.out, B2.out⟩
end Go.Proofs.Ytjojhnkibgkleaa
