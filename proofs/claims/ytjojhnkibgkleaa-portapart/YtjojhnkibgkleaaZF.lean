/-
  A call of a port beside the reference's; conditions as each theorem has them.
-/
import Derived.Test.YtjojhnkibgkleaaZD
import Derived.Test.YtjojhnkibgkleaaZG
import Derived.Test.YtjojhnkibgkleaaIV
import Derived.Deep.MidRow
set_option linter.unusedSimpArgs false
set_option linter.unusedVariables false
set_option maxRecDepth 8000
namespace Go.Proofs.Ytjojhnkibgkleaa
open Go.RowKit Go.Lib

theorem among_k (n : Int) (m : Nat) (hm : 0 < m) (hm1 : m ≤ 65536) : ∃ k : Nat, k < m ∧ ∀ w : World, Calls Try.prog 11 #[.int .i64 n, .int .i64 m] w fun e w' => e = .returned (.int .i64 k) ∧ w = w' := by
  obtain ⟨k, hk, e0⟩ := wrap_small n m hm hm1
  refine ⟨k, hk, fun w => ?_⟩
  go_enter Try.func11, Try.ntmps11
  go_wp2
  go_ret
  exact ⟨by rw [← e0]; rfl, rfl⟩
theorem KeptS.frm {B : Nat} {X : Nat → Prop} {w w' : World} (h : KeptS (frm B X) w w') (hB : B ≤ w.heap.size) : Below B w w' := h.below hB (fun _ x => x.1)
/-- What a call of both is to answer. -/
def Played (B : Nat) (w : World) (b y : Nat) (Q : Pt) (e : Ending) (w' : World) : Prop := e = .returned (.bool true) ∧ Two nob nob B w' b y Q Q ∧ Below B w w'
/-- Which kind. -/
abbrev Am (k : Int) (n : Nat) : Prop := ∀ W : World, Calls Try.prog 11 #[.int .i64 k, .int .i64 14] W fun e w' => e = .returned (.int .i64 n) ∧ W = w'
/-- The call's own row. -/
abbrev boxA (x : Ac) : Obj := .cells #[.int .i64 x.k, .int .i64 x.e.k, .int .i64 x.e.e, .int .i64 x.e.N, .string x.e.d, .slice x.e.a x.e.n x.e.c, .int .u8 x.d.a1, .int .u8 x.d.a2, .int .u8 x.d.a3, .int .u8 x.d.a4, .string x.d.nm, .int .i64 x.d.po] 41
theorem boxA_cells {w : World} {g : Nat} {x : Ac} (h : w.heap[g]? = some (boxA x)) : w.cell? ⟨g, 3, none⟩ = some (.int .i64 x.e.N) ∧ w.cell? ⟨g, 4, none⟩ = some (.string x.e.d) := by
  exact ⟨by simp [World.cell?, h], by simp [World.cell?, h]⟩
theorem boxA_ev5 {w : World} {g : Nat} {x : Ac} (h : w.heap[g]? = some (boxA x)) : w.cell? ⟨g, 1, none⟩ = some (.int .i64 x.e.k) ∧ w.cell? ⟨g, 2, none⟩ = some (.int .i64 x.e.e) ∧ w.cell? ⟨g, 3, none⟩ = some (.int .i64 x.e.N) ∧ w.cell? ⟨g, 4, none⟩ = some (.string x.e.d) ∧ w.cell? ⟨g, 5, none⟩ = some (.slice x.e.a x.e.n x.e.c) := by
  refine ⟨?_, ?_, ?_, ?_, ?_⟩ <;> simp [World.cell?, h]
theorem boxA_de6 {w : World} {g : Nat} {x : Ac} (h : w.heap[g]? = some (boxA x)) : w.cell? ⟨g, 6, none⟩ = some (.int .u8 x.d.a1) ∧ w.cell? ⟨g, 7, none⟩ = some (.int .u8 x.d.a2) ∧ w.cell? ⟨g, 8, none⟩ = some (.int .u8 x.d.a3) ∧ w.cell? ⟨g, 9, none⟩ = some (.int .u8 x.d.a4) ∧ w.cell? ⟨g, 10, none⟩ = some (.string x.d.nm) ∧ w.cell? ⟨g, 11, none⟩ = some (.int .i64 x.d.po) := by
  refine ⟨?_, ?_, ?_, ?_, ?_, ?_⟩ <;> simp [World.cell?, h]
theorem boxA_ev {w : World} {g : Nat} {x : Ac} (h : w.heap[g]? = some (boxA x)) : w.rangeAt g 1 [.int .i64 x.e.k, .int .i64 x.e.e, .int .i64 x.e.N, .string x.e.d, .slice x.e.a x.e.n x.e.c] := by
  have := World.rangeAt_of_block h 1 5
  exact this
theorem boxA_de {w : World} {g : Nat} {x : Ac} (h : w.heap[g]? = some (boxA x)) : w.rangeAt g 6 [.int .u8 x.d.a1, .int .u8 x.d.a2, .int .u8 x.d.a3, .int .u8 x.d.a4, .string x.d.nm, .int .i64 x.d.po] := by
  have := World.rangeAt_of_block h 6 6
  exact this
variable {B : Nat} {w : World} {b y : Nat} {P : Pt}
set_option maxRecDepth 100000 in
set_option maxHeartbeats 1000000 in
theorem play_fin (h : Two nob nob B w b y P P) (hB : B ≤ w.heap.size) (x : Ac) (hx : x.In) (hlen : P.ou.length ≤ 1900000000000) (am : Am x.k 8) : Calls Try.prog 17 #[.pointer (some ⟨b, 0, none⟩), .pointer (some ⟨y, 0, none⟩), .agg x.cs.toArray] w (Played B w b y (finP P x.e.e)) := by
  obtain ⟨k, ⟨ek, ee, eN, ed, ea, en, ec⟩, ⟨a1, a2, a3, a4, nm, po⟩⟩ := x
  obtain ⟨⟨hkb, heb, hNb, hdb⟩, hnm, _⟩ := hx
  simp only [] at *
  obtain ⟨X, hX⟩ : ∃ X : Nat → Prop, X = fun k => k = w.heap.size := ⟨_, rfl⟩
  have hXe : ∀ k, X k ↔ k = w.heap.size := fun k => by rw [hX]
  obtain ⟨W0, hW0⟩ : ∃ W0, W0 = (w.alloc (.cells #[.int .i64 k, .int .i64 ek, .int .i64 ee, .int .i64 eN, .string ed, .slice ea en ec, .int .u8 a1, .int .u8 a2, .int .u8 a3, .int .u8 a4, .string nm, .int .i64 po] 41)) := ⟨_, rfl⟩
  have bl0 : Below w.heap.size w W0 := by rw [hW0]; exact (Below.refl _ _).alloc (Nat.le_refl _) _
  have T0 : Hid (Two X X B W0 b y P P) := (h.new bl0).less (fun k e => by rw [(hXe k).1 e]; exact Nat.le_refl _) (fun k e => by rw [(hXe k).1 e]; exact Nat.le_refl _)
  have B0 : Hid (Below B w W0) := bl0.mono hB
  have hB0 : B ≤ W0.heap.size := Nat.le_trans hB bl0.size
  have x0 : W0.heap[w.heap.size]? = some (boxA ⟨k, ⟨ek, ee, eN, ed, ea, en, ec⟩, ⟨a1, a2, a3, a4, nm, po⟩⟩) := by rw [hW0]; exact alloc_new _ _
  have X0 := hide x0
  have hXX : X w.heap.size := (hXe _).2 rfl
  have l0 : ∀ k, X k → k < W0.heap.size := fun k e => by rw [(hXe k).1 e]; exact lt_of_some x0
  have HW0 : Hid ((w.alloc (.cells #[.int .i64 k, .int .i64 ek, .int .i64 ee, .int .i64 eN, .string ed, .slice ea en ec, .int .u8 a1, .int .u8 a2, .int .u8 a3, .int .u8 a4, .string nm, .int .i64 po] 41)) = W0) := hW0.symm
  have AM := hide am
  have HL := hide hlen
  have ND := hide hdb
  have NN := hide hnm
  have NB := hide hNb
  unfold Ac.cs
  clear h bl0 hW0 am hlen x0 hdb hnm hNb hXe hX
  go_enter Try.func17, Try.ntmps17
  go_wp2_with fail
  rw [HW0.out]
  refine (AM.out _).mono ?_
  rintro e wa ⟨rfl, rfl⟩
  go_wp2_with fail
  refine ((fin_p2 T0.out hB0 l0 ee HL.out).mono ?_)
  rintro e w1 ⟨rfl, t1, k1⟩
  have hB1 : B ≤ w1.heap.size := Nat.le_trans hB0 k1.size
  have B1 := hide (B0.out.trans (k1.frm hB0))
  have T1 := hide t1
  have X1 := hide ((k1.block _ (l0 _ hXX) (fun q => q.2 hXX)).trans X0.out)
  have l1 : ∀ k, X k → k < w1.heap.size := fun k e => Nat.lt_of_lt_of_le (l0 k e) k1.size
  clear t1 k1
  go_wp2_with fail
  refine ((fin_r2 T1.out hB1 l1 ee HL.out).mono ?_)
  rintro e w2 ⟨rfl, t2, k2⟩
  have B2 := hide (B1.out.trans (k2.frm hB1))
  have T2 := hide t2.mono
  clear t2 k2
  go_wp2_with fail
  go_ret
  exact ⟨by first | rfl | simp, T2.out, B2.out⟩
set_option maxRecDepth 100000 in
set_option maxHeartbeats 1000000 in
theorem play_close (h : Two nob nob B w b y P P) (hB : B ≤ w.heap.size) (x : Ac) (hx : x.In) (hlen : P.ou.length ≤ 1900000000000) (am : Am x.k 9) : Calls Try.prog 17 #[.pointer (some ⟨b, 0, none⟩), .pointer (some ⟨y, 0, none⟩), .agg x.cs.toArray] w (Played B w b y (closeP P x.e.e)) := by
  obtain ⟨k, ⟨ek, ee, eN, ed, ea, en, ec⟩, ⟨a1, a2, a3, a4, nm, po⟩⟩ := x
  obtain ⟨⟨hkb, heb, hNb, hdb⟩, hnm, _⟩ := hx
  simp only [] at *
  obtain ⟨X, hX⟩ : ∃ X : Nat → Prop, X = fun k => k = w.heap.size := ⟨_, rfl⟩
  have hXe : ∀ k, X k ↔ k = w.heap.size := fun k => by rw [hX]
  obtain ⟨W0, hW0⟩ : ∃ W0, W0 = (w.alloc (.cells #[.int .i64 k, .int .i64 ek, .int .i64 ee, .int .i64 eN, .string ed, .slice ea en ec, .int .u8 a1, .int .u8 a2, .int .u8 a3, .int .u8 a4, .string nm, .int .i64 po] 41)) := ⟨_, rfl⟩
  have bl0 : Below w.heap.size w W0 := by rw [hW0]; exact (Below.refl _ _).alloc (Nat.le_refl _) _
  have T0 : Hid (Two X X B W0 b y P P) := (h.new bl0).less (fun k e => by rw [(hXe k).1 e]; exact Nat.le_refl _) (fun k e => by rw [(hXe k).1 e]; exact Nat.le_refl _)
  have B0 : Hid (Below B w W0) := bl0.mono hB
  have hB0 : B ≤ W0.heap.size := Nat.le_trans hB bl0.size
  have x0 : W0.heap[w.heap.size]? = some (boxA ⟨k, ⟨ek, ee, eN, ed, ea, en, ec⟩, ⟨a1, a2, a3, a4, nm, po⟩⟩) := by rw [hW0]; exact alloc_new _ _
  have X0 := hide x0
  have hXX : X w.heap.size := (hXe _).2 rfl
  have l0 : ∀ k, X k → k < W0.heap.size := fun k e => by rw [(hXe k).1 e]; exact lt_of_some x0
  have HW0 : Hid ((w.alloc (.cells #[.int .i64 k, .int .i64 ek, .int .i64 ee, .int .i64 eN, .string ed, .slice ea en ec, .int .u8 a1, .int .u8 a2, .int .u8 a3, .int .u8 a4, .string nm, .int .i64 po] 41)) = W0) := hW0.symm
  have AM := hide am
  have HL := hide hlen
  have ND := hide hdb
  have NN := hide hnm
  have NB := hide hNb
  unfold Ac.cs
  clear h bl0 hW0 am hlen x0 hdb hnm hNb hXe hX
  go_enter Try.func17, Try.ntmps17
  go_wp2_with fail
  rw [HW0.out]
  refine (AM.out _).mono ?_
  rintro e wa ⟨rfl, rfl⟩
  go_wp2_with fail
  refine ((close_p2 T0.out hB0 l0 ee HL.out).mono ?_)
  rintro e w1 ⟨rfl, t1, k1⟩
  have hB1 : B ≤ w1.heap.size := Nat.le_trans hB0 k1.size
  have B1 := hide (B0.out.trans (k1.frm hB0))
  have T1 := hide t1
  have X1 := hide ((k1.block _ (l0 _ hXX) (fun q => q.2 hXX)).trans X0.out)
  have l1 : ∀ k, X k → k < w1.heap.size := fun k e => Nat.lt_of_lt_of_le (l0 k e) k1.size
  clear t1 k1
  go_wp2_with fail
  refine ((close_r2 T1.out hB1 l1 ee HL.out).mono ?_)
  rintro e w2 ⟨rfl, t2, k2⟩
  have B2 := hide (B1.out.trans (k2.frm hB1))
  have T2 := hide t2.mono
  clear t2 k2
  go_wp2_with fail
  go_ret
  exact ⟨by first | rfl | simp, T2.out, B2.out⟩
set_option maxRecDepth 100000 in
set_option maxHeartbeats 1000000 in
theorem play_accept (h : Two nob nob B w b y P P) (hB : B ≤ w.heap.size) (x : Ac) (hx : x.In) (hlen : P.ou.length ≤ 1900000000000) (am : Am x.k 4) : Calls Try.prog 17 #[.pointer (some ⟨b, 0, none⟩), .pointer (some ⟨y, 0, none⟩), .agg x.cs.toArray] w (Played B w b y (accP P)) := by
  obtain ⟨k, ⟨ek, ee, eN, ed, ea, en, ec⟩, ⟨a1, a2, a3, a4, nm, po⟩⟩ := x
  obtain ⟨⟨hkb, heb, hNb, hdb⟩, hnm, _⟩ := hx
  simp only [] at *
  obtain ⟨X, hX⟩ : ∃ X : Nat → Prop, X = fun k => k = w.heap.size := ⟨_, rfl⟩
  have hXe : ∀ k, X k ↔ k = w.heap.size := fun k => by rw [hX]
  obtain ⟨W0, hW0⟩ : ∃ W0, W0 = (w.alloc (.cells #[.int .i64 k, .int .i64 ek, .int .i64 ee, .int .i64 eN, .string ed, .slice ea en ec, .int .u8 a1, .int .u8 a2, .int .u8 a3, .int .u8 a4, .string nm, .int .i64 po] 41)) := ⟨_, rfl⟩
  have bl0 : Below w.heap.size w W0 := by rw [hW0]; exact (Below.refl _ _).alloc (Nat.le_refl _) _
  have T0 : Hid (Two X X B W0 b y P P) := (h.new bl0).less (fun k e => by rw [(hXe k).1 e]; exact Nat.le_refl _) (fun k e => by rw [(hXe k).1 e]; exact Nat.le_refl _)
  have B0 : Hid (Below B w W0) := bl0.mono hB
  have hB0 : B ≤ W0.heap.size := Nat.le_trans hB bl0.size
  have x0 : W0.heap[w.heap.size]? = some (boxA ⟨k, ⟨ek, ee, eN, ed, ea, en, ec⟩, ⟨a1, a2, a3, a4, nm, po⟩⟩) := by rw [hW0]; exact alloc_new _ _
  have X0 := hide x0
  have hXX : X w.heap.size := (hXe _).2 rfl
  have l0 : ∀ k, X k → k < W0.heap.size := fun k e => by rw [(hXe k).1 e]; exact lt_of_some x0
  have HW0 : Hid ((w.alloc (.cells #[.int .i64 k, .int .i64 ek, .int .i64 ee, .int .i64 eN, .string ed, .slice ea en ec, .int .u8 a1, .int .u8 a2, .int .u8 a3, .int .u8 a4, .string nm, .int .i64 po] 41)) = W0) := hW0.symm
  have AM := hide am
  have HL := hide hlen
  have ND := hide hdb
  have NN := hide hnm
  have NB := hide hNb
  unfold Ac.cs
  clear h bl0 hW0 am hlen x0 hdb hnm hNb hXe hX
  go_enter Try.func17, Try.ntmps17
  go_wp2_with fail
  rw [HW0.out]
  refine (AM.out _).mono ?_
  rintro e wa ⟨rfl, rfl⟩
  go_wp2_with fail
  refine ((accept_p2 T0.out hB0 l0 ).mono ?_)
  rintro e w1 ⟨rfl, t1, k1⟩
  have hB1 : B ≤ w1.heap.size := Nat.le_trans hB0 k1.size
  have B1 := hide (B0.out.trans (k1.frm hB0))
  have T1 := hide t1
  have X1 := hide ((k1.block _ (l0 _ hXX) (fun q => q.2 hXX)).trans X0.out)
  have l1 : ∀ k, X k → k < w1.heap.size := fun k e => Nat.lt_of_lt_of_le (l0 k e) k1.size
  clear t1 k1
  go_wp2_with fail
  refine ((accept_r2 T1.out hB1 l1 ).mono ?_)
  rintro e w2 ⟨rfl, t2, k2⟩
  have B2 := hide (B1.out.trans (k2.frm hB1))
  have T2 := hide t2.mono
  clear t2 k2
  go_wp2_with fail
  go_ret
  exact ⟨by first | rfl | simp, T2.out, B2.out⟩
set_option maxRecDepth 100000 in
set_option maxHeartbeats 1000000 in
theorem play_dial (h : Two nob nob B w b y P P) (hB : B ≤ w.heap.size) (x : Ac) (hx : x.In) (hlen : P.ou.length ≤ 1900000000000) (am : Am x.k 10) : Calls Try.prog 17 #[.pointer (some ⟨b, 0, none⟩), .pointer (some ⟨y, 0, none⟩), .agg x.cs.toArray] w (Played B w b y (dialP P x.d)) := by
  obtain ⟨k, ⟨ek, ee, eN, ed, ea, en, ec⟩, ⟨a1, a2, a3, a4, nm, po⟩⟩ := x
  obtain ⟨⟨hkb, heb, hNb, hdb⟩, hnm, _⟩ := hx
  simp only [] at *
  obtain ⟨X, hX⟩ : ∃ X : Nat → Prop, X = fun k => k = w.heap.size := ⟨_, rfl⟩
  have hXe : ∀ k, X k ↔ k = w.heap.size := fun k => by rw [hX]
  obtain ⟨W0, hW0⟩ : ∃ W0, W0 = (w.alloc (.cells #[.int .i64 k, .int .i64 ek, .int .i64 ee, .int .i64 eN, .string ed, .slice ea en ec, .int .u8 a1, .int .u8 a2, .int .u8 a3, .int .u8 a4, .string nm, .int .i64 po] 41)) := ⟨_, rfl⟩
  have bl0 : Below w.heap.size w W0 := by rw [hW0]; exact (Below.refl _ _).alloc (Nat.le_refl _) _
  have T0 : Hid (Two X X B W0 b y P P) := (h.new bl0).less (fun k e => by rw [(hXe k).1 e]; exact Nat.le_refl _) (fun k e => by rw [(hXe k).1 e]; exact Nat.le_refl _)
  have B0 : Hid (Below B w W0) := bl0.mono hB
  have hB0 : B ≤ W0.heap.size := Nat.le_trans hB bl0.size
  have x0 : W0.heap[w.heap.size]? = some (boxA ⟨k, ⟨ek, ee, eN, ed, ea, en, ec⟩, ⟨a1, a2, a3, a4, nm, po⟩⟩) := by rw [hW0]; exact alloc_new _ _
  have X0 := hide x0
  have hXX : X w.heap.size := (hXe _).2 rfl
  have l0 : ∀ k, X k → k < W0.heap.size := fun k e => by rw [(hXe k).1 e]; exact lt_of_some x0
  have HW0 : Hid ((w.alloc (.cells #[.int .i64 k, .int .i64 ek, .int .i64 ee, .int .i64 eN, .string ed, .slice ea en ec, .int .u8 a1, .int .u8 a2, .int .u8 a3, .int .u8 a4, .string nm, .int .i64 po] 41)) = W0) := hW0.symm
  have AM := hide am
  have HL := hide hlen
  have ND := hide hdb
  have NN := hide hnm
  have NB := hide hNb
  unfold Ac.cs
  clear h bl0 hW0 am hlen x0 hdb hnm hNb hXe hX
  go_enter Try.func17, Try.ntmps17
  go_wp2_with fail
  rw [HW0.out]
  refine (AM.out _).mono ?_
  rintro e wa ⟨rfl, rfl⟩
  obtain ⟨f1, f2, f3, f4, f5, f6⟩ := boxA_de6 X0.out
  simp only [] at f1 f2 f3 f4 f5 f6
  go_wp2_with fail
  refine ((dial_p2 T0.out hB0 l0 ⟨a1, a2, a3, a4, nm, po⟩ NN.out HL.out).mono ?_)
  rintro e w1 ⟨rfl, t1, k1⟩
  have hB1 : B ≤ w1.heap.size := Nat.le_trans hB0 k1.size
  have B1 := hide (B0.out.trans (k1.frm hB0))
  have T1 := hide t1
  have X1 := hide ((k1.block _ (l0 _ hXX) (fun q => q.2 hXX)).trans X0.out)
  have l1 : ∀ k, X k → k < w1.heap.size := fun k e => Nat.lt_of_lt_of_le (l0 k e) k1.size
  clear t1 k1
  clear f1 f2 f3 f4 f5 f6
  obtain ⟨f1, f2, f3, f4, f5, f6⟩ := boxA_de6 X1.out
  simp only [] at f1 f2 f3 f4 f5 f6
  go_wp2_with fail
  refine ((dial_r2 T1.out hB1 l1 ⟨a1, a2, a3, a4, nm, po⟩ NN.out HL.out).mono ?_)
  rintro e w2 ⟨rfl, t2, k2⟩
  have B2 := hide (B1.out.trans (k2.frm hB1))
  have T2 := hide t2.mono
  clear t2 k2
  clear f1 f2 f3 f4 f5 f6
  go_wp2_with fail
  go_ret
  exact ⟨by first | rfl | simp, T2.out, B2.out⟩
set_option maxRecDepth 100000 in
set_option maxHeartbeats 1000000 in
theorem play_event0 (h : Two nob nob B w b y P P) (hB : B ≤ w.heap.size) (x : Ac) (hx : x.In) (hlen : P.ou.length ≤ 1900000000000) (am : Am x.k 0) : Calls Try.prog 17 #[.pointer (some ⟨b, 0, none⟩), .pointer (some ⟨y, 0, none⟩), .agg x.cs.toArray] w (Played B w b y (evP P x.e.k x.e.e x.e.N x.e.d)) := by
  obtain ⟨k, ⟨ek, ee, eN, ed, ea, en, ec⟩, ⟨a1, a2, a3, a4, nm, po⟩⟩ := x
  obtain ⟨⟨hkb, heb, hNb, hdb⟩, hnm, _⟩ := hx
  simp only [] at *
  obtain ⟨X, hX⟩ : ∃ X : Nat → Prop, X = fun k => k = w.heap.size := ⟨_, rfl⟩
  have hXe : ∀ k, X k ↔ k = w.heap.size := fun k => by rw [hX]
  obtain ⟨W0, hW0⟩ : ∃ W0, W0 = (w.alloc (.cells #[.int .i64 k, .int .i64 ek, .int .i64 ee, .int .i64 eN, .string ed, .slice ea en ec, .int .u8 a1, .int .u8 a2, .int .u8 a3, .int .u8 a4, .string nm, .int .i64 po] 41)) := ⟨_, rfl⟩
  have bl0 : Below w.heap.size w W0 := by rw [hW0]; exact (Below.refl _ _).alloc (Nat.le_refl _) _
  have T0 : Hid (Two X X B W0 b y P P) := (h.new bl0).less (fun k e => by rw [(hXe k).1 e]; exact Nat.le_refl _) (fun k e => by rw [(hXe k).1 e]; exact Nat.le_refl _)
  have B0 : Hid (Below B w W0) := bl0.mono hB
  have hB0 : B ≤ W0.heap.size := Nat.le_trans hB bl0.size
  have x0 : W0.heap[w.heap.size]? = some (boxA ⟨k, ⟨ek, ee, eN, ed, ea, en, ec⟩, ⟨a1, a2, a3, a4, nm, po⟩⟩) := by rw [hW0]; exact alloc_new _ _
  have X0 := hide x0
  have hXX : X w.heap.size := (hXe _).2 rfl
  have l0 : ∀ k, X k → k < W0.heap.size := fun k e => by rw [(hXe k).1 e]; exact lt_of_some x0
  have HW0 : Hid ((w.alloc (.cells #[.int .i64 k, .int .i64 ek, .int .i64 ee, .int .i64 eN, .string ed, .slice ea en ec, .int .u8 a1, .int .u8 a2, .int .u8 a3, .int .u8 a4, .string nm, .int .i64 po] 41)) = W0) := hW0.symm
  have AM := hide am
  have HL := hide hlen
  have ND := hide hdb
  have NN := hide hnm
  have NB := hide hNb
  unfold Ac.cs
  clear h bl0 hW0 am hlen x0 hdb hnm hNb hXe hX
  go_enter Try.func17, Try.ntmps17
  go_wp2_with fail
  rw [HW0.out]
  refine (AM.out _).mono ?_
  rintro e wa ⟨rfl, rfl⟩
  obtain ⟨f1, f2, f3, f4, f5⟩ := boxA_ev5 X0.out
  simp only [] at f1 f2 f3 f4 f5
  go_wp2_with fail
  refine ((event_p2 T0.out hB0 l0 ek ee eN ed NB.out.2 ND.out ea en ec).mono ?_)
  rintro e w1 ⟨rfl, t1, k1⟩
  have hB1 : B ≤ w1.heap.size := Nat.le_trans hB0 k1.size
  have B1 := hide (B0.out.trans (k1.frm hB0))
  have T1 := hide t1
  have X1 := hide ((k1.block _ (l0 _ hXX) (fun q => q.2 hXX)).trans X0.out)
  have l1 : ∀ k, X k → k < w1.heap.size := fun k e => Nat.lt_of_lt_of_le (l0 k e) k1.size
  clear t1 k1
  clear f1 f2 f3 f4 f5
  obtain ⟨f1, f2, f3, f4, f5⟩ := boxA_ev5 X1.out
  simp only [] at f1 f2 f3 f4 f5
  go_wp2_with fail
  refine ((event_r2 T1.out hB1 l1 ek ee eN ed NB.out.2 ND.out ea en ec).mono ?_)
  rintro e w2 ⟨rfl, t2, k2⟩
  have B2 := hide (B1.out.trans (k2.frm hB1))
  have T2 := hide t2.mono
  clear t2 k2
  clear f1 f2 f3 f4 f5
  go_wp2_with fail
  go_ret
  exact ⟨by first | rfl | simp, T2.out, B2.out⟩
set_option maxRecDepth 100000 in
set_option maxHeartbeats 1000000 in
theorem play_event1 (h : Two nob nob B w b y P P) (hB : B ≤ w.heap.size) (x : Ac) (hx : x.In) (hlen : P.ou.length ≤ 1900000000000) (am : Am x.k 1) : Calls Try.prog 17 #[.pointer (some ⟨b, 0, none⟩), .pointer (some ⟨y, 0, none⟩), .agg x.cs.toArray] w (Played B w b y (evP P x.e.k x.e.e x.e.N x.e.d)) := by
  obtain ⟨k, ⟨ek, ee, eN, ed, ea, en, ec⟩, ⟨a1, a2, a3, a4, nm, po⟩⟩ := x
  obtain ⟨⟨hkb, heb, hNb, hdb⟩, hnm, _⟩ := hx
  simp only [] at *
  obtain ⟨X, hX⟩ : ∃ X : Nat → Prop, X = fun k => k = w.heap.size := ⟨_, rfl⟩
  have hXe : ∀ k, X k ↔ k = w.heap.size := fun k => by rw [hX]
  obtain ⟨W0, hW0⟩ : ∃ W0, W0 = (w.alloc (.cells #[.int .i64 k, .int .i64 ek, .int .i64 ee, .int .i64 eN, .string ed, .slice ea en ec, .int .u8 a1, .int .u8 a2, .int .u8 a3, .int .u8 a4, .string nm, .int .i64 po] 41)) := ⟨_, rfl⟩
  have bl0 : Below w.heap.size w W0 := by rw [hW0]; exact (Below.refl _ _).alloc (Nat.le_refl _) _
  have T0 : Hid (Two X X B W0 b y P P) := (h.new bl0).less (fun k e => by rw [(hXe k).1 e]; exact Nat.le_refl _) (fun k e => by rw [(hXe k).1 e]; exact Nat.le_refl _)
  have B0 : Hid (Below B w W0) := bl0.mono hB
  have hB0 : B ≤ W0.heap.size := Nat.le_trans hB bl0.size
  have x0 : W0.heap[w.heap.size]? = some (boxA ⟨k, ⟨ek, ee, eN, ed, ea, en, ec⟩, ⟨a1, a2, a3, a4, nm, po⟩⟩) := by rw [hW0]; exact alloc_new _ _
  have X0 := hide x0
  have hXX : X w.heap.size := (hXe _).2 rfl
  have l0 : ∀ k, X k → k < W0.heap.size := fun k e => by rw [(hXe k).1 e]; exact lt_of_some x0
  have HW0 : Hid ((w.alloc (.cells #[.int .i64 k, .int .i64 ek, .int .i64 ee, .int .i64 eN, .string ed, .slice ea en ec, .int .u8 a1, .int .u8 a2, .int .u8 a3, .int .u8 a4, .string nm, .int .i64 po] 41)) = W0) := hW0.symm
  have AM := hide am
  have HL := hide hlen
  have ND := hide hdb
  have NN := hide hnm
  have NB := hide hNb
  unfold Ac.cs
  clear h bl0 hW0 am hlen x0 hdb hnm hNb hXe hX
  go_enter Try.func17, Try.ntmps17
  go_wp2_with fail
  rw [HW0.out]
  refine (AM.out _).mono ?_
  rintro e wa ⟨rfl, rfl⟩
  obtain ⟨f1, f2, f3, f4, f5⟩ := boxA_ev5 X0.out
  simp only [] at f1 f2 f3 f4 f5
  go_wp2_with fail
  refine ((event_p2 T0.out hB0 l0 ek ee eN ed NB.out.2 ND.out ea en ec).mono ?_)
  rintro e w1 ⟨rfl, t1, k1⟩
  have hB1 : B ≤ w1.heap.size := Nat.le_trans hB0 k1.size
  have B1 := hide (B0.out.trans (k1.frm hB0))
  have T1 := hide t1
  have X1 := hide ((k1.block _ (l0 _ hXX) (fun q => q.2 hXX)).trans X0.out)
  have l1 : ∀ k, X k → k < w1.heap.size := fun k e => Nat.lt_of_lt_of_le (l0 k e) k1.size
  clear t1 k1
  clear f1 f2 f3 f4 f5
  obtain ⟨f1, f2, f3, f4, f5⟩ := boxA_ev5 X1.out
  simp only [] at f1 f2 f3 f4 f5
  go_wp2_with fail
  refine ((event_r2 T1.out hB1 l1 ek ee eN ed NB.out.2 ND.out ea en ec).mono ?_)
  rintro e w2 ⟨rfl, t2, k2⟩
  have B2 := hide (B1.out.trans (k2.frm hB1))
  have T2 := hide t2.mono
  clear t2 k2
  clear f1 f2 f3 f4 f5
  go_wp2_with fail
  go_ret
  exact ⟨by first | rfl | simp, T2.out, B2.out⟩
set_option maxRecDepth 100000 in
set_option maxHeartbeats 1000000 in
theorem play_event2 (h : Two nob nob B w b y P P) (hB : B ≤ w.heap.size) (x : Ac) (hx : x.In) (hlen : P.ou.length ≤ 1900000000000) (am : Am x.k 2) : Calls Try.prog 17 #[.pointer (some ⟨b, 0, none⟩), .pointer (some ⟨y, 0, none⟩), .agg x.cs.toArray] w (Played B w b y (evP P x.e.k x.e.e x.e.N x.e.d)) := by
  obtain ⟨k, ⟨ek, ee, eN, ed, ea, en, ec⟩, ⟨a1, a2, a3, a4, nm, po⟩⟩ := x
  obtain ⟨⟨hkb, heb, hNb, hdb⟩, hnm, _⟩ := hx
  simp only [] at *
  obtain ⟨X, hX⟩ : ∃ X : Nat → Prop, X = fun k => k = w.heap.size := ⟨_, rfl⟩
  have hXe : ∀ k, X k ↔ k = w.heap.size := fun k => by rw [hX]
  obtain ⟨W0, hW0⟩ : ∃ W0, W0 = (w.alloc (.cells #[.int .i64 k, .int .i64 ek, .int .i64 ee, .int .i64 eN, .string ed, .slice ea en ec, .int .u8 a1, .int .u8 a2, .int .u8 a3, .int .u8 a4, .string nm, .int .i64 po] 41)) := ⟨_, rfl⟩
  have bl0 : Below w.heap.size w W0 := by rw [hW0]; exact (Below.refl _ _).alloc (Nat.le_refl _) _
  have T0 : Hid (Two X X B W0 b y P P) := (h.new bl0).less (fun k e => by rw [(hXe k).1 e]; exact Nat.le_refl _) (fun k e => by rw [(hXe k).1 e]; exact Nat.le_refl _)
  have B0 : Hid (Below B w W0) := bl0.mono hB
  have hB0 : B ≤ W0.heap.size := Nat.le_trans hB bl0.size
  have x0 : W0.heap[w.heap.size]? = some (boxA ⟨k, ⟨ek, ee, eN, ed, ea, en, ec⟩, ⟨a1, a2, a3, a4, nm, po⟩⟩) := by rw [hW0]; exact alloc_new _ _
  have X0 := hide x0
  have hXX : X w.heap.size := (hXe _).2 rfl
  have l0 : ∀ k, X k → k < W0.heap.size := fun k e => by rw [(hXe k).1 e]; exact lt_of_some x0
  have HW0 : Hid ((w.alloc (.cells #[.int .i64 k, .int .i64 ek, .int .i64 ee, .int .i64 eN, .string ed, .slice ea en ec, .int .u8 a1, .int .u8 a2, .int .u8 a3, .int .u8 a4, .string nm, .int .i64 po] 41)) = W0) := hW0.symm
  have AM := hide am
  have HL := hide hlen
  have ND := hide hdb
  have NN := hide hnm
  have NB := hide hNb
  unfold Ac.cs
  clear h bl0 hW0 am hlen x0 hdb hnm hNb hXe hX
  go_enter Try.func17, Try.ntmps17
  go_wp2_with fail
  rw [HW0.out]
  refine (AM.out _).mono ?_
  rintro e wa ⟨rfl, rfl⟩
  obtain ⟨f1, f2, f3, f4, f5⟩ := boxA_ev5 X0.out
  simp only [] at f1 f2 f3 f4 f5
  go_wp2_with fail
  refine ((event_p2 T0.out hB0 l0 ek ee eN ed NB.out.2 ND.out ea en ec).mono ?_)
  rintro e w1 ⟨rfl, t1, k1⟩
  have hB1 : B ≤ w1.heap.size := Nat.le_trans hB0 k1.size
  have B1 := hide (B0.out.trans (k1.frm hB0))
  have T1 := hide t1
  have X1 := hide ((k1.block _ (l0 _ hXX) (fun q => q.2 hXX)).trans X0.out)
  have l1 : ∀ k, X k → k < w1.heap.size := fun k e => Nat.lt_of_lt_of_le (l0 k e) k1.size
  clear t1 k1
  clear f1 f2 f3 f4 f5
  obtain ⟨f1, f2, f3, f4, f5⟩ := boxA_ev5 X1.out
  simp only [] at f1 f2 f3 f4 f5
  go_wp2_with fail
  refine ((event_r2 T1.out hB1 l1 ek ee eN ed NB.out.2 ND.out ea en ec).mono ?_)
  rintro e w2 ⟨rfl, t2, k2⟩
  have B2 := hide (B1.out.trans (k2.frm hB1))
  have T2 := hide t2.mono
  clear t2 k2
  clear f1 f2 f3 f4 f5
  go_wp2_with fail
  go_ret
  exact ⟨by first | rfl | simp, T2.out, B2.out⟩
set_option maxRecDepth 100000 in
set_option maxHeartbeats 1000000 in
theorem play_event3 (h : Two nob nob B w b y P P) (hB : B ≤ w.heap.size) (x : Ac) (hx : x.In) (hlen : P.ou.length ≤ 1900000000000) (am : Am x.k 3) : Calls Try.prog 17 #[.pointer (some ⟨b, 0, none⟩), .pointer (some ⟨y, 0, none⟩), .agg x.cs.toArray] w (Played B w b y (evP P x.e.k x.e.e x.e.N x.e.d)) := by
  obtain ⟨k, ⟨ek, ee, eN, ed, ea, en, ec⟩, ⟨a1, a2, a3, a4, nm, po⟩⟩ := x
  obtain ⟨⟨hkb, heb, hNb, hdb⟩, hnm, _⟩ := hx
  simp only [] at *
  obtain ⟨X, hX⟩ : ∃ X : Nat → Prop, X = fun k => k = w.heap.size := ⟨_, rfl⟩
  have hXe : ∀ k, X k ↔ k = w.heap.size := fun k => by rw [hX]
  obtain ⟨W0, hW0⟩ : ∃ W0, W0 = (w.alloc (.cells #[.int .i64 k, .int .i64 ek, .int .i64 ee, .int .i64 eN, .string ed, .slice ea en ec, .int .u8 a1, .int .u8 a2, .int .u8 a3, .int .u8 a4, .string nm, .int .i64 po] 41)) := ⟨_, rfl⟩
  have bl0 : Below w.heap.size w W0 := by rw [hW0]; exact (Below.refl _ _).alloc (Nat.le_refl _) _
  have T0 : Hid (Two X X B W0 b y P P) := (h.new bl0).less (fun k e => by rw [(hXe k).1 e]; exact Nat.le_refl _) (fun k e => by rw [(hXe k).1 e]; exact Nat.le_refl _)
  have B0 : Hid (Below B w W0) := bl0.mono hB
  have hB0 : B ≤ W0.heap.size := Nat.le_trans hB bl0.size
  have x0 : W0.heap[w.heap.size]? = some (boxA ⟨k, ⟨ek, ee, eN, ed, ea, en, ec⟩, ⟨a1, a2, a3, a4, nm, po⟩⟩) := by rw [hW0]; exact alloc_new _ _
  have X0 := hide x0
  have hXX : X w.heap.size := (hXe _).2 rfl
  have l0 : ∀ k, X k → k < W0.heap.size := fun k e => by rw [(hXe k).1 e]; exact lt_of_some x0
  have HW0 : Hid ((w.alloc (.cells #[.int .i64 k, .int .i64 ek, .int .i64 ee, .int .i64 eN, .string ed, .slice ea en ec, .int .u8 a1, .int .u8 a2, .int .u8 a3, .int .u8 a4, .string nm, .int .i64 po] 41)) = W0) := hW0.symm
  have AM := hide am
  have HL := hide hlen
  have ND := hide hdb
  have NN := hide hnm
  have NB := hide hNb
  unfold Ac.cs
  clear h bl0 hW0 am hlen x0 hdb hnm hNb hXe hX
  go_enter Try.func17, Try.ntmps17
  go_wp2_with fail
  rw [HW0.out]
  refine (AM.out _).mono ?_
  rintro e wa ⟨rfl, rfl⟩
  obtain ⟨f1, f2, f3, f4, f5⟩ := boxA_ev5 X0.out
  simp only [] at f1 f2 f3 f4 f5
  go_wp2_with fail
  refine ((event_p2 T0.out hB0 l0 ek ee eN ed NB.out.2 ND.out ea en ec).mono ?_)
  rintro e w1 ⟨rfl, t1, k1⟩
  have hB1 : B ≤ w1.heap.size := Nat.le_trans hB0 k1.size
  have B1 := hide (B0.out.trans (k1.frm hB0))
  have T1 := hide t1
  have X1 := hide ((k1.block _ (l0 _ hXX) (fun q => q.2 hXX)).trans X0.out)
  have l1 : ∀ k, X k → k < w1.heap.size := fun k e => Nat.lt_of_lt_of_le (l0 k e) k1.size
  clear t1 k1
  clear f1 f2 f3 f4 f5
  obtain ⟨f1, f2, f3, f4, f5⟩ := boxA_ev5 X1.out
  simp only [] at f1 f2 f3 f4 f5
  go_wp2_with fail
  refine ((event_r2 T1.out hB1 l1 ek ee eN ed NB.out.2 ND.out ea en ec).mono ?_)
  rintro e w2 ⟨rfl, t2, k2⟩
  have B2 := hide (B1.out.trans (k2.frm hB1))
  have T2 := hide t2.mono
  clear t2 k2
  clear f1 f2 f3 f4 f5
  go_wp2_with fail
  go_ret
  exact ⟨by first | rfl | simp, T2.out, B2.out⟩
set_option maxRecDepth 100000 in
set_option maxHeartbeats 1000000 in
theorem play_take (h : Two nob nob B w b y P P) (hB : B ≤ w.heap.size) (x : Ac) (hx : x.In) (hlen : P.ou.length ≤ 1900000000000) (am : Am x.k 5) : Calls Try.prog 17 #[.pointer (some ⟨b, 0, none⟩), .pointer (some ⟨y, 0, none⟩), .agg x.cs.toArray] w (Played B w b y (takeP P x.e.e x.e.N)) := by
  obtain ⟨k, ⟨ek, ee, eN, ed, ea, en, ec⟩, ⟨a1, a2, a3, a4, nm, po⟩⟩ := x
  obtain ⟨⟨hkb, heb, hNb, hdb⟩, hnm, _⟩ := hx
  simp only [] at *
  obtain ⟨X, hX⟩ : ∃ X : Nat → Prop, X = fun k => k = w.heap.size := ⟨_, rfl⟩
  have hXe : ∀ k, X k ↔ k = w.heap.size := fun k => by rw [hX]
  obtain ⟨W0, hW0⟩ : ∃ W0, W0 = (w.alloc (.cells #[.int .i64 k, .int .i64 ek, .int .i64 ee, .int .i64 eN, .string ed, .slice ea en ec, .int .u8 a1, .int .u8 a2, .int .u8 a3, .int .u8 a4, .string nm, .int .i64 po] 41)) := ⟨_, rfl⟩
  have bl0 : Below w.heap.size w W0 := by rw [hW0]; exact (Below.refl _ _).alloc (Nat.le_refl _) _
  have T0 : Hid (Two X X B W0 b y P P) := (h.new bl0).less (fun k e => by rw [(hXe k).1 e]; exact Nat.le_refl _) (fun k e => by rw [(hXe k).1 e]; exact Nat.le_refl _)
  have B0 : Hid (Below B w W0) := bl0.mono hB
  have hB0 : B ≤ W0.heap.size := Nat.le_trans hB bl0.size
  have x0 : W0.heap[w.heap.size]? = some (boxA ⟨k, ⟨ek, ee, eN, ed, ea, en, ec⟩, ⟨a1, a2, a3, a4, nm, po⟩⟩) := by rw [hW0]; exact alloc_new _ _
  have X0 := hide x0
  have hXX : X w.heap.size := (hXe _).2 rfl
  have l0 : ∀ k, X k → k < W0.heap.size := fun k e => by rw [(hXe k).1 e]; exact lt_of_some x0
  have HW0 : Hid ((w.alloc (.cells #[.int .i64 k, .int .i64 ek, .int .i64 ee, .int .i64 eN, .string ed, .slice ea en ec, .int .u8 a1, .int .u8 a2, .int .u8 a3, .int .u8 a4, .string nm, .int .i64 po] 41)) = W0) := hW0.symm
  have AM := hide am
  have HL := hide hlen
  have ND := hide hdb
  have NN := hide hnm
  have NB := hide hNb
  unfold Ac.cs
  clear h bl0 hW0 am hlen x0 hdb hnm hNb hXe hX
  go_enter Try.func17, Try.ntmps17
  go_wp2_with fail
  rw [HW0.out]
  refine (AM.out _).mono ?_
  rintro e wa ⟨rfl, rfl⟩
  obtain ⟨f3, f4⟩ := boxA_cells X0.out
  simp only [] at f3 f4
  clear f4
  have T0d : Hid (Two X X B W0.drew b y P P) := T0.out.drewN 1
  have hB0d : B ≤ W0.drew.heap.size := hB0
  have l0d : ∀ k, X k → k < W0.drew.heap.size := l0
  go_wp2_with fail
  go_region_held3 (fun w' => w'.cell? ⟨w.heap.size, 3, none⟩ = some (.int .i64 eN)) (first | assumption | go_keep) (first
    | (go_at_call 35; refine (same_bytes _ _ _ _ _ _ _ _ S1'.out S2.out).mono ?_; rintro e w3 ⟨rfl, rfl⟩)
    | (go_at_call 57; refine ((take_r2 T1.out hB1 m1.out ee eN).mono ?_); rintro e w2 ⟨a', c', rfl, s2, t2, k2⟩; have B2 := hide (B1.out.trans (k2.frm hB1)); have T2 := hide t2.mono; have S1' := hide (S1.out.keepS k2 frm_blk); have S2 := hide s2; have g3 := ((boxA_cells ((k2.block _ (l1 _ hXX) (fun q => q.2 (Or.inl hXX))).trans X1.out))).1; clear t2 k2 s2)
    | (go_at_call 14; refine ((take_p2 T0d.out hB0d l0d ee eN).mono ?_); rintro e w1 ⟨a, c, rfl, s1, t1, k1⟩; replace k1 := KeptS.of_drewN (n := 1) k1; have hB1 : B ≤ w1.heap.size := Nat.le_trans hB0 k1.size; have B1 := hide (B0.out.trans (by exact k1.frm hB0)); have T1 := hide t1; have S1 := hide s1; have X1 := hide ((k1.block _ (l0 _ hXX) (fun q => q.2 hXX)).trans X0.out); have l1 : ∀ k, X k → k < w1.heap.size := fun k e => Nat.lt_of_lt_of_le (l0 k e) k1.size; have m1 := hide (s1.ltZ l1); have g1 := (boxA_cells X1.out).1; clear t1 k1 s1))
  all_goals
    go_wp2_with fail
    go_ret
    exact ⟨rfl, T2.out, B2.out⟩
set_option maxRecDepth 100000 in
set_option maxHeartbeats 1000000 in
theorem play_gram (h : Two nob nob B w b y P P) (hB : B ≤ w.heap.size) (x : Ac) (hx : x.In) (hlen : P.ou.length ≤ 1900000000000) (am : Am x.k 11) : Calls Try.prog 17 #[.pointer (some ⟨b, 0, none⟩), .pointer (some ⟨y, 0, none⟩), .agg x.cs.toArray] w (Played B w b y (gramP P)) := by
  obtain ⟨k, ⟨ek, ee, eN, ed, ea, en, ec⟩, ⟨a1, a2, a3, a4, nm, po⟩⟩ := x
  obtain ⟨⟨hkb, heb, hNb, hdb⟩, hnm, _⟩ := hx
  simp only [] at *
  obtain ⟨X, hX⟩ : ∃ X : Nat → Prop, X = fun k => k = w.heap.size := ⟨_, rfl⟩
  have hXe : ∀ k, X k ↔ k = w.heap.size := fun k => by rw [hX]
  obtain ⟨W0, hW0⟩ : ∃ W0, W0 = (w.alloc (.cells #[.int .i64 k, .int .i64 ek, .int .i64 ee, .int .i64 eN, .string ed, .slice ea en ec, .int .u8 a1, .int .u8 a2, .int .u8 a3, .int .u8 a4, .string nm, .int .i64 po] 41)) := ⟨_, rfl⟩
  have bl0 : Below w.heap.size w W0 := by rw [hW0]; exact (Below.refl _ _).alloc (Nat.le_refl _) _
  have T0 : Hid (Two X X B W0 b y P P) := (h.new bl0).less (fun k e => by rw [(hXe k).1 e]; exact Nat.le_refl _) (fun k e => by rw [(hXe k).1 e]; exact Nat.le_refl _)
  have B0 : Hid (Below B w W0) := bl0.mono hB
  have hB0 : B ≤ W0.heap.size := Nat.le_trans hB bl0.size
  have x0 : W0.heap[w.heap.size]? = some (boxA ⟨k, ⟨ek, ee, eN, ed, ea, en, ec⟩, ⟨a1, a2, a3, a4, nm, po⟩⟩) := by rw [hW0]; exact alloc_new _ _
  have X0 := hide x0
  have hXX : X w.heap.size := (hXe _).2 rfl
  have l0 : ∀ k, X k → k < W0.heap.size := fun k e => by rw [(hXe k).1 e]; exact lt_of_some x0
  have HW0 : Hid ((w.alloc (.cells #[.int .i64 k, .int .i64 ek, .int .i64 ee, .int .i64 eN, .string ed, .slice ea en ec, .int .u8 a1, .int .u8 a2, .int .u8 a3, .int .u8 a4, .string nm, .int .i64 po] 41)) = W0) := hW0.symm
  have AM := hide am
  have HL := hide hlen
  have ND := hide hdb
  have NN := hide hnm
  have NB := hide hNb
  unfold Ac.cs
  clear h bl0 hW0 am hlen x0 hdb hnm hNb hXe hX
  go_enter Try.func17, Try.ntmps17
  go_wp2_with fail
  rw [HW0.out]
  refine (AM.out _).mono ?_
  rintro e wa ⟨rfl, rfl⟩
  go_wp2_with fail
  refine ((gram_p2 T0.out hB0 l0).mono ?_)
  rintro e w1 ⟨a, c, rfl, s1, t1, k1⟩
  have hB1 : B ≤ w1.heap.size := Nat.le_trans hB0 k1.size
  have B1 := hide (B0.out.trans (k1.frm hB0))
  have T1 := hide t1
  have S1 := hide s1
  have l1 : ∀ k, X k → k < w1.heap.size := fun k e => Nat.lt_of_lt_of_le (l0 k e) k1.size
  have m1 := hide (s1.ltZ l1)
  clear t1 k1 s1
  go_wp2_with fail
  refine ((gram_r2 T1.out hB1 m1.out).mono ?_)
  rintro e w2 ⟨a', c', rfl, s2, t2, k2⟩
  have B2 := hide (B1.out.trans (k2.frm hB1))
  have T2 := hide t2.mono
  have S1' := hide (S1.out.keepS k2 frm_blk)
  have S2 := hide s2
  clear t2 k2 s2
  go_wp2_with fail
  refine (same_bytes _ _ _ _ _ _ _ _ S1'.out S2.out).mono ?_
  rintro e w3 ⟨rfl, rfl⟩
  go_wp2_with fail
  go_ret
  exact ⟨by first | rfl | simp, T2.out, B2.out⟩
set_option maxRecDepth 100000 in
set_option maxHeartbeats 1000000 in
theorem play_outs (h : Two nob nob B w b y P P) (hB : B ≤ w.heap.size) (x : Ac) (hx : x.In) (hlen : P.ou.length ≤ 1900000000000) (am : Am x.k 13) : Calls Try.prog 17 #[.pointer (some ⟨b, 0, none⟩), .pointer (some ⟨y, 0, none⟩), .agg x.cs.toArray] w (Played B w b y (outsP P)) := by
  obtain ⟨k, ⟨ek, ee, eN, ed, ea, en, ec⟩, ⟨a1, a2, a3, a4, nm, po⟩⟩ := x
  obtain ⟨⟨hkb, heb, hNb, hdb⟩, hnm, _⟩ := hx
  simp only [] at *
  obtain ⟨X, hX⟩ : ∃ X : Nat → Prop, X = fun k => k = w.heap.size := ⟨_, rfl⟩
  have hXe : ∀ k, X k ↔ k = w.heap.size := fun k => by rw [hX]
  obtain ⟨W0, hW0⟩ : ∃ W0, W0 = (w.alloc (.cells #[.int .i64 k, .int .i64 ek, .int .i64 ee, .int .i64 eN, .string ed, .slice ea en ec, .int .u8 a1, .int .u8 a2, .int .u8 a3, .int .u8 a4, .string nm, .int .i64 po] 41)) := ⟨_, rfl⟩
  have bl0 : Below w.heap.size w W0 := by rw [hW0]; exact (Below.refl _ _).alloc (Nat.le_refl _) _
  have T0 : Hid (Two X X B W0 b y P P) := (h.new bl0).less (fun k e => by rw [(hXe k).1 e]; exact Nat.le_refl _) (fun k e => by rw [(hXe k).1 e]; exact Nat.le_refl _)
  have B0 : Hid (Below B w W0) := bl0.mono hB
  have hB0 : B ≤ W0.heap.size := Nat.le_trans hB bl0.size
  have x0 : W0.heap[w.heap.size]? = some (boxA ⟨k, ⟨ek, ee, eN, ed, ea, en, ec⟩, ⟨a1, a2, a3, a4, nm, po⟩⟩) := by rw [hW0]; exact alloc_new _ _
  have X0 := hide x0
  have hXX : X w.heap.size := (hXe _).2 rfl
  have l0 : ∀ k, X k → k < W0.heap.size := fun k e => by rw [(hXe k).1 e]; exact lt_of_some x0
  have HW0 : Hid ((w.alloc (.cells #[.int .i64 k, .int .i64 ek, .int .i64 ee, .int .i64 eN, .string ed, .slice ea en ec, .int .u8 a1, .int .u8 a2, .int .u8 a3, .int .u8 a4, .string nm, .int .i64 po] 41)) = W0) := hW0.symm
  have AM := hide am
  have HL := hide hlen
  have ND := hide hdb
  have NN := hide hnm
  have NB := hide hNb
  unfold Ac.cs
  clear h bl0 hW0 am hlen x0 hdb hnm hNb hXe hX
  go_enter Try.func17, Try.ntmps17
  go_wp2_with fail
  rw [HW0.out]
  refine (AM.out _).mono ?_
  rintro e wa ⟨rfl, rfl⟩
  go_wp2_with fail
  refine ((outs_p2 T0.out hB0 l0).mono ?_)
  rintro e w1 ⟨a, c, rfl, s1, t1, k1⟩
  have hB1 : B ≤ w1.heap.size := Nat.le_trans hB0 k1.size
  have B1 := hide (B0.out.trans (k1.frm hB0))
  have T1 := hide t1
  have S1 := hide s1
  have l1 : ∀ k, X k → k < w1.heap.size := fun k e => Nat.lt_of_lt_of_le (l0 k e) k1.size
  have m1 := hide (s1.ltZ l1)
  clear t1 k1 s1
  go_wp2_with fail
  refine ((outs_r2 T1.out hB1 m1.out).mono ?_)
  rintro e w2 ⟨a', c', rfl, s2, t2, k2⟩
  have B2 := hide (B1.out.trans (k2.frm hB1))
  have hB2 : B ≤ w2.heap.size := Nat.le_trans hB1 k2.size
  have T2 := hide t2.mono
  have S1' := hide (S1.out.keepS k2 frm_blk)
  have S2 := hide s2
  clear t2 k2 s2
  go_wp2_with fail
  refine (same_outs _ _ _ _ _ _ _ _ S1'.out S2.out).mono ?_
  rintro e w3 ⟨rfl, b3⟩
  have B3 := hide (B2.out.trans (b3.mono hB2))
  have T3 := hide (T2.out.below b3)
  clear b3
  go_wp2_with fail
  go_ret
  exact ⟨by first | rfl | simp, T3.out, B3.out⟩
end Go.Proofs.Ytjojhnkibgkleaa
