/-
  A call of a port beside the reference's; conditions as each theorem has them.
-/
import Derived.Test.YtjojhnkibgkleaaZH
set_option linter.unusedSimpArgs false
set_option linter.unusedVariables false
set_option maxRecDepth 8000
namespace Go.Proofs.Ytjojhnkibgkleaa
open Go.RowKit Go.Lib

variable {B : Nat} {w : World} {b y : Nat} {P : Pt}
/-- n bytes of block g that may be written. -/
def NumB (w : World) (a : Option Addr) (n g : Nat) : Prop := 0 < n → a = some ⟨g, 0, none⟩ ∧ g < w.heap.size ∧ ∀ j, j < n → (∃ z, w.cell? ⟨g, 0 + j, none⟩ = some (.int .u8 z)) ∧ w.frozen? ⟨g, 0 + j, none⟩ = false
theorem NumB.keep {w w' : World} {a : Option Addr} {n g : Nat} (h : NumB w a n g) (k : Below w.heap.size w w') : NumB w' a n g := fun h0 => by
  obtain ⟨e, hl, hc⟩ := h h0
  refine ⟨e, Nat.lt_of_lt_of_le hl k.size, fun j hj => ?_⟩
  obtain ⟨⟨z, hz⟩, hf⟩ := hc j hj
  exact ⟨⟨z, (k.cell (p := ⟨g, 0 + j, none⟩) hl).trans hz⟩, (k.frozen (p := ⟨g, 0 + j, none⟩) hl).trans hf⟩
theorem NumB.set {w : World} {a : Option Addr} {n g : Nat} (h : NumB w a n g) (k : Nat) (z : Int) : NumB (w.setCell ⟨g, k, none⟩ (.int .u8 z)) a n g := fun h0 => by
  obtain ⟨e, hl, hc⟩ := h h0
  refine ⟨e, by simpa using hl, fun j hj => ?_⟩
  obtain ⟨⟨y, hy⟩, hf⟩ := hc j hj
  refine ⟨?_, by rw [World.frozen?_setCell]; exact hf⟩
  by_cases hjk : k = 0 + j
  · rw [← hjk] at hy ⊢
    exact ⟨z, World.cell?_setCell_same (h := hy) ..⟩
  · exact ⟨y, (World.cell?_setCell_other (h := fun e => hjk (congrArg Addr.off e)) ..).trans hy⟩
theorem Mine.numb {C : Nat} {w : World} {v : Value} {l : List Int} (h : Mine C w v l) (hl : l.length ≤ maxLen) (hb : ∀ x ∈ l, 0 ≤ x ∧ x < 256) : ∃ a c g, v = .slice a l.length c ∧ Src w a l.length c l ∧ NumB w a l.length g ∧ C ≤ g := by
  have hs := h.src hl hb
  rcases h with ⟨rfl, rfl⟩ | ⟨g, rfl, hg, hh⟩
  · obtain ⟨a, c, e, hs, _⟩ := hs
    simp only [Value.slice.injEq] at e
    exact ⟨a, c, C, by simp only [Value.slice.injEq]; exact e, hs, fun h0 => by simp at h0, Nat.le_refl _⟩
  · obtain ⟨a, c, e, hs, _⟩ := hs
    simp only [Value.slice.injEq] at e
    obtain ⟨rfl, _, rfl⟩ := e
    refine ⟨_, _, g, rfl, hs, fun h0 => ⟨rfl, lt_of_some hh, fun j hj => ⟨?_, by simp [World.frozen?, hh]⟩⟩, hg⟩
    rw [Nat.zero_add]
    exact ⟨_, row_cell hh j hj⟩
theorem peek_pV {X Z : Nat → Prop} {Q : Pt} (h : Two X Z B w b y P Q) (e n : Int) : Calls Try.prog 26 #[.pointer (some ⟨b, 0, none⟩), .int .i64 e, .int .i64 n] w fun x w' => ∃ a c g, x = .returned (.slice a (takeL P e n).length c) ∧ Src w' a (takeL P e n).length c (takeL P e n) ∧ NumB w' a (takeL P e n).length g ∧ w.heap.size ≤ g ∧ Below w.heap.size w w' := by
  obtain ⟨S, T, ⟨eb, gv, ov, R, G, h1⟩, h2, _⟩ := h
  have hl := takeL_len h1 e n
  refine (peek_at h1 e n).mono fun x w' ⟨v, e0, e1, e2⟩ => ?_
  obtain ⟨a, c, g, rfl, q1, q2, q3⟩ := e1.numb (by unfold maxLen; omega) hl.2
  exact ⟨a, c, g, e0, q1, q2, q3, e2⟩
theorem peek_rV {X Z : Nat → Prop} {Q : Pt} (h : Two X Z B w b y P Q) (e n : Int) : Calls Try.prog 58 #[.pointer (some ⟨y, 0, none⟩), .int .i64 e, .int .i64 n] w fun x w' => ∃ a c, x = .returned (.slice a (takeL Q e n).length c) ∧ Src w' a (takeL Q e n).length c (takeL Q e n) ∧ Below w.heap.size w w' := by
  obtain ⟨S, T, h1, ⟨eb, ec, ea, bv, ov, Y, V, E, h2⟩, _⟩ := h
  exact peek_r h2 e n
set_option maxRecDepth 100000 in
set_option maxHeartbeats 1000000 in
theorem play_peek (h : Two nob nob B w b y P P) (hB : B ≤ w.heap.size) (x : Ac) (hx : x.In) (hlen : P.ou.length ≤ 1900000000000) (am : Am x.k 6) : Calls Try.prog 17 #[.pointer (some ⟨b, 0, none⟩), .pointer (some ⟨y, 0, none⟩), .agg x.cs.toArray] w (Played B w b y (P)) := by
  obtain ⟨k, ⟨ek, ee, eN, ed, ea, en, ec⟩, ⟨a1, a2, a3, a4, nm, po⟩⟩ := x
  obtain ⟨⟨hkb, heb, hNb, hdb⟩, hnm, _⟩ := hx
  simp only [] at *
  obtain ⟨X, hX⟩ : ∃ X : Nat → Prop, X = fun k => k = w.heap.size := ⟨_, rfl⟩
  have hXe : ∀ k, X k ↔ k = w.heap.size := fun k => by rw [hX]
  obtain ⟨W0, hW0⟩ : ∃ W0, W0 = (w.alloc (.cells #[.int .i64 k, .int .i64 ek, .int .i64 ee, .int .i64 eN, .string ed, .slice ea en ec, .int .u8 a1, .int .u8 a2, .int .u8 a3, .int .u8 a4, .string nm, .int .i64 po] 41)) := ⟨_, rfl⟩
  have bl0 : Below w.heap.size w W0 := by rw [hW0]; exact (Below.refl _ _).alloc (Nat.le_refl _) _
  have T0 : Hid (Two X X B W0 b y P P) := (h.new bl0).less (fun k e => by rw [(hXe k).1 e]; exact Nat.le_refl _) (fun k e => by rw [(hXe k).1 e]; exact Nat.le_refl _)
  have B0 : Hid (Below B w W0) := bl0.mono hB
  have hB0 : B ≤ W0.heap.size := Nat.le_trans hB bl0.size
  have x0 : W0.heap[w.heap.size]? = some (boxA ⟨k, ⟨ek, ee, eN, ed, ea, en, ec⟩, ⟨a1, a2, a3, a4, nm, po⟩⟩) := by rw [hW0]; exact alloc_new _ _
  have X0 := hide x0
  have TT := hide h
  have BL0 := hide bl0
  have hXX : X w.heap.size := (hXe _).2 rfl
  have l0 : ∀ k, X k → k < W0.heap.size := fun k e => by rw [(hXe k).1 e]; exact lt_of_some x0
  have HW0 : Hid ((w.alloc (.cells #[.int .i64 k, .int .i64 ek, .int .i64 ee, .int .i64 eN, .string ed, .slice ea en ec, .int .u8 a1, .int .u8 a2, .int .u8 a3, .int .u8 a4, .string nm, .int .i64 po] 41)) = W0) := hW0.symm
  have AM := hide am
  have HL := hide hlen
  have ND := hide hdb
  have NN := hide hnm
  have NB := hide hNb
  unfold Ac.cs
  clear h bl0 hW0 am hlen x0 hdb hnm hNb hXe hX
  go_enter Try.func17, Try.ntmps17
  go_wp2_with fail
  rw [HW0.out]
  refine (AM.out _).mono ?_
  rintro e wa ⟨rfl, rfl⟩
  obtain ⟨f3, f4⟩ := boxA_cells X0.out
  simp only [] at f3 f4
  clear f4
  have hbx : w.heap.size < W0.heap.size := l0 _ hXX
  go_wp2_with fail
  refine (peek_pV T0.out ee eN).mono ?_
  rintro e w1 ⟨a, c, g, rfl, s1, n1, hg, k1⟩
  have S1 := hide s1
  have N1 := hide n1
  have hc1 := s1.hcap
  have hm1 := s1.hmax
  unfold maxLen at hm1
  have T1 := hide (T0.out.below k1)
  have K1 := hide (BL0.out.trans (k1.mono BL0.out.size))
  have g1 := (k1.cell (p := ⟨w.heap.size, 3, none⟩) hbx).trans f3
  have hw1 : w.heap.size < w1.heap.size := Nat.lt_of_lt_of_le hbx k1.size
  obtain ⟨L, hL⟩ : ∃ L, L = takeL P ee eN := ⟨_, rfl⟩
  have HPR : Hid (∀ W, Below w1.heap.size w1 W → Calls Try.prog 58 #[.pointer (some ⟨y, 0, none⟩), .int .i64 ee, .int .i64 eN] W fun x w' => ∃ a c, x = .returned (.slice a L.length c) ∧ Src w' a L.length c L ∧ Below W.heap.size W w') := fun W k => by
    rw [hL]; exact peek_rV (T1.out.below k) ee eN
  rw [← hL] at S1 N1 hc1 ⊢
  obtain ⟨n, hn⟩ : ∃ n, n = L.length := ⟨_, rfl⟩
  rw [← hn] at S1 N1 hc1 HPR ⊢
  clear s1 n1 k1 hL hn f3
  go_wp2_with fail
  refine (HPR.out _ (Below.refl _ _)).mono ?_
  rintro e w2 ⟨a', c', rfl, s2, k2⟩
  have S2 := hide s2
  have S1' := hide (S1.out.keep (fun q o e h0 => k2.block q (S1.out.lt h0 e)))
  have N2 := hide (N1.out.keep k2)
  have K2 := hide (K1.out.trans (k2.mono K1.out.size))
  clear s2 k2 HPR
  go_wp2_with fail
  refine (same_bytes _ _ _ _ _ _ _ _ S1'.out S2.out).mono ?_
  rintro e w3 ⟨rfl, rfl⟩
  clear g1
  go_wp2_with fail
  go_loopw [18] (fun v wq => ∃ kq : Nat, kq ≤ n ∧ v = .int .i64 kq ∧ Hid (KeptS (fun j => j = g) w2 wq) ∧ Hid (NumB wq a n g)) (fun v _ => n - (RowKit.intOf v).toNat)
  case atStart => exact ⟨0, Nat.zero_le _, rfl, KeptS.refl _ _, N2⟩
  case round =>
    clear N2
    obtain ⟨kq, hk, rfl, HKq, HNq⟩ := hrel
    by_cases hkn : kq < n
    · have hd2 : decide ((kq : Int) < (n : Int)) = true := decide_eq_true (by omega)
      obtain ⟨q1, q2, q3⟩ := HNq.out (by omega)
      subst q1
      obtain ⟨⟨y9, hy⟩, hfz⟩ := q3 kq hkn
      rw [Nat.zero_add] at hy hfz
      have HN9 := HNq
      clear q2 q3 HNq
      go_wp2_with fail
      go_roundw
      case rel => exact ⟨kq + 1, by omega, by go_num, HKq.out.setCell (p := ⟨g, kq, none⟩) rfl _, HN9.out.set _ _⟩
      case measure => simp [RowKit.intOf]; omega
    · have hd2 : decide ((kq : Int) < (n : Int)) = false := decide_eq_false (by omega)
      have HT := hide ((TT.out.new K2.out).off HKq.out (fun i e => by subst e; exact ⟨by omega, by omega⟩)).mono
      have HB := hide ((K2.out.mono hB).trans (HKq.out.below (Nat.le_trans hB K2.out.size) (fun x e => by subst e; omega)))
      go_wp2_with fail
      go_ret
      exact ⟨by first | rfl | simp, HT.out, HB.out⟩
end Go.Proofs.Ytjojhnkibgkleaa
