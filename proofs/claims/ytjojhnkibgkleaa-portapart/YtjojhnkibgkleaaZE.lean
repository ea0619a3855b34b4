/-
  What both tell of an endpoint; conditions as each theorem has them.
-/
import Derived.Test.YtjojhnkibgkleaaZD
set_option linter.unusedSimpArgs false
set_option linter.unusedVariables false
set_option maxRecDepth 8000
namespace Go.Proofs.Ytjojhnkibgkleaa
open Go.RowKit Go.Lib

set_option maxRecDepth 100000 in
set_option maxHeartbeats 1000000 in
theorem same_no {w : World} {S T : Nat → Prop} {b eb y yb yc : Nat} {gv ov bv rv : Value} {R G : Nat → Nat} {ya : Option Addr} {Y : Nat → Nat} {V : Nat → Value} {E : Nat → Nat} {P : Pt} (h : IsPort w S b eb gv ov R G P) (r : IsRP w T y yb yc ya bv rv Y V E P) (e : Int) (hs : str_ P e = false) :
    Calls Try.prog 18 #[.pointer (some ⟨b, 0, none⟩), .pointer (some ⟨y, 0, none⟩), .int .i64 e] w fun x w' => x = .returned (.bool true) ∧ Below w.heap.size w w' := by
  have H := hide h
  have C1 : Hid (∀ W, Below w.heap.size w W → Calls Try.prog 30 #[.pointer (some ⟨b, 0, none⟩), .int .i64 e] W fun x w' => x = .returned (.tuple #[.int .i64 0, .int .i64 2]) ∧ Below w.heap.size w w') := fun W k => by
    have := state_at (h.below k) e
    simp only [stN, codeN, hs] at this
    exact this.mono fun x w' ⟨e1, e2⟩ => ⟨e1, k.trans (e2.mono k.size)⟩
  have C2 : Hid (∀ W, Below w.heap.size w W → Calls Try.prog 31 #[.pointer (some ⟨b, 0, none⟩), .int .i64 e] W fun x w' => x = .returned (.int .i64 0) ∧ Below w.heap.size w w') := fun W k => by
    have := waiting_at (h.below k) e
    simp only [qN, hs] at this
    exact this.mono fun x w' ⟨e1, e2⟩ => ⟨e1, k.trans (e2.mono k.size)⟩
  have C3 : Hid (∀ W, Below w.heap.size w W → Calls Try.prog 32 #[.pointer (some ⟨b, 0, none⟩), .int .i64 e] W fun x w' => x = .returned (.int .i64 0) ∧ Below w.heap.size w w') := fun W k => by
    have := room_at (h.below k) e
    simp only [roomN, hs] at this
    exact this.mono fun x w' ⟨e1, e2⟩ => ⟨e1, k.trans (e2.mono k.size)⟩
  have C4 : Hid (∀ W, Below w.heap.size w W → Calls Try.prog 37 #[.pointer (some ⟨b, 0, none⟩), .int .i64 e] W fun x w' => x = .returned (.bool false) ∧ Below w.heap.size w w') := fun W k => by
    have := last_at (h.below k) e
    simp only [lastN, hs, Bool.false_and] at this
    exact this.mono fun x w' ⟨e1, e2⟩ => ⟨e1, k.trans (e2.mono k.size)⟩
  have C5 : Hid (∀ W, Below w.heap.size w W → Calls Try.prog 27 #[.pointer (some ⟨b, 0, none⟩), .int .i64 e] W fun x w' => x = .returned (.bool false) ∧ Below w.heap.size w w') := fun W k => by
    have := ended_at (h.below k) e
    simp only [endN, lastN, hs, Bool.false_and] at this
    exact this.mono fun x w' ⟨e1, e2⟩ => ⟨e1, k.trans (e2.mono k.size)⟩
  have C6 : Hid (∀ W, Below w.heap.size w W → Calls Try.prog 26 #[.pointer (some ⟨b, 0, none⟩), .int .i64 e, .int .i64 9] W fun x w' => (∃ a c, x = .returned (.slice a 0 c)) ∧ Below w.heap.size w w') := fun W k => by
    have := peek_at (h.below k) e 9
    simp only [takeL, qN, hs] at this
    refine this.mono fun x w' ⟨v, e0, e1, e2⟩ => ⟨?_, k.trans (e2.mono k.size)⟩
    rcases e1 with ⟨rfl, _⟩ | ⟨g, rfl, _⟩
    · exact ⟨_, _, e0⟩
    · exact ⟨_, _, e0⟩
  have hY : Hid (∀ W, Below w.heap.size w W → W.cell? ⟨y, 2, none⟩ = some (.slice ya P.L.length yc)) := fun W k => (r.below k).cells.2.2.1
  have hc := r.cap
  unfold maxLen at hc
  obtain ⟨n, hn⟩ : ∃ n, n = P.L.length := ⟨_, rfl⟩
  rw [← hn] at hY hc
  obtain ⟨hc1, hc2⟩ := hc
  have hs' := hs
  unfold str_ inr_ at hs'
  rw [← hn] at hs'
  clear h r H hn hs
  go_enter Try.func18, Try.ntmps18
  go_wp2_with fail
  refine (C1.out _ (Below.refl _ _)).mono ?_
  rintro x w1 ⟨rfl, b1⟩
  have B1 := hide b1
  have y1 := hY.out _ b1
  clear b1 C1
  by_cases h0 : 0 ≤ e
  · have q0 : decide (0 ≤ e) = true := decide_eq_true h0
    have q1 : decide (e < (n : Int)) = false := by rw [q0] at hs'; simpa using hs'
    have h1 : ¬ e < (n : Int) := by simpa using q1
    clear hs'
    go_wp2_with fail
    refine (C2.out _ B1.out).mono ?_
    rintro x w2 ⟨rfl, b2⟩
    have B2 := hide b2
    clear b2
    go_wp2_with fail
    refine (C3.out _ B2.out).mono ?_
    rintro x w3 ⟨rfl, b3⟩
    have B3 := hide b3
    clear b3
    go_wp2_with fail
    refine (C4.out _ B3.out).mono ?_
    rintro x w4 ⟨rfl, b4⟩
    have B4 := hide b4
    clear b4
    go_wp2_with fail
    refine (C5.out _ B4.out).mono ?_
    rintro x w5 ⟨rfl, b5⟩
    have B5 := hide b5
    clear b5
    go_wp2_with fail
    refine (C6.out _ B5.out).mono ?_
    rintro x w6 ⟨⟨ax, cx, rfl⟩, b6⟩
    have B6 := hide b6
    clear b6
    go_wp2_with fail
    go_ret
    exact ⟨rfl, B6.out⟩
  · have q0 : decide (0 ≤ e) = false := decide_eq_false h0
    clear hs'
    go_wp2_with fail
    refine (C2.out _ B1.out).mono ?_
    rintro x w2 ⟨rfl, b2⟩
    have B2 := hide b2
    clear b2
    go_wp2_with fail
    refine (C3.out _ B2.out).mono ?_
    rintro x w3 ⟨rfl, b3⟩
    have B3 := hide b3
    clear b3
    go_wp2_with fail
    refine (C4.out _ B3.out).mono ?_
    rintro x w4 ⟨rfl, b4⟩
    have B4 := hide b4
    clear b4
    go_wp2_with fail
    refine (C5.out _ B4.out).mono ?_
    rintro x w5 ⟨rfl, b5⟩
    have B5 := hide b5
    clear b5
    go_wp2_with fail
    refine (C6.out _ B5.out).mono ?_
    rintro x w6 ⟨⟨ax, cx, rfl⟩, b6⟩
    have B6 := hide b6
    clear b6
    go_wp2_with fail
    go_ret
    exact ⟨rfl, B6.out⟩

set_option maxRecDepth 100000 in
set_option maxHeartbeats 1000000 in
theorem same_yes {w : World} {S T : Nat → Prop} {b eb y yb yc : Nat} {gv ov bv rv : Value} {R G : Nat → Nat} {ya : Option Addr} {Y : Nat → Nat} {V : Nat → Value} {E : Nat → Nat} {P : Pt} (h : IsPort w S b eb gv ov R G P) (r : IsRP w T y yb yc ya bv rv Y V E P) (i : Nat) (hi : i < P.L.length) :
    Calls Try.prog 18 #[.pointer (some ⟨b, 0, none⟩), .pointer (some ⟨y, 0, none⟩), .int .i64 i] w fun x w' => x = .returned (.bool true) ∧ Below w.heap.size w w' := by
  have hs : str_ P i = true := by unfold str_ inr_; simp; omega
  have C1 : Hid (∀ W, Below w.heap.size w W → Calls Try.prog 30 #[.pointer (some ⟨b, 0, none⟩), .int .i64 i] W fun x w' => x = .returned (.tuple #[.int .i64 (at0 P.L i).st, .int .i64 0]) ∧ Below w.heap.size w w') := fun W k => by
    have := state_at (h.below k) i
    simp only [stN, codeN, hs, if_true, Int.toNat_natCast] at this
    exact this.mono fun x w' ⟨e1, e2⟩ => ⟨e1, k.trans (e2.mono k.size)⟩
  obtain ⟨q, hq⟩ : ∃ q, q = (at0 P.L i).q.length := ⟨_, rfl⟩
  have C2 : Hid (∀ W, Below w.heap.size w W → Calls Try.prog 31 #[.pointer (some ⟨b, 0, none⟩), .int .i64 i] W fun x w' => x = .returned (.int .i64 q) ∧ Below w.heap.size w w') := fun W k => by
    have := waiting_at (h.below k) i
    simp only [qN, hs, if_true, Int.toNat_natCast, ← hq] at this
    exact this.mono fun x w' ⟨e1, e2⟩ => ⟨e1, k.trans (e2.mono k.size)⟩
  have C3 : Hid (∀ W, Below w.heap.size w W → Calls Try.prog 32 #[.pointer (some ⟨b, 0, none⟩), .int .i64 i] W fun x w' => x = .returned (.int .i64 (roomN P i)) ∧ Below w.heap.size w w') := fun W k => (room_at (h.below k) i).mono fun x w' ⟨e1, e2⟩ => ⟨e1, k.trans (e2.mono k.size)⟩
  have D3 : Hid (∀ W, Below w.heap.size w W → Calls Try.prog 65 #[.pointer (some ⟨y, 0, none⟩), .int .i64 i] W fun x w' => x = .returned (.int .i64 (roomN P i)) ∧ W = w') := fun W k => room_r (r.below k) i
  have C4 : Hid (∀ W, Below w.heap.size w W → Calls Try.prog 37 #[.pointer (some ⟨b, 0, none⟩), .int .i64 i] W fun x w' => x = .returned (.bool (lastN P i)) ∧ Below w.heap.size w w') := fun W k => (last_at (h.below k) i).mono fun x w' ⟨e1, e2⟩ => ⟨e1, k.trans (e2.mono k.size)⟩
  have D4 : Hid (∀ W, Below w.heap.size w W → Calls Try.prog 66 #[.pointer (some ⟨y, 0, none⟩), .int .i64 i] W fun x w' => x = .returned (.bool (lastN P i)) ∧ W = w') := fun W k => last_r (r.below k) i
  have C5 : Hid (∀ W, Below w.heap.size w W → Calls Try.prog 27 #[.pointer (some ⟨b, 0, none⟩), .int .i64 i] W fun x w' => x = .returned (.bool (endN P i)) ∧ Below w.heap.size w w') := fun W k => (ended_at (h.below k) i).mono fun x w' ⟨e1, e2⟩ => ⟨e1, k.trans (e2.mono k.size)⟩
  have D5 : Hid (∀ W, Below w.heap.size w W → Calls Try.prog 67 #[.pointer (some ⟨y, 0, none⟩), .int .i64 i] W fun x w' => x = .returned (.bool (endN P i)) ∧ W = w') := fun W k => ended_r (r.below k) i
  have F1 : Hid (∀ W, Below w.heap.size w W → W.cell? ⟨y, 2, none⟩ = some (.slice (some ⟨yb, 0, none⟩) P.L.length yc) ∧ W.cell? ⟨yb, i * 6, none⟩ = some (.int .i64 (at0 P.L i).st) ∧ W.cell? ⟨yb, i * 6 + 5, none⟩ = some (.pointer (some ⟨Y i, 0, none⟩)) ∧ ∃ va vc, W.cell? ⟨Y i, 1, none⟩ = some (.slice va q vc)) := fun W k => by
    obtain ⟨q2, ⟨c0, c1, c2, c3, c4, c5⟩, _⟩ := (r.below k).end_ hi
    obtain ⟨v1, ⟨va, vc, hv⟩, _⟩ := ((r.below k).ring i hi).cellV
    rw [hv, ← hq] at v1
    exact ⟨q2, c0, c5, va, vc, v1⟩
  obtain ⟨_, _, _, hc1, hc2, hn⟩ := r.end_ hi
  obtain ⟨n, hn'⟩ : ∃ n, n = P.L.length := ⟨_, rfl⟩
  rw [← hn'] at F1 hi hc1 hn
  obtain ⟨st, hst⟩ : ∃ st, st = (at0 P.L i).st := ⟨_, rfl⟩
  rw [← hst] at C1 F1
  generalize roomN P i = ro at C3 D3
  generalize lastN P i = la at C4 D4
  generalize endN P i = en at C5 D5
  obtain ⟨g1, g2, g3, va, vc, g4⟩ := F1.out w (Below.refl _ _)
  have HC : Hid (∀ W, Below w.heap.size w W → W.cell? ⟨y, 2, none⟩ = some (.slice (some ⟨yb, 0, none⟩) n yc) ∧ W.cell? ⟨yb, i * 6, none⟩ = some (.int .i64 st) ∧ W.cell? ⟨yb, i * 6 + 5, none⟩ = some (.pointer (some ⟨Y i, 0, none⟩)) ∧ W.cell? ⟨Y i, 1, none⟩ = some (.slice va q vc)) := fun W k =>
    ⟨(k.cell (p := ⟨y, 2, none⟩) (cell_lt g1)).trans g1, (k.cell (p := ⟨yb, i * 6, none⟩) (cell_lt g2)).trans g2, (k.cell (p := ⟨yb, i * 6 + 5, none⟩) (cell_lt g3)).trans g3, (k.cell (p := ⟨Y i, 1, none⟩) (cell_lt g4)).trans g4⟩
  generalize Y i = yi at HC
  clear h r hs hq hn' hst F1 g1 g2 g3 g4
  go_enter Try.func18, Try.ntmps18
  go_wp2_with fail
  refine (C1.out _ (Below.refl _ _)).mono ?_
  rintro x w1 ⟨rfl, b1⟩
  have B1 := hide b1
  have h1 := HC.out _ b1
  obtain ⟨f1, f2, f3, f4⟩ := h1
  have h1 := HC.out _ b1
  clear b1 C1
  have i0 : ¬ (n : Int) ≤ (i : Int) := by omega
  have i1 : decide (0 ≤ (i : Int)) = true := decide_eq_true (by omega)
  have i2 : decide ((i : Int) < (n : Int)) = true := decide_eq_true (by omega)
  go_wp2_with fail
  go_region_held3 (fun w' => w'.cell? ⟨y, 2, none⟩ = some (.slice (some ⟨yb, 0, none⟩) n yc) ∧ w'.cell? ⟨yb, i * 6, none⟩ = some (.int .i64 st) ∧ w'.cell? ⟨yb, i * 6 + 5, none⟩ = some (.pointer (some ⟨yi, 0, none⟩)) ∧ w'.cell? ⟨yi, 1, none⟩ = some (.slice va q vc)) (first | assumption | go_keep) (first
    | (go_at_call 67; refine (D5.out _ K5.out).mono ?_; rintro x w8 ⟨rfl, rfl⟩)
    | (go_at_call 27; refine (C5.out _ K4.out).mono ?_; rintro x w5 ⟨rfl, k5⟩; have K5 := hide k5; have h5 := HC.out _ k5; clear k5)
    | (go_at_call 66; refine (D4.out _ K4.out).mono ?_; rintro x w7 ⟨rfl, rfl⟩)
    | (go_at_call 37; refine (C4.out _ K3.out).mono ?_; rintro x w4 ⟨rfl, k4⟩; have K4 := hide k4; have h4 := HC.out _ k4; clear k4)
    | (go_at_call 65; refine (D3.out _ K3.out).mono ?_; rintro x w6 ⟨rfl, rfl⟩)
    | (go_at_call 32; refine (C3.out _ K2.out).mono ?_; rintro x w3 ⟨rfl, k3⟩; have K3 := hide k3; have h3 := HC.out _ k3; clear k3)
    | (go_at_call 31; refine (C2.out _ (by first | exact B1.out | exact B1.out.drew)).mono ?_; rintro x w2 ⟨rfl, k2⟩; have K2 := hide k2; have h2 := HC.out _ k2; clear k2))
  all_goals
    go_wp2_with fail
    go_ret
    exact ⟨by first | rfl | simp, K5.out⟩
/-- Both tell the same of each endpoint. -/
theorem same_at {X Z : Nat → Prop} {B : Nat} {w : World} {b y : Nat} {P : Pt} (h : Two X Z B w b y P P) (e : Int) : Calls Try.prog 18 #[.pointer (some ⟨b, 0, none⟩), .pointer (some ⟨y, 0, none⟩), .int .i64 e] w fun x w' => x = .returned (.bool true) ∧ Below w.heap.size w w' := by
  obtain ⟨S, T, ⟨eb, gv, ov, R, G, h1⟩, ⟨yb, yc, ya, bv, rv, Y, V, E, h2⟩, _⟩ := h
  cases hs : str_ P e with
  | false => exact same_no h1 h2 e hs
  | true =>
    obtain ⟨i, rfl, hi⟩ := str_nat hs
    exact same_yes h1 h2 i hi
end Go.Proofs.Ytjojhnkibgkleaa
