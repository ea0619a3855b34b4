/-
  Events, destinations, calls, texts and numbers that came in; conditions as each theorem has them.
-/
import Derived.Test.YtjojhnkibgkleaaX
import Derived.Deep.Strs
import Derived.SliceStrings
import Derived.SizedLaws
import Derived.ProofKit
import Derived.ChangeSame
import Derived.JoinedCond
import Derived.Lib.SmallJoins
import Derived.OpenShut
set_option maxRecDepth 100000
set_option linter.unusedSimpArgs false
set_option linter.unusedVariables false
namespace Go.Proofs.Ytjojhnkibgkleaa
open Go.ChangeShapes Go.WideShapes Go.ChangeAt Go.RowKit
theorem c5 : Try.prog.cellsOf 5 = 1 := by kernel_rfl
theorem c4 : Try.prog.cellsOf 4 = 1 := by kernel_rfl
theorem c9 : Try.prog.cellsOf 9 = 1 := by kernel_rfl
theorem c3 : Try.prog.cellsOf 3 = 1 := by kernel_rfl
theorem c31 : Try.prog.cellsOf 31 = 1 := by kernel_rfl
theorem c33 : Try.prog.cellsOf 33 = 5 := by kernel_rfl
theorem c35 : Try.prog.cellsOf 35 = 4 := by kernel_rfl
theorem c37 : Try.prog.cellsOf 37 = 5 := by kernel_rfl
theorem c39 : Try.prog.cellsOf 39 = 6 := by kernel_rfl
theorem c41 : Try.prog.cellsOf 41 = 12 := by kernel_rfl
theorem by41 : Try.prog.bytesOf 41 = 104 := by kernel_rfl
theorem one_cell {c : Value} {l : List Value} (h : [c] = l) {v : Value} (hl : l = [v]) : c = v := by rw [hl] at h; simpa using h
variable {H : Type} {enc : TypeId × Value → H} {W : World} {base : Nat} {sp : Nat → Bool} {held : Bool} {fuel : Nat}
theorem str_open {c : Value} {x : DataW H × List MemPlace} (h : DataW.trod enc Try.prog W base sp held fuel 9 [c] = some x) : ∃ s : ByteArray, c = .string s ∧ s.size ≤ maxLen := by
  obtain ⟨s, e, hx, hs⟩ := DataW.trod_string Try.underlying9 h
  simp at e
  exact ⟨s, e, hs⟩
theorem wf_i64 {n : Int} (h : (Lit.int .i64 n).wf = true) : -9223372036854775808 ≤ n ∧ n ≤ 9223372036854775807 := by
  have := bounds_i64 h
  omega
theorem int_of {c : Value} {x : DataW H × List MemPlace} (h : DataW.trod enc Try.prog W base sp held fuel 3 [c] = some x) : ∃ p, c = .int .i64 p ∧ (-9223372036854775808 ≤ p ∧ p ≤ 9223372036854775807) := by
  obtain ⟨n, e, _, hw⟩ := DataW.trod_int Try.underlying3 h
  simp at e
  exact ⟨n, e, wf_i64 hw⟩
theorem u8_of {c : Value} {x : DataW H × List MemPlace} (h : DataW.trod enc Try.prog W base sp held fuel 5 [c] = some x) : ∃ p, c = .int .u8 p := by
  obtain ⟨n, e, _, hw⟩ := DataW.trod_int Try.underlying5 h
  simp at e
  exact ⟨n, e⟩
theorem slice_of {v : Value} {x : DataW H × List MemPlace} (hf : DataW.trod enc Try.prog W base sp held fuel 31 [v] = some x) : ∃ a n c, v = .slice a n c := by
  rcases Deep.open_slice Try.underlying31 hf with ⟨hcs, _⟩ | ⟨x, l, c', m, nn, D, Pl, hcs, _⟩
  · simp at hcs; exact ⟨_, _, _, hcs⟩
  · simp at hcs; exact ⟨_, _, _, hcs⟩
/-- An event that came in. -/
structure Ev where
  k : Int
  e : Int
  N : Int
  d : ByteArray
  a : Option Addr
  n : Nat
  c : Nat
def evV (x : Ev) : Array Value := #[.int .i64 x.k, .int .i64 x.e, .int .i64 x.N, .string x.d, .slice x.a x.n x.c]
structure Ev.Ok (x : Ev) : Prop where
  kb : -9223372036854775808 ≤ x.k ∧ x.k ≤ 9223372036854775807
  eb : -9223372036854775808 ≤ x.e ∧ x.e ≤ 9223372036854775807
  Nb : -9223372036854775808 ≤ x.N ∧ x.N ≤ 9223372036854775807
  db : x.d.size ≤ maxLen
theorem four {α : Type} {l : List α} (h : l.length = 4) : ∃ a b c d, l = [a, b, c, d] := by
  match l, h with
  | [a, b, c, d], _ => exact ⟨a, b, c, d, rfl⟩
theorem five {α : Type} {l : List α} (h : l.length = 5) : ∃ a b c d e, l = [a, b, c, d, e] := by
  match l, h with
  | [a, b, c, d, e], _ => exact ⟨a, b, c, d, e, rfl⟩
theorem six {α : Type} {l : List α} (h : l.length = 6) : ∃ a b c d e f, l = [a, b, c, d, e, f] := by
  match l, h with
  | [a, b, c, d, e, f], _ => exact ⟨a, b, c, d, e, f, rfl⟩
theorem three {α : Type} {l : List α} (h : l.length = 3) : ∃ a b c, l = [a, b, c] := by
  match l, h with
  | [a, b, c], _ => exact ⟨a, b, c, rfl⟩
theorem two {α : Type} {l : List α} (h : l.length = 2) : ∃ a b, l = [a, b] := by
  match l, h with
  | [a, b], _ => exact ⟨a, b, rfl⟩
theorem twelve {α : Type} {l : List α} (h : l.length = 12) : ∃ a b c d e f g h' i j k m, l = [a, b, c, d, e, f, g, h', i, j, k, m] := by
  match l, h with
  | [a, b, c, d, e, f, g, h', i, j, k, m], _ => exact ⟨a, b, c, d, e, f, g, h', i, j, k, m, rfl⟩
theorem ev_trod {cs : List Value} {x : DataW H × List MemPlace} (h : DataW.trod enc Try.prog W base sp held fuel 33 cs = some x) : ∃ y : Ev, cs = (evV y).toList ∧ y.Ok := by
  obtain ⟨xs, m, _, hx, hl, hlen, hf⟩ := DataW.trod_struct Try.underlying33 h
  obtain ⟨y0, y1, y2, y3, y4, rfl⟩ := five hlen
  rw [c33] at hl
  obtain ⟨k0, k1, k2, k3, k4, rfl⟩ := five hl
  have h0 : DataW.trod enc Try.prog W base sp held m 3 [k0] = some y0 := by simpa [c3] using hf 0 _ rfl
  have h1 : DataW.trod enc Try.prog W base sp held m 3 [k1] = some y1 := by simpa [c3] using hf 1 _ rfl
  have h2 : DataW.trod enc Try.prog W base sp held m 3 [k2] = some y2 := by simpa [c3] using hf 2 _ rfl
  have h3 : DataW.trod enc Try.prog W base sp held m 9 [k3] = some y3 := by simpa [c9] using hf 3 _ rfl
  have h4 : DataW.trod enc Try.prog W base sp held m 31 [k4] = some y4 := by simpa [c31] using hf 4 _ rfl
  obtain ⟨k, rfl, w0⟩ := int_of h0
  obtain ⟨e, rfl, w1⟩ := int_of h1
  obtain ⟨N, rfl, w2⟩ := int_of h2
  obtain ⟨t, rfl, ht⟩ := str_open h3
  obtain ⟨a, n, c, rfl⟩ := slice_of h4
  exact ⟨⟨k, e, N, t, a, n, c⟩, rfl, ⟨w0, w1, w2, ht⟩⟩
def deV (d : De) : Array Value := #[.int .u8 d.a1, .int .u8 d.a2, .int .u8 d.a3, .int .u8 d.a4, .string d.nm, .int .i64 d.po]
theorem de_trod {cs : List Value} {x : DataW H × List MemPlace} (h : DataW.trod enc Try.prog W base sp held fuel 39 cs = some x) : ∃ y : De, cs = (deV y).toList ∧ y.nm.size ≤ maxLen := by
  obtain ⟨xs, m, _, hx, hl, hlen, hf⟩ := DataW.trod_struct Try.underlying39 h
  obtain ⟨y0, y1, rfl⟩ := two hlen
  rw [c39] at hl
  obtain ⟨k0, k1, k2, k3, k4, k5, rfl⟩ := six hl
  have h0 : DataW.trod enc Try.prog W base sp held m 37 [k0, k1, k2, k3, k4] = some y0 := by simpa [c37] using hf 0 _ rfl
  have h1 : DataW.trod enc Try.prog W base sp held m 3 [k5] = some y1 := by simpa [c3] using hf 1 _ rfl
  obtain ⟨xs, m2, _, hx, hl, hlen, hf⟩ := DataW.trod_struct Try.underlying37 h0
  obtain ⟨z0, z1, rfl⟩ := two hlen
  have g0 : DataW.trod enc Try.prog W base sp held m2 35 [k0, k1, k2, k3] = some z0 := by simpa [c35] using hf 0 _ rfl
  have g1 : DataW.trod enc Try.prog W base sp held m2 9 [k4] = some z1 := by simpa [c9] using hf 1 _ rfl
  obtain ⟨xs, m3, _, hx, hl, hlen, hf⟩ := DataW.trod_struct Try.underlying35 g0
  obtain ⟨u0, u1, u2, u3, rfl⟩ := four hlen
  have f0 : DataW.trod enc Try.prog W base sp held m3 5 [k0] = some u0 := by simpa [c5] using hf 0 _ rfl
  have f1 : DataW.trod enc Try.prog W base sp held m3 5 [k1] = some u1 := by simpa [c5] using hf 1 _ rfl
  have f2 : DataW.trod enc Try.prog W base sp held m3 5 [k2] = some u2 := by simpa [c5] using hf 2 _ rfl
  have f3 : DataW.trod enc Try.prog W base sp held m3 5 [k3] = some u3 := by simpa [c5] using hf 3 _ rfl
  obtain ⟨a1, rfl⟩ := u8_of f0
  obtain ⟨a2, rfl⟩ := u8_of f1
  obtain ⟨a3, rfl⟩ := u8_of f2
  obtain ⟨a4, rfl⟩ := u8_of f3
  obtain ⟨t, rfl, ht⟩ := str_open g1
  obtain ⟨p, rfl, _⟩ := int_of h1
  exact ⟨⟨a1, a2, a3, a4, t, p⟩, rfl, ht⟩
theorem agg_of {r : Reach} {b0 : Nat} {v : Value} {t : TypeId} {fs : Array Field} (hu : Try.prog.underlying t = some (.struct fs)) (hval : Value.okWide Try.prog W r b0 t v) : ∃ cs, v = .agg cs := by
  have h := hval
  unfold Value.okWide at h
  rw [hu] at h
  cases v <;> simp at h
  exact ⟨_, rfl⟩

theorem ev_open {r : Reach} {b0 : Nat} {v : Value} {d : DataW H} {ps : List MemPlace} (hval : Value.okWide Try.prog W r b0 33 v) (hd : DataW.Trod enc Try.prog W base sp held 33 v d ps) : ∃ y : Ev, v = .agg (evV y) ∧ y.Ok := by
  obtain ⟨cs, rfl⟩ := agg_of Try.underlying33 hval
  obtain ⟨fuel, hf⟩ := hd
  obtain ⟨y, e, h⟩ := ev_trod (cs := cs.toList) hf
  exact ⟨y, by rw [Array.toList_inj.1 e], h⟩
theorem de_open {r : Reach} {b0 : Nat} {v : Value} {d : DataW H} {ps : List MemPlace} (hval : Value.okWide Try.prog W r b0 39 v) (hd : DataW.Trod enc Try.prog W base sp held 39 v d ps) : ∃ y : De, v = .agg (deV y) ∧ y.nm.size ≤ maxLen := by
  obtain ⟨cs, rfl⟩ := agg_of Try.underlying39 hval
  obtain ⟨fuel, hf⟩ := hd
  obtain ⟨y, e, h⟩ := de_trod (cs := cs.toList) hf
  exact ⟨y, by rw [Array.toList_inj.1 e], h⟩

end Go.Proofs.Ytjojhnkibgkleaa
