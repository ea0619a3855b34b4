/-
  The reader of messages: records; conditions as each theorem has them.
-/
import Derived.Test.YtabkelhipmijfaaDoorMD
import Derived.Test.YtabkelhipmijfaaDoorME
set_option linter.unusedSimpArgs false
set_option linter.unusedVariables false
namespace Go.Proofs.YtabkelhipmijfaaDoor
open Go.RowKit
theorem Rdr.away {w w' : World} {g : Nat} {ty : TypeId} {R : List Value} {a : Option Addr} {n c : Nat} {b : List Nat} {s : Sr} (h : Rdr w g ty R a n c b s) {hb : Nat} {tz : TypeId} {C : List Value} (hr : Row w hb tz C) (hne : tz ≠ 109) (hg : hb ≠ g) (hx : ∀ x o, a = some ⟨x, o, none⟩ → 0 < n → x ≠ hb) (k : Kept hb hb w w') : Rdr w' g ty R a n c b s := by
  obtain ⟨⟨v, h1, h2⟩, h3, h4, h5, h6⟩ := h
  exact ⟨⟨v, h1.kept k (fun e => hg e.symm) (fun e => hg e.symm), h2.kept hr hne k⟩, h3.kept k (fun h0 x o e => hx x o e h0), h4, h5, h6⟩
theorem Kept.newk {g hb : Nat} {a b c : World} (h : Kept g g a b) (k : Kept hb hb b c) (hx : a.heap.size ≤ hb) : Kept g g a c :=
  ⟨k.os.trans h.os, k.tape.trans h.tape, k.output.trans h.output, Nat.le_trans h.size k.size, fun i hi h1 h2 => (k.block i (Nat.lt_of_lt_of_le hi h.size) (by omega) (by omega)).trans (h.block i hi h1 h2)⟩
theorem set6 (w : World) (hb : Nat) (x0 x1 x2 x3 x4 x5 : Value) : Kept hb hb w ((((((w.setCell ⟨hb, 0, none⟩ x0).setCell ⟨hb, 1, none⟩ x1).setCell ⟨hb, 2, none⟩ x2).setCell ⟨hb, 3, none⟩ x3).setCell ⟨hb, 4, none⟩ x4).setCell ⟨hb, 5, none⟩ x5) := ((((((Kept.refl hb hb w).set 0 _).set 1 _).set 2 _).set 3 _).set 4 _).set 5 _
theorem Row.c6 {w : World} {hb : Nat} {ty : TypeId} {y0 y1 y2 y3 y4 y5 : Value} (h : Row w hb ty [y0, y1, y2, y3, y4, y5]) : w.cell? ⟨hb, 0, none⟩ = some y0 ∧ w.cell? ⟨hb, 1, none⟩ = some y1 ∧ w.cell? ⟨hb, 2, none⟩ = some y2 ∧ w.cell? ⟨hb, 3, none⟩ = some y3 ∧ w.cell? ⟨hb, 4, none⟩ = some y4 ∧ w.cell? ⟨hb, 5, none⟩ = some y5 ∧ w.frozen? ⟨hb, 0, none⟩ = false ∧ w.frozen? ⟨hb, 1, none⟩ = false ∧ w.frozen? ⟨hb, 2, none⟩ = false ∧ w.frozen? ⟨hb, 3, none⟩ = false ∧ w.frozen? ⟨hb, 4, none⟩ = false ∧ w.frozen? ⟨hb, 5, none⟩ = false ∧ hb < w.heap.size :=
  ⟨h.cell 0, h.cell 1, h.cell 2, h.cell 3, h.cell 4, h.cell 5, h.frozen 0, h.frozen 1, h.frozen 2, h.frozen 3, h.frozen 4, h.frozen 5, h.lt⟩
theorem Row.set6 {w : World} {hb : Nat} {ty : TypeId} {y0 y1 y2 y3 y4 y5 : Value} (h : Row w hb ty [y0, y1, y2, y3, y4, y5]) (x0 x1 x2 x3 x4 x5 : Value) : Row ((((((w.setCell ⟨hb, 0, none⟩ x0).setCell ⟨hb, 1, none⟩ x1).setCell ⟨hb, 2, none⟩ x2).setCell ⟨hb, 3, none⟩ x3).setCell ⟨hb, 4, none⟩ x4).setCell ⟨hb, 5, none⟩ x5) hb ty [x0, x1, x2, x3, x4, x5] := by
  simpa using (((((h.set 0 x0).set 1 x1).set 2 x2).set 3 x3).set 4 x4).set 5 x5
end Go.Proofs.YtabkelhipmijfaaDoor
