/-
  Answer of package dns; conditions as each theorem has them.
-/
import Derived.Test.YtabkelhipmijfaaDoorMG
import Derived.Test.YtabkelhipmijfaaDoorMH
import Derived.Test.YtabkelhipmijfaaDoorJoinedN2
import Derived.Test.YtabkelhipmijfaaDoorJoinedZ
set_option linter.unusedSimpArgs false
set_option linter.unusedVariables false
namespace Go.Proofs.YtabkelhipmijfaaDoor
open Go.RowKit
theorem kset5 (w : World) (hb : Nat) (x0 x1 x2 x3 x4 : Value) : Kept hb hb w (((((w.setCell ⟨hb, 0, none⟩ x0).setCell ⟨hb, 1, none⟩ x1).setCell ⟨hb, 2, none⟩ x2).setCell ⟨hb, 3, none⟩ x3).setCell ⟨hb, 4, none⟩ x4) := (((((Kept.refl hb hb w).set 0 _).set 1 _).set 2 _).set 3 _).set 4 _
theorem Row.set5 {w : World} {hb : Nat} {ty : TypeId} {y0 y1 y2 y3 y4 : Value} (h : Row w hb ty [y0, y1, y2, y3, y4]) (x0 x1 x2 x3 x4 : Value) : Row (((((w.setCell ⟨hb, 0, none⟩ x0).setCell ⟨hb, 1, none⟩ x1).setCell ⟨hb, 2, none⟩ x2).setCell ⟨hb, 3, none⟩ x3).setCell ⟨hb, 4, none⟩ x4) hb ty [x0, x1, x2, x3, x4] := by
  simpa using ((((h.set 0 x0).set 1 x1).set 2 x2).set 3 x3).set 4 x4
/-- What Answer tells. -/
def IsAns (w : World) (A : An × Er) (e : Ending) (w' : World) : Prop := ∃ v er, e = .returned (.tuple #[.agg #[.int .i64 (A.1.id : Nat), .string (strN A.1.nm), .int .i64 (A.1.cd : Nat), v, .int .i64 (A.1.tl : Nat)], er]) ∧ OwnA w' w.heap.size v A.1.ad ∧ IsF w' A.2 er ∧ Below w.heap.size w w'
theorem isAns_mk {w w' : World} {A : An × Er} {id cd tl : Nat} {nm : List Nat} {QX : ByteArray} {l : List Ad} {E : Er} {v er : Value} (hA : A = (⟨id, nm, cd, l, tl⟩, E)) (hq : strN nm = QX) (ho : OwnA w' w.heap.size v l) (hi : IsF w' E er) (hb : Below w.heap.size w w') : IsAns w A (.returned (.tuple #[.agg #[.int .i64 (id : Nat), .string QX, .int .i64 (cd : Nat), v, .int .i64 (tl : Nat)], er])) w' := by
  subst hA hq
  exact ⟨v, er, rfl, ho, hi, hb⟩
theorem OwnA.mono {w : World} {B B' : Nat} {v : Value} {l : List Ad} (h : OwnA w B v l) (hB : B' ≤ B) : OwnA w B' v l := by
  refine ⟨h.1, ?_⟩
  rcases h.2 with h0 | ⟨x, cap, cur, hv, hx, hrest⟩
  · exact Or.inl h0
  · exact Or.inr ⟨x, cap, cur, hv, by omega, hrest⟩
theorem kset2 (w : World) (hb : Nat) (i j : Nat) (x y : Value) : Kept hb hb w ((w.setCell ⟨hb, i, none⟩ x).setCell ⟨hb, j, none⟩ y) := ((Kept.refl hb hb w).set i _).set j _
end Go.Proofs.YtabkelhipmijfaaDoor
