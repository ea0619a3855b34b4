/-
  The reader of messages: heads; conditions as each theorem has them.
-/
import Derived.Test.YtabkelhipmijfaaDoorJoinedZ
import Derived.Deep.DeepCutAuto
set_option linter.unusedSimpArgs false
set_option linter.unusedVariables false
namespace Go.Proofs.YtabkelhipmijfaaDoor
open Go.RowKit
theorem Kept.of_below' {r g : Nat} {a b : World} (h : Below a.heap.size a b) : Kept r g a b := Kept.of_below h
/-- A new block, and what stays. -/
theorem Rdr.alloc {w : World} {g : Nat} {ty : TypeId} {R : List Value} {a : Option Addr} {n c : Nat} {b : List Nat} {s : Sr} (h : Rdr w g ty R a n c b s) (o : Obj) : Rdr (w.alloc o) g ty R a n c b s := h.below ((Below.refl _ _).alloc (Nat.le_refl _) _)
theorem Rdr.row3 {w : World} {g : Nat} {ty : TypeId} {R : List Value} {a : Option Addr} {n c : Nat} {b : List Nat} {s : Sr} (h : Rdr w g ty R a n c b s) {hb : Nat} {tz : TypeId} {C : List Value} (hr : Row w hb tz C) (hne : tz ≠ 109) (hg : hb ≠ g) (hx : ∀ x o, a = some ⟨x, o, none⟩ → 0 < n → x ≠ hb) (x0 x1 x2 : Value) :
    Rdr (((w.setCell ⟨hb, 0, none⟩ x0).setCell ⟨hb, 1, none⟩ x1).setCell ⟨hb, 2, none⟩ x2) g ty R a n c b s := by
  obtain ⟨⟨v, h1, h2⟩, h3, h4, h5, h6⟩ := h
  have k : Kept hb hb w (((w.setCell ⟨hb, 0, none⟩ x0).setCell ⟨hb, 1, none⟩ x1).setCell ⟨hb, 2, none⟩ x2) := (((Kept.refl _ _ _).set 0 _).set 1 _).set 2 _
  exact ⟨⟨v, h1.kept k (fun e => hg e.symm) (fun e => hg e.symm), h2.kept hr hne k⟩, h3.kept k (fun h0 x o e => hx x o e h0), h4, h5, h6⟩
theorem Kept.trans' {r g : Nat} {a b c : World} (h : Kept r g a b) (k : Below a.heap.size b c) : Kept r g a c :=
  ⟨k.os.trans h.os, k.tape.trans h.tape, k.output.trans h.output, Nat.le_trans h.size k.size, fun i hi h1 h2 => (k.block i hi).trans (h.block i hi h1 h2)⟩
theorem Kept.newset {r g : Nat} {a b : World} (h : Kept r g a b) {x : Nat} (hx : a.heap.size ≤ x) (o : Nat) (u : Value) : Kept r g a (b.setCell ⟨x, o, none⟩ u) :=
  h.trans' ⟨rfl, rfl, rfl, by simp [World.setCell], fun k hk => Below.heap_setCell _ _ _ _ (by show k ≠ x; omega)⟩
theorem Rdr.other {w : World} {g : Nat} {ty : TypeId} {R : List Value} {a : Option Addr} {n c : Nat} {b : List Nat} {s : Sr} (h : Rdr w g ty R a n c b s) {hb : Nat} {tz : TypeId} {C : List Value} (hr : Row w hb tz C) (hne : tz ≠ 109) (hg : hb ≠ g) (hx : ∀ x o, a = some ⟨x, o, none⟩ → 0 < n → x ≠ hb) (i : Nat) (x0 : Value) : Rdr (w.setCell ⟨hb, i, none⟩ x0) g ty R a n c b s := by
  obtain ⟨⟨v, h1, h2⟩, h3, h4, h5, h6⟩ := h
  have k : Kept hb hb w (w.setCell ⟨hb, i, none⟩ x0) := (Kept.refl _ _ _).set i _
  exact ⟨⟨v, h1.kept k (fun e => hg e.symm) (fun e => hg e.symm), h2.kept hr hne k⟩, h3.kept k (fun h0 x o e => hx x o e h0), h4, h5, h6⟩
theorem tk_at (b : List Nat) (m : Nat) (s : Sr) : (tk b m s).1 ≤ s.1 + m := by unfold tk; split; split; exact Nat.le_refl _; exact Nat.le_add_right _ _; exact Nat.le_add_right _ _
theorem stp_at1 (p k : Nat) (s : Sr) : (stp p k s).1 = s.1 := by unfold stp; split <;> rfl
theorem chk_at1 (c : Bool) (p k : Nat) (s : Sr) : (chk1 c p k s).1 = s.1 := by unfold chk1; split; rfl; exact stp_at1 _ _ _
theorem s4_at (b : List Nat) (k : Nat) : (s4 b k).1 ≤ 8 := by
  have h0 : (opn b).1 = 0 := by unfold opn; split <;> rfl
  have h1 := tk_at b 2 (opn b)
  have h2 : (s2 b k).1 = (tk b 2 (s1 b)).1 := chk_at1 _ _ _ _
  have h3 := tk_at b 2 (s1 b)
  have h4 : (s3 b k).1 = (tk b 2 (s2 b k)).1 := chk_at1 _ _ _ _
  have h5 := tk_at b 2 (s2 b k)
  have h6 := tk_at b 2 (s3 b k)
  show (tk b 2 (s3 b k)).1 ≤ 8
  have : (s1 b).1 ≤ 2 := by show (tk b 2 (opn b)).1 ≤ 2; omega
  omega
end Go.Proofs.YtabkelhipmijfaaDoor
