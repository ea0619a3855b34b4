/-
  The reference's whole numbers, and its pieces of a text; conditions as each theorem has them.
-/
import Derived.Test.YtabkelhipmijfaaDoorO
set_option linter.unusedSimpArgs false
set_option linter.unusedVariables false
namespace Go.Proofs.YtabkelhipmijfaaDoor
open Go.RowKit

/-- The number of at most so many digits. -/
def ext (c : Nat) : List (List Nat) → List (List Nat)
  | [] => []
  | [p] => [p ++ [c]]
  | p :: q :: r => p :: ext c (q :: r)
theorem pcs_dot : ∀ l, pcs (l ++ [46]) = pcs l ++ [[]]
  | [] => rfl
  | b :: r => by
    have ih := pcs_dot r
    have hne := pcs_ne r
    rw [List.cons_append, pcs, pcs, ih]
    split
    · rfl
    · cases h : pcs r with
      | nil => exact absurd h hne
      | cons p ps => rfl
theorem pcs_ext (c : Nat) (hc : c ≠ 46) : ∀ l, pcs (l ++ [c]) = ext c (pcs l)
  | [] => by simp [pcs, hc, ext]
  | b :: r => by
    have ih := pcs_ext c hc r
    have hne := pcs_ne r
    rw [List.cons_append, pcs, pcs, ih]
    cases h : pcs r with
    | nil => exact absurd h hne
    | cons p ps =>
      split
      · rfl
      · cases ps with
        | nil => rfl
        | cons q qs => rfl
theorem ext_set (c : Nat) : ∀ ps : List (List Nat), ext c ps = ps.set (ps.length - 1) (ps.getD (ps.length - 1) [] ++ [c])
  | [] => rfl
  | [p] => rfl
  | p :: q :: r => by
    have ih := ext_set c (q :: r)
    simp only [ext, List.length_cons, Nat.add_sub_cancel] at ih ⊢
    rw [ih]
    simp
theorem beg_ext (c : Nat) : ∀ (ps : List (List Nat)) (a : Nat), beg a (ext c ps) = beg a ps
  | [], _ => rfl
  | [p], _ => rfl
  | p :: q :: r, a => by simp only [ext, beg, beg_ext c (q :: r)]
theorem beg_dot : ∀ (ps : List (List Nat)) (a : Nat), ps ≠ [] → beg a (ps ++ [[]]) = beg a ps ++ [a + (jn ps).length + 1]
  | [], _, h => absurd rfl h
  | [p], a, _ => rfl
  | p :: q :: r, a, _ => by
    have ih := beg_dot (q :: r) (a + p.length + 1) (by simp)
    simp only [List.cons_append, beg, jn] at ih ⊢
    rw [ih]
    simp; omega
theorem beg_length : ∀ (ps : List (List Nat)) (a : Nat), (beg a ps).length = ps.length
  | [], _ => rfl
  | p :: r, a => by simp [beg, beg_length r]
def ints (l : List Nat) : List Value := l.map fun x => .int .i64 (x : Nat)
theorem ints_get (l : List Nat) (i : Nat) (h : i < l.length) : (ints l)[i]? = some (.int .i64 (l.getD i 0 : Nat)) := by
  simp [ints, List.getElem?_map, List.getElem?_eq_getElem h, List.getD]
theorem ints_length (l : List Nat) : (ints l).length = l.length := by simp [ints]
theorem strs_length (l : List (List Nat)) : (strs l).length = l.length := by simp [strs]
theorem strs_set (ps : List (List Nat)) (j : Nat) (p : List Nat) : (strs ps).set j (.string (strN p)) = strs (ps.set j p) := by simp [strs, List.map_set]
theorem strN_append (a b : List Nat) : strN (a ++ b) = strN a ++ strN b := by
  apply ByteArray.ext
  simp [strN, ByteArray.data_append]
theorem Own.drew {w : World} {B : Nat} {e : TypeId} {v : Value} {xs : List Value} (h : Own w B e v xs) : Own w.drew B e v xs := h.keep fun _ _ => rfl
theorem own_ne {w : World} {B B' : Nat} {e e' : TypeId} {v v' : Value} {xs xs' : List Value} (h : Own w B e v xs) (h' : Own w B' e' v' xs') (hne : e ≠ e') {g : Nat} (hg : v'.ownBlock = some g) : v.ownBlock ≠ some g := by
  intro hg2
  obtain ⟨_, c1, e1⟩ := h.block hg2
  obtain ⟨_, c2, e2⟩ := h'.block hg
  rw [e1] at e2
  simp at e2
  exact hne e2.2
theorem own_new1 (w : World) (e : TypeId) (u : Value) (g : Nat) (hg : g = w.heap.size) (B : Nat) (hB : B ≤ g) : Own (w.alloc (.cells #[u] e)) B e (.slice (some ⟨g, 0, none⟩) 1 1) [u] := by
  subst hg
  exact ⟨rfl, Or.inr ⟨w.heap.size, 1, #[u], rfl, hB, alloc_new _ _, by simp, by unfold maxLen; omega, rfl, rfl⟩⟩

end Go.Proofs.YtabkelhipmijfaaDoor
