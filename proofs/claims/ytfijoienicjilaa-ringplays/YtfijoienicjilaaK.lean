/-
  A slice of slices of bytes that came in, as the statements' walks use it; no conditions but that it can be read.
-/
import Derived.Test.YtfijoienicjilaaJ
import Derived.Deep.Matrix
set_option linter.unusedSimpArgs false
set_option linter.unusedVariables false
namespace Go.Proofs.Ytfijoienicjilaa
open Go.RowKit

/-- A slice of slices of bytes that came in: nil, or a row of cap slices. -/
def IsRows (w : World) (a : Option Addr) (len cap : Nat) : Prop :=
  (a = none ∧ len = 0 ∧ cap = 0) ∨
  ∃ (x : Addr) (A : Nat → Option Addr) (L C : Nat → Nat) (Z : Nat → List Int), a = some x ∧ len ≤ cap ∧ cap ≤ maxLen ∧ ∀ r, r < cap → w.cell? (x.add r) = some (.slice (A r) (L r) (C r)) ∧ L r ≤ C r ∧ C r ≤ maxLen ∧ (Z r).length = C r ∧ (∀ n ∈ Z r, (Lit.int .u8 n).wf = true) ∧ (A r = none → C r = 0) ∧
    ∀ a', A r = some a' → ∀ c, c < C r → w.cell? (a'.add c) = some (.int .u8 ((Z r).getD c 0))

/-- The i-th of them. -/
def RowAt (w : World) (b o i : Nat) : Prop := ∃ a l c zs, w.cell? ⟨b, o + i, none⟩ = some (.slice a l c) ∧ IsRow .u8 w a l c zs

theorem rows_len {w : World} {a : Option Addr} {len cap : Nat} (h : IsRows w a len cap) : len ≤ cap ∧ cap ≤ maxLen := by
  rcases h with ⟨_, rfl, rfl⟩ | ⟨x, A, L, C, Z, rfl, hl, hm, _⟩
  · exact ⟨Nat.le_refl _, Nat.zero_le _⟩
  · exact ⟨hl, hm⟩

theorem rows_lie {w : World} {a : Option Addr} {len cap : Nat} (h : IsRows w a len cap) (h0 : 0 < len) : ∃ b o, a = some ⟨b, o, none⟩ ∧ b < w.heap.size ∧ ∀ i, i < len → RowAt w b o i := by
  rcases h with ⟨_, h1, _⟩ | ⟨x, A, L, C, Z, rfl, hl, hm, hr⟩
  · omega
  · obtain ⟨b, o, spot⟩ := x
    have hc0 := (hr 0 (by omega)).1
    have hspot : spot = none := by simpa [Addr.add] using World.cell?_spot hc0
    subst hspot
    refine ⟨b, o, rfl, by simpa [Addr.add] using lt_of_cell hc0, fun i hi => ?_⟩
    obtain ⟨h1, h2, h3, h4, h5, h6, h7⟩ := hr i (by omega)
    rw [add_none] at h1
    refine ⟨A i, L i, C i, Z i, h1, ?_⟩
    cases hA : A i with
    | none =>
      have := h6 hA
      exact Or.inl ⟨rfl, by omega, by omega, List.eq_nil_of_length_eq_zero (by omega)⟩
    | some x => exact Or.inr ⟨x, rfl, h2, h3, h4, fun j hj => h7 x hA j (by omega), h5⟩

theorem row_keep {k : IntKind} {w w' : World} {a : Option Addr} {len cap : Nat} {zs : List Int} (h : IsRow k w a len cap zs) (hb : Below w.heap.size w w') : IsRow k w' a len cap zs := by
  rcases h with h | ⟨x, e, hl, hm, hz, hc, hw⟩
  · exact Or.inl h
  · refine Or.inr ⟨x, e, hl, hm, hz, fun i hi => ?_, hw⟩
    rw [hb.cell (p := x.add i) (lt_of_cell (hc i hi))]
    exact hc i hi

end Go.Proofs.Ytfijoienicjilaa
