/-
  Addresses wherever they lie, copies of them, and how base holds them side by side; conditions as each theorem has them.
-/
import Derived.Test.YtabkelhipmijfaaDoorMH
set_option linter.unusedSimpArgs false
set_option linter.unusedVariables false
namespace Go.Proofs.YtabkelhipmijfaaDoor
open Go.RowKit
theorem adCs_get (l : List Ad) (i : Nat) (h : i < l.length) : (adCs l)[4 * i]? = some (.int .u8 ((l.getD i (0, 0, 0, 0)).1 : Nat)) ∧ (adCs l)[4 * i + 1]? = some (.int .u8 ((l.getD i (0, 0, 0, 0)).2.1 : Nat)) ∧ (adCs l)[4 * i + 2]? = some (.int .u8 ((l.getD i (0, 0, 0, 0)).2.2.1 : Nat)) ∧ (adCs l)[4 * i + 3]? = some (.int .u8 ((l.getD i (0, 0, 0, 0)).2.2.2 : Nat)) := by
  induction l generalizing i with
  | nil => simp at h
  | cons x r ih =>
    have e : adCs (x :: r) = .int .u8 (x.1 : Nat) :: .int .u8 (x.2.1 : Nat) :: .int .u8 (x.2.2.1 : Nat) :: .int .u8 (x.2.2.2 : Nat) :: adCs r := rfl
    rw [e]
    cases i with
    | zero => exact ⟨rfl, rfl, rfl, rfl⟩
    | succ i =>
      have := ih i (by simp at h; omega)
      rw [show 4 * (i + 1) = 4 * i + 1 + 1 + 1 + 1 by omega]
      simpa using this
theorem adCs_one (l : List Ad) : ∀ u ∈ adCs l, u.oneCell' = true := by
  intro u hu
  simp [adCs, adC] at hu
  obtain ⟨a, b, c, d, _, h⟩ := hu
  rcases h with rfl | rfl | rfl | rfl <;> rfl
def okA (l : List Ad) : Prop := ∀ a ∈ l, a.ok
/-- A slice of addresses wherever it lies. -/
structure SrcA (w : World) (a : Option Addr) (len cap : Nat) (l : List Ad) : Prop where
  hlen : l.length = len
  hcap : len ≤ cap
  hmax : cap ≤ maxLen
  nil : a = none → cap = 0
  lies : 0 < len → ∃ b o, a = some ⟨b, o, none⟩ ∧ b < w.heap.size ∧ ∀ j u, (adCs l)[j]? = some u → w.cell? ⟨b, o + j, none⟩ = some u
  byte : okA l
theorem SrcA.keep {w w' : World} {a : Option Addr} {len cap : Nat} {l : List Ad} (h : SrcA w a len cap l) (hk : 0 < len → ∀ b o, a = some ⟨b, o, none⟩ → w'.heap[b]? = w.heap[b]?) (hs : w.heap.size ≤ w'.heap.size) : SrcA w' a len cap l := by
  refine ⟨h.hlen, h.hcap, h.hmax, h.nil, fun h0 => ?_, h.byte⟩
  obtain ⟨b, o, e, hb, hc⟩ := h.lies h0
  exact ⟨b, o, e, by omega, fun j u hu => (World.cell?_of_block (hk h0 b o e)).trans (hc j u hu)⟩
theorem SrcA.lt {w : World} {a : Option Addr} {len cap : Nat} {l : List Ad} (h : SrcA w a len cap l) (h0 : 0 < len) {b o : Nat} (e : a = some ⟨b, o, none⟩) : b < w.heap.size := by
  obtain ⟨b', o', e', hb, hc⟩ := h.lies h0
  rw [e] at e'
  simp only [Option.some.injEq, Addr.mk.injEq, and_true] at e'
  omega
theorem SrcA.below {w w' : World} {a : Option Addr} {len cap : Nat} {l : List Ad} (h : SrcA w a len cap l) (k : Below w.heap.size w w') : SrcA w' a len cap l :=
  h.keep (fun h0 b o e => k.block b (h.lt h0 e)) k.size
theorem SrcA.nilS (w : World) : SrcA w none 0 0 [] := ⟨rfl, Nat.le_refl _, Nat.zero_le _, fun _ => rfl, fun h => by omega, by intro f hf; simp at hf⟩
theorem SrcA.at_ {w : World} {a : Option Addr} {len cap : Nat} {l : List Ad} (h : SrcA w a len cap l) {i : Nat} (hi : i < len) : ∃ b o, a = some ⟨b, o, none⟩ ∧ w.cell? ⟨b, o + 4 * i, none⟩ = some (.int .u8 ((l.getD i (0, 0, 0, 0)).1 : Nat)) ∧ w.cell? ⟨b, o + 4 * i + 1, none⟩ = some (.int .u8 ((l.getD i (0, 0, 0, 0)).2.1 : Nat)) ∧ w.cell? ⟨b, o + 4 * i + 2, none⟩ = some (.int .u8 ((l.getD i (0, 0, 0, 0)).2.2.1 : Nat)) ∧ w.cell? ⟨b, o + 4 * i + 3, none⟩ = some (.int .u8 ((l.getD i (0, 0, 0, 0)).2.2.2 : Nat)) := by
  obtain ⟨b, o, e, hb, hc⟩ := h.lies (by omega)
  obtain ⟨g1, g2, g3, g4⟩ := adCs_get l i (by rw [h.hlen]; exact hi)
  exact ⟨b, o, e, hc _ _ g1, by have := hc _ _ g2; rwa [← Nat.add_assoc] at this, by have := hc _ _ g3; rwa [← Nat.add_assoc] at this, by have := hc _ _ g4; rwa [← Nat.add_assoc] at this⟩
theorem OwnA.src {w : World} {B : Nat} {v : Value} {l : List Ad} (h : OwnA w B v l) (hb : okA l) : ∃ a cap, v = .slice a l.length cap ∧ SrcA w a l.length cap l ∧ (∀ b o, a = some ⟨b, o, none⟩ → B ≤ b) := by
  rcases h.2 with ⟨rfl, h0⟩ | ⟨g, cap, cur, rfl, hx, hh, hc, hm, hs, ht⟩
  · have : l = [] := List.length_eq_zero_iff.1 h0
    subst this
    exact ⟨none, 0, rfl, SrcA.nilS w, fun b o e => by cases e⟩
  · refine ⟨_, cap, rfl, ⟨rfl, hc, hm, (fun e => by cases e), fun _ => ⟨g, 0, rfl, lt_of_some hh, fun j u hu => ?_⟩, hb⟩, fun b o e => by cases e; exact hx⟩
    have hj := (List.getElem?_eq_some_iff.1 hu).1
    rw [adCs_len] at hj
    have : cur.toList[j]? = some u := by rw [← hu, ← ht, List.getElem?_take, if_pos (by omega)]
    rw [Nat.zero_add]
    simp only [World.cell?, hh]
    simpa using this
end Go.Proofs.YtabkelhipmijfaaDoor
