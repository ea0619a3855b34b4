/-
  ParseDest of package host; conditions as each theorem has them.
-/
import Derived.Test.YtffjhhacegnhmaaDoorR
set_option linter.unusedSimpArgs false
set_option linter.unusedVariables false
namespace Go.Proofs.YtffjhhacegnhmaaDoor
open Go.RowKit

theorem colon_spec : ∀ (l : List Nat) (i : Nat), (colon i l = none ∧ ∀ j, j < l.length → l.getD j 0 ≠ 58) ∨ ∃ j, colon i l = some (i + j) ∧ j < l.length ∧ l.getD j 0 = 58 ∧ ∀ k, j < k → k < l.length → l.getD k 0 ≠ 58
  | [], i => Or.inl ⟨rfl, fun j hj => by simp at hj⟩
  | c :: r, i => by
    rcases colon_spec r (i + 1) with ⟨h, hn⟩ | ⟨j, h, hj, hc, hn⟩
    · unfold colon
      rw [h]
      by_cases hc : c = 58
      · refine Or.inr ⟨0, by simp [hc], by simp, by simpa using hc, fun k h1 h2 => ?_⟩
        obtain ⟨m, rfl⟩ : ∃ m, k = m + 1 := ⟨k - 1, by omega⟩
        simpa using hn m (by simpa using h2)
      · refine Or.inl ⟨by simp [hc], fun k hk => ?_⟩
        cases k with
        | zero => simpa using hc
        | succ m => simpa using hn m (by simpa using hk)
    · unfold colon
      rw [h]
      refine Or.inr ⟨j + 1, by simp; omega, by simpa using hj, by simpa using hc, fun k h1 h2 => ?_⟩
      obtain ⟨m, rfl⟩ : ∃ m, k = m + 1 := ⟨k - 1, by omega⟩
      simpa using hn m (by omega) (by simpa using h2)
theorem bang_byt (t : ByteArray) (j : Nat) (h : j < t.size) : ((t.data[j]!).toNat : Int) = ((byt t).getD j 0 : Nat) := by
  have h' : j < t.data.toList.length := by rw [Array.length_toList]; exact h
  rw [getElem!_pos t.data j h, byt, List.getD, List.getElem?_map, List.getElem?_eq_getElem h']
  rfl
def colI (o : Option Nat) : Int := match o with | some c => (c : Int) | none => -1
theorem colon_lt {l : List Nat} {c : Nat} (h : colon 0 l = some c) : c < l.length := by
  rcases colon_spec l 0 with ⟨g, _⟩ | ⟨j, g, hj, _⟩
  · rw [g] at h; cases h
  · rw [g] at h; simp at h; omega
theorem host_len (l : List Nat) : (host l).1.1.length = 4 := by
  unfold host
  split
  · rfl
  · split
    · exact addr_len l
    · rfl
theorem port_two (l : List Nat) : (port l).2 = .ok ∨ (port l).2 = .one 0 62 := by
  unfold port
  split
  · split
    · exact Or.inr rfl
    · exact Or.inl rfl
  · exact Or.inr rfl
def deC (d : De) : Array Value := (nums .u8 d.1.1 ++ [Value.string (strN d.1.2), Value.int .i64 (d.2 : Nat)]).toArray
def z6 : Array Value := #[.int .u8 0, .int .u8 0, .int .u8 0, .int .u8 0, .string ⟨#[]⟩, .int .i64 0]
theorem z6_one : z6.all (·.oneCell') = true := by simp [z6, Value.oneCell']
theorem IsEr.some {w : World} {e : Er} {v : Value} (h : IsEr w e v) (he : e ≠ .ok) : ∃ b, v = .iface 134 (.pointer (some ⟨b, 0, none⟩)) := by
  cases e with
  | ok => exact absurd rfl he
  | one a c => obtain ⟨b, hv, _⟩ := h; exact ⟨b, hv⟩
  | two a a2 c => obtain ⟨b, b2, hv, _⟩ := h; exact ⟨b, hv⟩

end Go.Proofs.YtffjhhacegnhmaaDoor
