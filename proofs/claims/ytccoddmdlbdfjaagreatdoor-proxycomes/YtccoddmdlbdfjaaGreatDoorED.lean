/-
  ProxyComes' walk: however a head is cut, what is said, wanted and sent on is the same; conditions as each theorem has them.
-/
import Derived.Test.YtccoddmdlbdfjaaGreatDoorJoinedWK
import Derived.Test.YtccoddmdlbdfjaaGreatDoorEC
set_option linter.unusedSimpArgs false
set_option linter.unusedVariables false
set_option linter.constructorNameAsVariable false
set_option maxRecDepth 100000
namespace Go.Proofs.YtccoddmdlbdfjaaGreatDoor
open Go.ChangeShapes Go.WideShapes Go.ChangeAt Go.RowKit

/-- Whole numbers that came in. -/
def IsInts (w : World) (a : Option Addr) (n c : Nat) (f : Nat → Int) : Prop := n ≤ c ∧ c ≤ maxLen ∧ (0 < n → ∃ b o, a = some ⟨b, o, none⟩ ∧ b < w.heap.size ∧ ∀ i, i < n → w.cell? ⟨b, o + i, none⟩ = some (.int .i64 (f i)) ∧ -9223372036854775808 ≤ f i ∧ f i ≤ 9223372036854775807)
theorem by3 : Tryz.prog.bytesOf 3 = 8 := by kernel_rfl
theorem open_intz {H : Type} {enc : TypeId × Value → H} {W : World} {base : Nat} {sp : Nat → Bool} {held : Bool} {fuel : Nat} {a : Option Addr} {n c : Nat} {d : DataW H} {ps : List MemPlace} (hf : DataW.trod enc Tryz.prog W base sp held fuel 52 [.slice a n c] = some (d, ps)) :
    ∃ f, IsInts W a n c f ∧ ((n = 0) ∨ ∃ el rest, d = .slice el rest ∧ n ≤ el.length) := by
  rcases open_ints Tryz.underlying52 Tryz.underlying3 (by kernel_rfl) hf with ⟨hcs, _⟩ | ⟨x, l, c', zs, hcs, _, hl, hm, hz, hx, hcell, hwz⟩
  · simp at hcs
    obtain ⟨rfl, rfl, rfl⟩ := hcs
    exact ⟨fun _ => 0, ⟨Nat.le_refl _, Nat.zero_le _, fun h => by omega⟩, Or.inl rfl⟩
  · simp at hcs
    obtain ⟨rfl, rfl, rfl⟩ := hcs
    simp only [Prod.mk.injEq] at hx
    have hzl : n ≤ zs.length := by rw [hz]; split <;> omega
    refine ⟨fun i => zs.getD i 0, ⟨hl, hm, fun h0 => ?_⟩, Or.inr ⟨_, _, hx.1, by simp [lits]; omega⟩⟩
    have h00 := hcell 0 (by omega)
    obtain ⟨b, o, s⟩ := x
    have hsp : s = none := by simpa [Addr.add] using World.cell?_spot h00
    subst hsp
    refine ⟨b, o, rfl, by simpa [Addr.add] using lt_of_cell h00, fun i hi => ?_⟩
    have h1 := hcell i (by omega)
    rw [add_none] at h1
    have hi2 : i < zs.length := by omega
    have hw : -9223372036854775808 ≤ zs.getD i 0 ∧ zs.getD i 0 ≤ 9223372036854775807 := by
      have := bounds_i64 (hwz (zs.getD i 0) (by rw [List.getD_eq_getElem?_getD, List.getElem?_eq_getElem hi2, Option.getD_some]; exact List.getElem_mem _))
      omega
    exact ⟨h1, hw.1, hw.2⟩
theorem len_intz {H : Type} {ts : List TypeId} {ds : List (DataW H)} (h : (DataW.weightsEach Tryz.prog ts ds).all (· ≤ reachBytes) = true) {j : Nat} {d : DataW H} (ht : ts[j]? = some 52) (hd : ds[j]? = some d) {n : Nat} (hn : n = 0 ∨ ∃ el rest, d = .slice el rest ∧ n ≤ el.length) : n ≤ 140737488351232 := by
  rcases hn with rfl | ⟨el, rest, rfl, hl⟩
  · omega
  · have := sized_slice h ht hd Tryz.underlying52
    rw [by3] at this
    unfold reachBytes at this
    omega
theorem PC.swap {w w' : World} {b x g : Nat} {C : Cn} (h : PC w b x C) (k : Kept g g w w') (hb : b ≠ g) (hx : x = g) : PC w' b x C := h.keep k hb hx
/-- Two connections beside what came in. -/
structure Two (w W : World) (b1 b2 : Nat) (C D : Cn) : Prop where
  p : PC W b1 b2 C
  q : PC W b2 b1 D
  e : Env w W b1
  lo : w.heap.size ≤ b1
  ne : b2 = b1 + 1
  lt : b2 < W.heap.size
theorem Two.env {w W : World} {b1 b2 : Nat} {C D : Cn} (h : Two w W b1 b2 C D) : Env w W b2 := h.e.to (by have := h.lo; have := h.ne; omega)
theorem Two.below {w W W' : World} {b1 b2 : Nat} {C D : Cn} (h : Two w W b1 b2 C D) (k : Below W.heap.size W W') : Two w W' b1 b2 C D :=
  ⟨h.p.below k, h.q.below k, h.e.below k, h.lo, h.ne, Nat.lt_of_lt_of_le h.lt k.size⟩
theorem Two.one {w W W' : World} {b1 b2 : Nat} {C D C' : Cn} (h : Two w W b1 b2 C D) (k : Kept b1 b1 W W') (p : PC W' b1 b2 C') : Two w W' b1 b2 C' D :=
  ⟨p, h.q.keep k (by have := h.ne; omega) rfl, h.e.kept k, h.lo, h.ne, Nat.lt_of_lt_of_le h.lt k.size⟩
theorem Two.two {w W W' : World} {b1 b2 : Nat} {C D D' : Cn} (h : Two w W b1 b2 C D) (k : Kept b2 b2 W W') (q : PC W' b2 b1 D') : Two w W' b1 b2 C D' :=
  ⟨h.p.keep k (by have := h.ne; omega) rfl, q, (h.env.kept k).to h.lo, h.lo, h.ne, Nat.lt_of_lt_of_le h.lt k.size⟩
end Go.Proofs.YtccoddmdlbdfjaaGreatDoor
