/-
  A table that came in, as it lies in memory; conditions as each theorem has them.
-/
import Derived.Test.YtidalhdhaagpaaaA
import Derived.Deep.Strs
import Derived.SizedLaws
import Derived.ProofKit
import Derived.ChangeSame
set_option linter.unusedSimpArgs false
set_option linter.unusedVariables false
namespace Go.Proofs.Ytidalhdhaagpaaa
open Go.ChangeShapes Go.WideShapes Go.ChangeAt Go.RowKit

theorem cells3 : Try.prog.cellsOf 3 = 1 := by kernel_rfl
theorem cells25 : Try.prog.cellsOf 25 = 2 := by kernel_rfl
theorem bytes25 : Try.prog.bytesOf 25 = 16 := by kernel_rfl

theorem two {α : Type} {l : List α} (h : l.length = 2) : ∃ a b, l = [a, b] := by
  match l, h with
  | [a, b], _ => exact ⟨a, b, rfl⟩

theorem int_open {H : Type} {enc : TypeId × Value → H} {W : World} {fuel : Nat} {c : Value} {x : DataW H × List MemPlace} (h : DataW.trod enc Try.prog W 0 (fun _ => true) true fuel 3 [c] = some x) : ∃ n, c = .int .i64 n := by
  obtain ⟨n, e, _, _⟩ := DataW.trod_int Try.underlying3 h
  simp at e
  exact ⟨n, e⟩

theorem slot_open {H : Type} {enc : TypeId × Value → H} {W : World} {fuel : Nat} {cs : List Value} (hl : cs.length = 2) {x : DataW H × List MemPlace}
    (h : DataW.trod enc Try.prog W 0 (fun _ => true) true fuel 25 cs = some x) : ∃ p q, cs = [.int .i64 p, .int .i64 q] := by
  obtain ⟨c1, c2, rfl⟩ := two hl
  obtain ⟨z0, z1, m2, _, _, e0, e1⟩ := trod_struct2 Try.underlying25 h
  have e0' : DataW.trod enc Try.prog W 0 (fun _ => true) true m2 3 [c1] = some z0 := by simpa [cells3] using e0
  have e1' : DataW.trod enc Try.prog W 0 (fun _ => true) true m2 3 [c2] = some z1 := by simpa [cells3] using e1
  obtain ⟨p, rfl⟩ := int_open e0'
  obtain ⟨q, rfl⟩ := int_open e1'
  exact ⟨p, q, rfl⟩

theorem list_of {P : Nat → Int × Int → Prop} : ∀ n, (∀ i, i < n → ∃ p, P i p) → ∃ T : List (Int × Int), T.length = n ∧ ∀ (i : Nat) (p : Int × Int), T[i]? = some p → P i p
  | 0, _ => ⟨[], rfl, fun i p h => by simp at h⟩
  | n + 1, h => by
    obtain ⟨T, hl, hT⟩ := list_of n (fun i hi => h i (by omega))
    obtain ⟨p, hp⟩ := h n (by omega)
    refine ⟨T ++ [p], by simp [hl], fun i q hq => ?_⟩
    rcases Nat.lt_or_ge i n with hl2 | hl2
    · exact hT i q (by rw [List.getElem?_append_left (by omega)] at hq; exact hq)
    · rw [List.getElem?_append_right (by omega)] at hq
      have hi : i - T.length = 0 := by
        have := (List.getElem?_eq_some_iff.1 hq).1
        simp at this
        omega
      rw [hi] at hq
      simp at hq
      obtain rfl : i = n := by omega
      rw [← hq]
      exact hp

theorem slots_open {H : Type} {enc : TypeId × Value → H} {W : World} {fuel : Nat} {a1 : Option Addr} {len1 cap1 : Nat} {x : DataW H × List MemPlace} (hf : DataW.trod enc Try.prog W 0 (fun _ => true) true fuel 22 [.slice a1 len1 cap1] = some x)
    (hsz : ∀ n ∈ x.1.weights Try.prog 22, n ≤ reachBytes) : ∃ b o T, Tab W a1 b o len1 T := by
  rcases Deep.open_slice Try.underlying22 hf with ⟨hcs, _⟩ | ⟨x, l, c, m, nn, D, Pl, hcs, _, hl, hm, hmm, hx, hr⟩
  · simp at hcs
    obtain ⟨rfl, rfl, rfl⟩ := hcs
    exact ⟨0, 0, [], rfl, fun h => by omega, fun i p h => by simp at h, by decide⟩
  · simp at hcs
    obtain ⟨rfl, rfl, rfl⟩ := hcs
    simp only [if_true] at hmm
    subst hmm
    subst hx
    have hcap : m ≤ 8796093022207 := by
      have h1 := hsz _ (show _ ∈ (DataW.slice _ _).weights Try.prog 22 by simp only [DataW.weights, Try.underlying22, List.mem_cons]; exact Or.inl rfl)
      rw [bytes25] at h1
      have h2 := reachBytes_lt
      simp at h1
      omega
    rcases Nat.eq_zero_or_pos len1 with h0 | hpos
    · subst h0
      exact ⟨0, 0, [], rfl, fun h => by omega, fun i p h => by simp at h, by omega⟩
    obtain ⟨b, o, spot⟩ := x
    obtain ⟨cs0, hc0, _⟩ := hr 0 (by omega)
    rw [cells25, Nat.zero_mul] at hc0
    obtain ⟨_, hcl0, hce0⟩ := World.cells?_some hc0
    obtain ⟨x0, x1, rfl⟩ := two hcl0
    have hx0 := hce0 0 (by omega)
    simp [Addr.add] at hx0
    have hspot : spot = none := by simpa using World.cell?_spot hx0
    subst hspot
    obtain ⟨T, hT1, hT2⟩ := list_of (P := fun i p => W.cell? ⟨b, o + i * 2, none⟩ = some (.int .i64 p.1) ∧ W.cell? ⟨b, o + i * 2 + 1, none⟩ = some (.int .i64 p.2)) len1 (fun i hi => by
      obtain ⟨cs, hc, ht⟩ := hr i (by omega)
      rw [cells25] at hc
      obtain ⟨_, hcl, hce⟩ := World.cells?_some hc
      obtain ⟨p, q, rfl⟩ := slot_open hcl ht
      have g0 := hce 0 (by omega)
      have g1 := hce 1 (by omega)
      rw [Deep.add_add, add_none] at g0 g1
      exact ⟨(p, q), by simpa using g0, by simpa [Nat.add_assoc] using g1⟩)
    exact ⟨b, o, T, hT1, fun _ => ⟨rfl, by simpa using lt_of_cell hx0⟩, hT2, by omega⟩

end Go.Proofs.Ytidalhdhaagpaaa
