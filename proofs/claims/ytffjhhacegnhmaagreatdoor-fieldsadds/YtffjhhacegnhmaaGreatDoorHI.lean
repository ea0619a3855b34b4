/-
  readStatus and End of package head; conditions as each theorem has them.
-/
import Derived.Test.YtffjhhacegnhmaaGreatDoorHF
import Derived.Lib.SlBytesConst
set_option linter.unusedSimpArgs false
set_option linter.unusedVariables false
namespace Go.Proofs.YtffjhhacegnhmaaGreatDoor
open Go.RowKit

/-- A slice of the bytes l, wherever it lies. -/
structure Src (w : World) (a : Option Addr) (len cap : Nat) (l : List Nat) : Prop where
  hlen : l.length = len
  hcap : len ≤ cap
  hmax : cap ≤ maxLen
  nil : a = none → cap = 0
  lies : 0 < len → ∃ b o, a = some ⟨b, o, none⟩ ∧ b < w.heap.size ∧ ∀ i, i < len → w.cell? ⟨b, o + i, none⟩ = some (.int .u8 (l.getD i 0 : Nat))
  byte : ∀ x ∈ l, x < 256
theorem Src.keep {w w' : World} {a : Option Addr} {len cap : Nat} {l : List Nat} (h : Src w a len cap l) (hk : 0 < len → ∀ b o, a = some ⟨b, o, none⟩ → w'.heap[b]? = w.heap[b]?) (hs : w.heap.size ≤ w'.heap.size) : Src w' a len cap l := by
  refine ⟨h.hlen, h.hcap, h.hmax, h.nil, fun h0 => ?_, h.byte⟩
  obtain ⟨b, o, e, hb, hc⟩ := h.lies h0
  exact ⟨b, o, e, by omega, fun i hi => (World.cell?_of_block (hk h0 b o e)).trans (hc i hi)⟩
theorem Src.lt {w : World} {a : Option Addr} {len cap : Nat} {l : List Nat} (h : Src w a len cap l) (h0 : 0 < len) {b o : Nat} (e : a = some ⟨b, o, none⟩) : b < w.heap.size := by
  obtain ⟨b', o', e', hb, hc⟩ := h.lies h0
  rw [e] at e'
  simp only [Option.some.injEq, Addr.mk.injEq, and_true] at e'
  omega
theorem Src.below {w w' : World} {a : Option Addr} {len cap : Nat} {l : List Nat} (h : Src w a len cap l) (k : Below w.heap.size w w') : Src w' a len cap l :=
  h.keep (fun h0 b o e => k.block b (h.lt h0 e)) k.size
theorem Src.nilS (w : World) : Src w none 0 0 [] := ⟨rfl, Nat.le_refl _, Nat.zero_le _, fun _ => rfl, fun h => by omega, by simp⟩
/-- The first k bytes. -/
theorem Src.take {w : World} {a : Option Addr} {len cap : Nat} {l : List Nat} (h : Src w a len cap l) {k : Nat} (hk : k ≤ len) : Src w a k cap (l.take k) := by
  refine ⟨by rw [List.length_take, h.hlen]; omega, by have := h.hcap; omega, h.hmax, h.nil, fun h0 => ?_, fun x hx => h.byte x (List.mem_of_mem_take hx)⟩
  obtain ⟨b, o, e, hb, hc⟩ := h.lies (by omega)
  refine ⟨b, o, e, hb, fun i hi => ?_⟩
  rw [hc i (by omega)]
  simp [List.getD, List.getElem?_take, hi]
theorem Src.drewN {w : World} {a : Option Addr} {len cap : Nat} {l : List Nat} (h : Src w a len cap l) (n : Nat) : Src (w.drewN n) a len cap l := h.keep (fun _ _ _ _ => rfl) (Nat.le_refl _)

theorem three {l : List Nat} (h : l.length = 3) : ∃ a b c, l = [a, b, c] := by
  match l, h with
  | [a, b, c], _ => exact ⟨a, b, c, rfl⟩
def up (l : List Nat) : List Int := l.map fun (x : Nat) => (x : Int)
theorem up_length (l : List Nat) : (up l).length = l.length := by simp [up]
theorem up_getD (l : List Nat) (i : Nat) : (up l).getD i 0 = (l.getD i 0 : Nat) := by
  rw [up, List.getD, List.getElem?_map, List.getD]
  cases l[i]? <;> rfl
theorem up_range {l : List Nat} (h : ∀ x ∈ l, x < 256) : ∀ x ∈ up l, 0 ≤ x ∧ x < 256 := by
  intro x hx
  simp only [up, List.mem_map] at hx
  obtain ⟨y, hy, rfl⟩ := hx
  have := h y hy; omega
/-- Where the four bytes stand first. -/
theorem idx4 : ∀ l : List UInt8, (Lib.index l [13, 10, 13, 10] = -1 ∧ ∀ k, ¬ At4 (l.map UInt8.toNat) k) ∨ ∃ k : Nat, Lib.index l [13, 10, 13, 10] = k ∧ At4 (l.map UInt8.toNat) k ∧ ∀ j, j < k → ¬ At4 (l.map UInt8.toNat) j
  | [] => Or.inl ⟨by simp [Lib.index], fun k h => by simp [At4, At2] at h⟩
  | c :: r => by
    have ih := idx4 r
    have h0 : (([13, 10, 13, 10] : List UInt8).isPrefixOf (c :: r) = true) ↔ At4 ((c :: r).map UInt8.toNat) 0 := by
      have key : ∀ (x : UInt8) (n : Nat), n < 256 → (x.toNat = n ↔ x = UInt8.ofNat n) := fun x n hn => ⟨fun e => by rw [← e]; simp, fun e => by rw [e]; simp; omega⟩
      match r with
      | [] => simp [List.isPrefixOf, At4, At2]
      | [d] => simp [List.isPrefixOf, At4, At2]
      | [d, e] => simp [List.isPrefixOf, At4, At2]
      | d :: e :: f :: r =>
        simp only [List.isPrefixOf, Bool.and_eq_true, beq_iff_eq, Bool.and_true, At4, At2, List.map_cons, List.getElem?_cons_zero, List.getElem?_cons_succ, Option.some.injEq]
        rw [key c 13 (by omega), key d 10 (by omega), key e 13 (by omega), key f 10 (by omega)]
        constructor
        · rintro ⟨h1, h2, h3, h4⟩; exact ⟨⟨h1.symm, h2.symm⟩, h3.symm, h4.symm⟩
        · rintro ⟨⟨h1, h2⟩, h3, h4⟩; exact ⟨h1.symm, h2.symm, h3.symm, h4.symm⟩
    have hs : ∀ k, At4 ((c :: r).map UInt8.toNat) (k + 1) ↔ At4 (r.map UInt8.toNat) k := fun k => by
      simp [At4, At2]
    by_cases hp : ([13, 10, 13, 10] : List UInt8).isPrefixOf (c :: r) = true
    · exact Or.inr ⟨0, by rw [Lib.index, if_pos hp]; rfl, h0.1 hp, fun j hj => by omega⟩
    · rw [Lib.index, if_neg hp]
      have hn0 : ¬ At4 ((c :: r).map UInt8.toNat) 0 := fun e => hp (h0.2 e)
      rcases ih with ⟨h1, h2⟩ | ⟨k, h1, h2, h3⟩
      · refine Or.inl ⟨by rw [h1]; rfl, fun k => ?_⟩
        cases k with
        | zero => exact hn0
        | succ k => exact fun e => h2 k ((hs k).1 e)
      · refine Or.inr ⟨k + 1, ?_, (hs k).2 h2, fun j hj => ?_⟩
        · rw [h1, if_neg (by intro e; have := beq_iff_eq.1 e; omega)]; omega
        · cases j with
          | zero => exact hn0
          | succ j => exact fun e => h3 j (by omega) ((hs j).1 e)

theorem Beg.src {w : World} {B cap : Nat} {l : List Nat} (h : Beg w B l) (hc : l.length ≤ cap) (hm : cap ≤ maxLen) (hb : ∀ x ∈ l, x < 256) : Src w (some ⟨B, 0, none⟩) l.length cap l :=
  ⟨rfl, hc, hm, (fun e => by cases e), fun h0 => ⟨B, 0, rfl, lt_of_cell (h.cell h0), fun i hi => by rw [Nat.zero_add]; exact h.cell hi⟩, hb⟩
end Go.Proofs.YtffjhhacegnhmaaGreatDoor
