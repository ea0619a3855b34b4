/-
  The reference's Parse: what its roads need; conditions as each theorem has them.
-/
import Derived.Test.YtiejandeoopiiaaGreatDoorTW
import Derived.Test.YtiejandeoopiiaaGreatDoorSA
set_option linter.unusedSimpArgs false
set_option linter.unusedVariables false
namespace Go.Proofs.YtiejandeoopiiaaGreatDoor
open Go.RowKit

/-- A slice of values of one cell each, wherever it lies. -/
structure SrcV (w : World) (a : Option Addr) (len cap : Nat) (xs : List Value) (B : Nat) : Prop where
  hlen : xs.length = len
  hcap : len ≤ cap
  hmax : cap ≤ maxLen
  lies : 0 < len → ∃ b o, a = some ⟨b, o, none⟩ ∧ b < w.heap.size ∧ B ≤ b ∧ ∀ j u, xs[j]? = some u → w.cell? ⟨b, o + j, none⟩ = some u
theorem SrcV.below {w w' : World} {a : Option Addr} {len cap B : Nat} {xs : List Value} (h : SrcV w a len cap xs B) (k : Below w.heap.size w w') : SrcV w' a len cap xs B := by
  refine ⟨h.hlen, h.hcap, h.hmax, fun h0 => ?_⟩
  obtain ⟨b, o, e, hb, hB, hc⟩ := h.lies h0
  exact ⟨b, o, e, Nat.lt_of_lt_of_le hb k.size, hB, fun j u hu => (k.cell (p := ⟨b, o + j, none⟩) hb).trans (hc j u hu)⟩
theorem own_srcV {w : World} {B : Nat} {e : TypeId} {v : Value} {xs : List Value} (h : Own w B e v xs) : ∃ a cap, v = .slice a xs.length cap ∧ SrcV w a xs.length cap xs B := by
  rcases h.2 with ⟨rfl, h0⟩ | ⟨g, cap, cur, rfl, hx, hh, hc, hm, hs, ht⟩
  · have : xs = [] := List.length_eq_zero_iff.1 h0
    subst this
    exact ⟨none, 0, rfl, rfl, Nat.le_refl _, Nat.zero_le _, fun h => by simp at h⟩
  · refine ⟨_, cap, rfl, rfl, hc, hm, fun _ => ⟨g, 0, rfl, lt_of_some hh, hx, fun j u hu => ?_⟩⟩
    have hj := (List.getElem?_eq_some_iff.1 hu).1
    rw [Nat.mul_one] at ht
    have : cur.toList[j]? = some u := by rw [← hu, ← ht, List.getElem?_take, if_pos (by omega)]
    rw [Nat.zero_add]
    simp only [World.cell?, hh]
    simpa using this
theorem toList_byt (t : ByteArray) (l : List UInt8) : (t.toList == l) = decide (byt t = l.map UInt8.toNat) := by
  rw [Lib.toList_data]
  by_cases h : t.data.toList = l
  · rw [decide_eq_true (by unfold byt; rw [h])]; simpa using h
  · have hn : ¬ byt t = l.map UInt8.toNat := fun e => h (by
      unfold byt at e
      exact (List.map_inj_right fun a b hab => UInt8.toNat_inj.1 hab).1 e)
    rw [decide_eq_false hn]; simpa using h
theorem rprs_long {l : List Nat} (h : 285 < l.length) : rprs l = none := by unfold rprs; rw [if_pos h]
theorem rprs_not {l : List Nat} (h : (wrd 32 l).length ≠ 3) : rprs l = none := by
  unfold rprs
  split
  · rfl
  · split
    · rename_i e; rw [e] at h; simp at h
    · rfl
theorem rprs_three {l v t p : List Nat} (h : l.length ≤ 285) (e : wrd 32 l = [v, t, p]) : rprs l = if v = allowT ∨ v = denyT then (porR p).bind fun q => (tarR t).bind fun z => if (mkR v q z).right = true then some (mkR v q z) else none else none := by
  unfold rprs
  rw [if_neg (by omega), e]
theorem len_three {α : Type} {l : List α} (h : l.length = 3) : ∃ a b c, l = [a, b, c] := by
  match l, h with
  | [a, b, c], _ => exact ⟨a, b, c, rfl⟩
def mkA (al : Bool) (p : Nat × Nat) (t : Ad × Int × ByteArray) : Ru := ⟨al, t.1, t.2.1, t.2.2, (p.1 : Nat), (p.2 : Nat)⟩
theorem rprs_al {l v tg po : List Nat} {al : Bool} (hv : v = allowT ∨ v = denyT) (hal : decide (v = allowT) = al) (h : rprs l = if v = allowT ∨ v = denyT then (porR po).bind fun q => (tarR tg).bind fun z => if (mkR v q z).right = true then some (mkR v q z) else none else none) : rprs l = (porR po).bind fun q => (tarR tg).bind fun z => if (mkA al q z).right = true then some (mkA al q z) else none := by
  rw [h, if_pos hv, ← hal]
  rfl
theorem len_two {α : Type} {l : List α} (h : l.length = 2) : ∃ a b, l = [a, b] := by
  match l, h with
  | [a, b], _ => exact ⟨a, b, rfl⟩
theorem wh_lt {l : List Nat} {d n : Nat} (h : some n = wh l d) (hd : d ≤ 5) : n < 100000 := by
  unfold wh at h
  split at h
  · rename_i hh
    obtain rfl := Option.some.inj h
    have h1 := val_lt l (by
      have := hh.1
      simp only [isNum, Bool.and_eq_true] at this
      exact this.1.2)
    have h2 : 10 ^ l.length ≤ 10 ^ 5 := Nat.pow_le_pow_right (by omega) (by omega)
    omega
  · cases h
/-- Which road a text is on, where it has one. -/
def Rd (l : List Nat) (al : Bool) (k : Nat) : Prop := ∀ v tg po, wrd 32 l = [v, tg, po] → v = allowT ∨ v = denyT → decide (v = allowT) = al ∧ ((wrd 45 po).length ≤ 2 → (wrd 45 po).length = k)
theorem rd_some (l : List Nat) : (Rd l true 1 ∨ Rd l true 2) ∨ (Rd l false 1 ∨ Rd l false 2) := by
  by_cases h : ∃ v tg po, wrd 32 l = [v, tg, po]
  · obtain ⟨v, tg, po, e⟩ := h
    have hne := wrd_ne 45 po
    have h1 : 1 ≤ (wrd 45 po).length := List.length_pos_iff.2 hne
    have key : ∀ al k, decide (v = allowT) = al → ((wrd 45 po).length ≤ 2 → (wrd 45 po).length = k) → Rd l al k := fun al k q1 q2 v' tg' po' e' _ => by
      rw [e] at e'
      simp only [List.cons.injEq, and_true] at e'
      obtain ⟨rfl, rfl, rfl⟩ := e'
      exact ⟨q1, q2⟩
    cases ha : decide (v = allowT)
    · by_cases h2 : (wrd 45 po).length = 1
      · exact Or.inr (Or.inl (key _ _ ha (fun _ => h2)))
      · exact Or.inr (Or.inr (key _ _ ha (fun _ => by omega)))
    · by_cases h2 : (wrd 45 po).length = 1
      · exact Or.inl (Or.inl (key _ _ ha (fun _ => h2)))
      · exact Or.inl (Or.inr (key _ _ ha (fun _ => by omega)))
  · exact Or.inl (Or.inl (fun v tg po e _ => absurd ⟨v, tg, po, e⟩ h))
end Go.Proofs.YtiejandeoopiiaaGreatDoor
