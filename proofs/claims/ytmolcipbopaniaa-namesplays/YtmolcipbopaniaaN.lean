/-
  What the reference does, in numbers; conditions as each theorem has them.
-/
import Derived.Test.YtmolcipbopaniaaM
set_option linter.unusedSimpArgs false
set_option linter.unusedVariables false
namespace Go.Proofs.Ytmolcipbopaniaa

theorem place_one {L : List Sl} {now : Int} (hn : 0 ≤ now) {name : ByteArray} {j : Nat} {t : Sl} (hj : L[j]? = some t) (ht : t.name = name) (hb : ∀ (k : Nat) (x : Sl), k < j → L[k]? = some x → x.name ≠ name) : place L now name = j := by
  have hl := (List.getElem?_eq_some_iff.1 hj).1
  have e : rk L now name j = -2 := by unfold rk; rw [at0_of hj]; exact rank_own ht
  unfold place
  refine best_eq (by omega) (fun k hk => ?_) (fun k hk => ?_)
  · rw [e]; exact rank_ge now name _ hn
  · rw [e]
    have h1 := rank_ge now name (at0 L k) hn
    have h2 : rank now name (at0 L k) ≠ -2 := fun e2 => hb k _ hk (get_at0 (by omega)) (own_rank hn e2)
    unfold rk
    omega
theorem place_two {L : List Sl} {now : Int} (hn : 0 ≤ now) {name : ByteArray} {j : Nat} {t : Sl} (hj : L[j]? = some t) (ht : t.till ≤ now) (hno : ∀ (k : Nat) (x : Sl), L[k]? = some x → x.name ≠ name) (hb : ∀ (k : Nat) (x : Sl), k < j → L[k]? = some x → now < x.till) : place L now name = j := by
  have hl := (List.getElem?_eq_some_iff.1 hj).1
  have e : rk L now name j = -1 := by unfold rk rank; rw [at0_of hj, if_neg (hno j t hj), if_neg (by omega)]
  unfold place
  refine best_eq (by omega) (fun k hk => ?_) (fun k hk => ?_)
  · rw [e]
    unfold rk rank
    rw [if_neg (hno k _ (get_at0 (by omega)))]
    split <;> omega
  · rw [e]
    have h1 := hb k _ hk (get_at0 (by omega))
    unfold rk rank
    rw [if_neg (hno k _ (get_at0 (by omega))), if_pos h1]
    omega
def tl (L : List Sl) (i : Nat) : Int := (at0 L i).till
theorem best_congr {r s : Nat → Int} : ∀ k, (∀ j, j ≤ k → r j = s j) → best r k = best s k
  | 0, _ => rfl
  | k + 1, h => by
    have ih := best_congr k (fun j hj => h j (by omega))
    have h1 := (best_spec s k).1
    unfold best
    rw [ih, h (k + 1) (by omega), h (best s k) (by omega)]
theorem place_three {L : List Sl} (h0 : 0 < L.length) {now : Int} {name : ByteArray} (hno : ∀ (k : Nat) (x : Sl), L[k]? = some x → x.name ≠ name) (hb : ∀ (k : Nat) (x : Sl), L[k]? = some x → now < x.till) : place L now name = best (tl L) (L.length - 1) := by
  unfold place
  refine best_congr _ (fun j hj => ?_)
  have hs := get_at0 (L := L) (i := j) (by omega)
  unfold rk rank tl
  rw [if_neg (hno j _ hs), if_pos (hb j _ hs)]
/-- Behind the first j of a Put that drops a name. -/
def dropped (L : List Sl) (name : ByteArray) (j : Nat) : List Sl := if fidx name L < j then L.set (fidx name L) zeroS else L
theorem dropped_length (L : List Sl) (name : ByteArray) (j : Nat) : (dropped L name j).length = L.length := by unfold dropped; split <;> simp
theorem dropped_ok {L : List Sl} (h : okL L) (name : ByteArray) (j : Nat) : okL (dropped L name j) := by
  unfold dropped; split
  · exact okL_set h _ zeroS_ok
  · exact h
theorem dropped_end {L : List Sl} {name : ByteArray} : dropped L name L.length = L.set (fidx name L) zeroS := by
  unfold dropped
  split
  · rfl
  · rw [List.set_eq_of_length_le (by omega)]
theorem dropped_at {L : List Sl} {name : ByteArray} {j : Nat} (hj : j < L.length) : at0 (dropped L name j) j = at0 L j := by
  unfold dropped
  split
  · rename_i h
    unfold at0
    rw [List.getD_eq_getElem?_getD, List.getElem?_set, if_neg (by omega), ← List.getD_eq_getElem?_getD]
  · rfl
theorem dropped_hit {L : List Sl} (hU : Uniq L) {name : ByteArray} (h0 : name.size ≠ 0) {j : Nat} (hj : j < L.length) (he : (at0 L j).name = name) : (dropped L name j).set j zeroS = dropped L name (j + 1) := by
  have h1 := fidx_least name L j _ (get_at0 hj) he
  have h2 := fidx_at name L _ (get_at0 (show fidx name L < L.length by omega))
  have h3 := hU _ _ _ _ (get_at0 (show fidx name L < L.length by omega)) (get_at0 hj) (by rw [h2, he]) (by rw [h2]; exact h0)
  unfold dropped
  rw [if_neg (by omega), if_pos (by omega), h3]
theorem dropped_miss {L : List Sl} {name : ByteArray} {j : Nat} (hj : j < L.length) (he : (at0 L j).name ≠ name) : dropped L name j = dropped L name (j + 1) := by
  have : fidx name L ≠ j := fun e => he (by have := fidx_at name L _ (get_at0 (show fidx name L < L.length by omega)); rw [e] at this; exact this)
  unfold dropped
  by_cases h : fidx name L < j
  · rw [if_pos h, if_pos (by omega)]
  · rw [if_neg h, if_neg (by omega)]
/-- A slot's name and whether it holds tell what Get finds. -/
theorem got_hit {L : List Sl} (hU : Uniq L) {now : Int} (hb : ¬ badNow now) {name : ByteArray} {j : Nat} (hj : j < L.length) (h0 : (at0 L j).name.size ≠ 0) (he : (at0 L j).name = name) (ht : now < (at0 L j).till) : got L now name = some (at0 L j) := by
  have h1 := fidx_least name L j _ (get_at0 hj) he
  have h2 := fidx_at name L _ (get_at0 (show fidx name L < L.length by omega))
  have h3 := hU _ _ _ _ (get_at0 (show fidx name L < L.length by omega)) (get_at0 hj) (by rw [h2, he]) (by rw [h2, ← he]; exact h0)
  unfold got
  rw [if_neg hb, h3, get_at0 hj]
  simp only [ht, if_true]
theorem got_miss {L : List Sl} (hk : okL L) {now : Int} (hb : ¬ badNow now) {name : ByteArray} (h : ∀ j, j < L.length → ¬ ((at0 L j).name.size ≠ 0 ∧ (at0 L j).name = name ∧ now < (at0 L j).till)) : got L now name = none := by
  cases e : got L now name with
  | none => rfl
  | some s =>
    obtain ⟨h1, h2, h3, h4⟩ := got_spec e
    have hl := (List.getElem?_eq_some_iff.1 h2).1
    have e2 := at0_of h2
    exfalso
    refine h _ hl ⟨?_, by rw [e2]; exact h3, by rw [e2]; exact h4⟩
    rw [e2]
    intro h5
    have := (hk _ _ h2).none h5
    rw [this] at h4
    have : now < 0 := h4
    unfold badNow at hb
    omega
theorem holds_name {s : Sl} (hk : s.Ok) {now : Int} (hn : 0 ≤ now) (ht : now < s.till) : s.name.size ≠ 0 := fun e => by
  have := hk.none e
  rw [this] at ht
  have : now < 0 := ht
  omega
end Go.Proofs.Ytmolcipbopaniaa
