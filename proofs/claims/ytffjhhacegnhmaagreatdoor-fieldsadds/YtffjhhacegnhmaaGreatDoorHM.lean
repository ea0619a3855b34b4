/-
  sameName and Get of package head; Find of the reference's base; conditions as each theorem has them.
-/
import Derived.Test.YtffjhhacegnhmaaGreatDoorHF
import Derived.Deep.QuietTactic
set_option linter.unusedSimpArgs false
set_option linter.unusedVariables false
namespace Go.Proofs.YtffjhhacegnhmaaGreatDoor
open Go.RowKit

theorem low_take_succ {l m : List Nat} {k : Nat} (h1 : k < l.length) (h2 : k < m.length) (h : low (l.take k) = low (m.take k)) (hc : lo (l.getD k 0) = lo (m.getD k 0)) : low (l.take (k + 1)) = low (m.take (k + 1)) := by
  rw [take_snoc l k h1, take_snoc m k h2]
  unfold low at h ⊢
  rw [List.map_append, List.map_append, h]
  simp only [List.map_cons, List.map_nil, hc]
theorem low_differ {l m : List Nat} {k : Nat} (h1 : k < l.length) (h2 : k < m.length) (hc : lo (l.getD k 0) ≠ lo (m.getD k 0)) : low l ≠ low m := by
  intro h
  apply hc
  have e := congrArg (fun x => x.getD k 0) h
  simp only [low, List.getD, List.getElem?_map] at e ⊢
  rw [List.getElem?_eq_getElem h1, List.getElem?_eq_getElem h2] at e ⊢
  simpa using e
theorem fst_take {d : Nat} {l : List Nat} {k : Nat} (hk : k < l.length) (h : ∀ j, j < k → l.getD j 0 ≠ d) (hd : l.getD k 0 = d) : fst d l = some k := by
  cases hf : fst d l with
  | none =>
    exact absurd (by rw [← hd]; exact getD_mem hk) (fst_none_iff.1 hf)
  | some j =>
    obtain ⟨h1, h2, h3⟩ := fst_lt hf
    rcases Nat.lt_trichotomy j k with g | g | g
    · have := h j g
      rw [List.getD, h2] at this
      exact absurd rfl this
    · rw [g]
    · have := h3 k g
      rw [List.getElem?_eq_getElem hk] at this
      rw [List.getD, List.getElem?_eq_getElem hk] at hd
      exact absurd (by rw [← hd]; rfl) this
theorem fst_no {d : Nat} {l : List Nat} (h : ∀ j, j < l.length → l.getD j 0 ≠ d) : fst d l = none :=
  fst_none fun hm => by
    obtain ⟨i, hi, e⟩ := List.getElem_of_mem hm
    have := h i hi
    rw [List.getD, List.getElem?_eq_getElem hi] at this
    exact this e
def fI (o : Option Nat) : Int := match o with | none => -1 | some k => (k : Int)
set_option maxRecDepth 100000 in
set_option maxHeartbeats 2000000 in
theorem find_at (s : ByteArray) (d : Nat) (D : ByteArray) (w : World) (hs : s.size ≤ 140737488355328) (hd : d < 256) (hD : D = strN [d]) : Calls Tryz.prog 26 #[.string s, .string D] w fun e w' => e = .returned (.int .i64 (fI (fst d (byt s)))) ∧ w = w' := by
  obtain ⟨l, hl⟩ : ∃ l, l = byt s := ⟨_, rfl⟩
  obtain ⟨N, hN⟩ : ∃ N, N = s.size := ⟨_, rfl⟩
  have hNI : (s.size : Int) = (N : Int) := by rw [hN]
  have hnl : N = l.length := by rw [hN, hl, byt_length]
  have hDs : (D.size : Int) = 1 := by rw [hD, strN_size]; rfl
  have HEX : Hid (∀ k, k < N → (((s.extract k (k + 1)).toList == D.toList) = decide (l.getD k 0 = d))) := fun k hk => by
    have hb : byt (s.extract k (k + 1)) = [l.getD k 0] := by
      unfold byt
      rw [ByteArray.data_extract, Array.toList_extract, List.extract_eq_take_drop]
      have hk' : k < s.data.toList.length := by rw [Array.length_toList]; show k < s.size; omega
      rw [show k + 1 - k = 1 by omega, List.drop_eq_getElem_cons hk', List.take_succ_cons, List.take_zero, hl]
      simp only [List.map_cons, List.map_nil, byt, List.getD, List.getElem?_map, List.getElem?_eq_getElem hk']
      rfl
    rw [Lib.toList_data D, toList_byt, hb, hD, show (strN [d]).data.toList.map UInt8.toNat = byt (strN [d]) from rfl, byt_strN [d] (by intro x hx; simp at hx; omega)]
    apply decide_eq_decide.2
    simp
  rw [← hl]
  have HNL := hide hnl
  rw [← hN] at hs
  clear hl hN hnl hD
  go_enter Tryz.func26, Tryz.ntmps26
  go_wp2_with fail
  go_loop [5] (fun i => ∃ k : Nat, k ≤ N ∧ i = .int .i64 k ∧ Hid (∀ j, j < k → l.getD j 0 ≠ d)) (fun i => N - (intOf i).toNat)
  case atStart => exact ⟨0, by omega, rfl, fun j hj => by omega⟩
  case round =>
    obtain ⟨k, hk, rfl, HI⟩ := hrel
    by_cases hkN : k < N
    · have hdk : decide ((k : Int) + 1 ≤ (N : Int)) = true := decide_eq_true (by omega)
      have hx := HEX.out k hkN
      have hkl : k < l.length := by rw [← HNL.out]; exact hkN
      by_cases hc : l.getD k 0 = d
      · rw [decide_eq_true hc] at hx
        have HR := hide (fst_take hkl HI.out hc)
        clear hc hkl
        go_wp2_with fail
        go_ret
        exact ⟨by rw [HR.out]; rfl, rfl⟩
      · rw [decide_eq_false hc] at hx
        have HR : Hid (∀ j, j < k + 1 → l.getD j 0 ≠ d) := fun j hj => by
          by_cases e : j = k
          · rw [e]; exact hc
          · exact HI.out j (by omega)
        clear hc hkl
        go_wp2_with fail
        go_round
        case rel => exact ⟨k + 1, by omega, by go_num, HR.out⟩
        case measure => simp [intOf]; omega
    · have hdk : decide ((k : Int) + 1 ≤ (N : Int)) = false := decide_eq_false (by omega)
      have HR := hide (fst_no (d := d) (l := l) (fun j hj => HI.out j (by rw [← HNL.out] at hj; omega)))
      go_wp2_with fail
      go_ret
      exact ⟨by rw [HR.out]; rfl, rfl⟩

theorem get_snoc (fs : List Fd) (f : Fd) (n : List Nat) : get (fs ++ [f]) n = if low f.1 = low n then ((if (get fs n).2 = 0 then f.2 else (get fs n).1), (get fs n).2 + 1) else get fs n := by
  induction fs with
  | nil =>
    simp only [List.nil_append, get]
    split <;> simp
  | cons g r ih =>
    rw [List.cons_append, get, get, ih]
    by_cases hg : low g.1 = low n
    · rw [if_pos hg, if_pos hg]
      by_cases hf : low f.1 = low n
      · rw [if_pos hf, if_pos hf]; simp
      · rw [if_neg hf, if_neg hf]
    · rw [if_neg hg, if_neg hg]
theorem get_zero (fs : List Fd) (n : List Nat) (h : (get fs n).2 = 0) : (get fs n).1 = [] := by
  induction fs with
  | nil => rfl
  | cons g r ih =>
    rw [get] at h ⊢
    split at h
    · simp at h
    · rename_i hg; rw [if_neg hg]; exact ih h
theorem get_le (fs : List Fd) (n : List Nat) : (get fs n).2 ≤ fs.length := by
  induction fs with
  | nil => exact Nat.le_refl _
  | cons g r ih =>
    rw [get]
    split
    · simp; exact ih
    · simp; omega
theorem ftake_snoc (fs : List Fd) (k : Nat) (h : k < fs.length) : fs.take (k + 1) = fs.take k ++ [fs.getD k ([], [])] := by
  rw [List.take_add_one, List.getD, List.getElem?_eq_getElem h]; rfl
end Go.Proofs.YtffjhhacegnhmaaGreatDoor
