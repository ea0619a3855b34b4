/-
  However a head is cut, in numbers: each beginning is short, or is answered as the whole; an own answer beside a connection's memory; conditions as each theorem has them.
-/
import Derived.Test.YtccoddmdlbdfjaaGreatDoorJoinedWK
set_option linter.unusedSimpArgs false
set_option linter.unusedVariables false
namespace Go.Proofs.YtccoddmdlbdfjaaGreatDoor
open Go.RowKit

theorem request_same {l m : List Nat} {ls : List (List Nat)} (h : hd l = some ls) (h' : hd m = some ls) : request l = request m := by
  obtain ⟨_, a, b⟩ := request_hd h
  obtain ⟨_, a', b'⟩ := request_hd h'
  by_cases e : (req ls).2 = .ok
  · rw [a e, a' e]
  · rw [b e, b' e]
theorem add_read (l : List Nat) : addC Cn.new l = readC l := rfl
/-- A beginning is short, or it is answered as the whole. -/
theorem comes_pref (b : List Nat) (k : Nat) : addC Cn.new (b.take k) = (Cn.new, 0) ∨ (0 < (addC Cn.new (b.take k)).2 ∧ (addC Cn.new (b.take k)).1 = (addC Cn.new b).1 ∧ (addC Cn.new (b.take k)).2 ≤ (addC Cn.new b).2 ∧ ((addC Cn.new b).1.st = 5 ∨ (addC Cn.new (b.take k)).2 = (addC Cn.new b).2)) := by
  rw [add_read, add_read]
  have hlt : (b.take k).length ≤ b.length := by rw [List.length_take]; omega
  cases h : hd (b.take k) with
  | none =>
    have hr := request_none h
    by_cases hs : (b.take k).length < 8192
    · left
      have h6 : is6 (request (b.take k)).2.2 = true := by rw [request_is6]; exact decide_eq_true ⟨h, hs⟩
      unfold readC
      rw [if_pos h6]
    · right
      have h6 : ¬ is6 (request (b.take k)).2.2 = true := by rw [request_is6, decide_eq_true_eq]; exact fun q => hs q.2
      have hb : hd b = none := by
        cases hb : hd b with
        | none => rfl
        | some ls =>
          obtain ⟨_, _, h8, _⟩ := hd_some hb
          have := hd_take_eq hb (k := k) (by rw [List.length_take] at hs; omega)
          rw [h] at this
          cases this
      have h6b : ¬ is6 (request b).2.2 = true := by rw [request_is6, decide_eq_true_eq]; exact fun q => hs (by omega)
      have e1 : readC (b.take k) = (ansC 400, (b.take k).length) := by
        unfold readC
        rw [if_neg h6, if_pos (by rw [hr]; simp only; split <;> simp)]
      have e2 : readC b = (ansC 400, b.length) := by
        unfold readC
        rw [if_neg h6b, if_pos (by rw [request_none hb]; simp only; split <;> simp)]
      rw [e1, e2]
      exact ⟨by simp only; omega, rfl, hlt, Or.inl rfl⟩
  | some ls =>
    right
    have hb : hd b = some ls := by
      cases hb : hd b with
      | none => rw [hd_none_take hb k] at h; cases h
      | some ls' =>
        by_cases hk : tot ls' ≤ k
        · rw [hd_take_eq hb hk] at h; exact h
        · rw [hd_short hb (by omega)] at h; cases h
    have e : request (b.take k) = request b := request_same h hb
    have h6 : ¬ is6 (request (b.take k)).2.2 = true := by rw [(request_hd h).1, req_six]; simp
    have h6b : ¬ is6 (request b).2.2 = true := by rw [← e]; exact h6
    obtain ⟨_, _, _, hlen⟩ := hd_some h
    have ht := tot_ge ls
    by_cases ho : (req ls).2 = .ok
    · have hok : (request b).2.2 = .ok := by rw [(request_hd hb).1]; exact ho
      have hn : (request b).2.1 = tot ls := by rw [(request_hd hb).2.1 ho]
      have e1 : readC b = (takeC (request b).1, tot ls) := by
        unfold readC
        rw [if_neg h6b, if_neg (by simp [hok]), hn]
      have e2 : readC (b.take k) = (takeC (request b).1, tot ls) := by
        unfold readC
        rw [e, if_neg h6b, if_neg (by simp [hok]), hn]
      rw [e1, e2]
      exact ⟨by simp only; omega, rfl, Nat.le_refl _, Or.inr rfl⟩
    · have hno : (request b).2.2 ≠ .ok := by rw [(request_hd hb).1]; exact ho
      have e1 : readC b = (ansC 400, b.length) := by
        unfold readC
        rw [if_neg h6b, if_pos hno]
      have e2 : readC (b.take k) = (ansC 400, (b.take k).length) := by
        unfold readC
        rw [if_neg h6, if_pos (by rw [e]; exact hno)]
      rw [e1, e2]
      exact ⟨by simp only; omega, rfl, hlt, Or.inl rfl⟩
/-- What was added when the loop ends. -/
structure Cut (b : List Nat) (N i m : Nat) (D : Cn) : Prop where
  at_ : (m = 0 ∧ D = Cn.new ∧ (i = N + 1 → addC Cn.new b = (Cn.new, 0))) ∨ (0 < m ∧ D = (addC Cn.new b).1 ∧ m ≤ (addC Cn.new b).2 ∧ ((addC Cn.new b).1.st = 5 ∨ m = (addC Cn.new b).2))
theorem Cut.start (b : List Nat) (N : Nat) : Cut b N 0 0 Cn.new := ⟨Or.inl ⟨rfl, rfl, fun h => by omega⟩⟩
theorem Cut.zero {b : List Nat} {N i : Nat} {D : Cn} (h : Cut b N i 0 D) : D = Cn.new := by
  rcases h.at_ with ⟨_, h, _⟩ | ⟨h, _⟩
  · exact h
  · omega
theorem Cut.step (b : List Nat) (N i k : Nat) (hk : i = N → b.length ≤ k) : Cut b N (i + 1) (addC Cn.new (b.take k)).2 (addC Cn.new (b.take k)).1 := by
  rcases comes_pref b k with h | h
  · refine ⟨Or.inl ⟨by rw [h], by rw [h], fun e => ?_⟩⟩
    rw [List.take_of_length_le (hk (by omega))] at h
    exact h
  · exact ⟨Or.inr h⟩
theorem Cut.done {b : List Nat} {N i m : Nat} {D : Cn} (h : Cut b N i m D) (hi : i ≤ N + 1) (he : m ≠ 0 ∨ N < i) : D = (addC Cn.new b).1 ∧ m ≤ (addC Cn.new b).2 ∧ ((addC Cn.new b).1.st = 5 ∨ m = (addC Cn.new b).2) := by
  rcases h.at_ with ⟨h1, h2, h3⟩ | h
  · have := h3 (by omega)
    rw [this]
    exact ⟨h2, by omega, Or.inr h1⟩
  · exact h.2
theorem addC_le (b : List Nat) : (addC Cn.new b).2 ≤ b.length := by
  rw [add_read]
  unfold readC
  split
  · exact Nat.zero_le _
  · split
    · exact Nat.le_refl _
    · rcases request_n b with ⟨h, _⟩ | ⟨_, ls, h1, h2⟩
      · simp only [h]; omega
      · obtain ⟨_, _, _, h3⟩ := hd_some h1
        simp only [h2]; omega
theorem u8_ix {st : Nat} {r : Rc} {a : Option Addr} {n c : Nat} {s : Int} {j : Nat} {z : Int} (h : (cnA st r (.slice a n c) s)[j]? = some (.int .u8 z)) : 3 ≤ j ∧ j ≤ 6 := by
  match j, h with
  | 0, h => simp [cnA] at h
  | 1, h => simp [cnA] at h
  | 2, h => simp [cnA] at h
  | 3, _ => omega
  | 4, _ => omega
  | 5, _ => omega
  | 6, _ => omega
  | 7, h => simp [cnA] at h
  | 8, h => simp [cnA] at h
  | 9, h => simp [cnA] at h
  | 10, h => simp [cnA] at h
  | 11, h => simp [cnA] at h
  | k + 12, h => simp [cnA] at h
/-- Five bytes or more don't lie in a connection's memory. -/
theorem Src.off {w : World} {a : Option Addr} {n c : Nat} {l : List Nat} {b x : Nat} {C : Cn} (h : Src w a n c l) (p : PC w b x C) (h5 : 5 ≤ n) : ∀ g o, a = some ⟨g, o, none⟩ → g ≠ b := by
  rintro g o rfl rfl
  obtain ⟨r, a, m, d, hr, _⟩ := p
  obtain ⟨g', o', e, _, hc⟩ := h.lies (by omega)
  obtain ⟨rfl, rfl⟩ : g = g' ∧ o = o' := by simpa using e
  have h0 := hc 0 (by omega)
  have h4 := hc 4 (by omega)
  rw [hr.cell] at h0 h4
  have q0 := u8_ix h0
  have q4 := u8_ix h4
  omega
theorem Src.past {w w' : World} {a : Option Addr} {n c : Nat} {l : List Nat} {b x : Nat} {C : Cn} (h : Src w a n c l) (p : PC w b x C) (h5 : n = 0 ∨ 5 ≤ n) (k : Kept b b w w') : Src w' a n c l :=
  h.keep (fun h0 g o e => by
    have hg : g < w.heap.size := by obtain ⟨g', o', e', hl, _⟩ := h.lies h0; rw [e] at e'; cases e'; exact hl
    have := h.off p (by omega) g o e
    exact k.block g hg this this) k.size
theorem Src.part {w : World} {a : Option Addr} {n c : Nat} {l : List Nat} (h : Src w a n c l) {k : Nat} (hk : k ≤ n) : Src w a k c (l.take k) :=
  ⟨by rw [List.length_take, h.hlen]; omega, Nat.le_trans hk h.hcap, h.hmax, h.nil, fun h0 => by
    obtain ⟨g, o, e, hl, hc⟩ := h.lies (by omega)
    refine ⟨g, o, e, hl, fun i hi => ?_⟩
    rw [hc i (by omega)]
    simp [List.getD, List.getElem?_take, hi], fun x hx => h.byte x (List.mem_of_mem_take hx)⟩
theorem own_five (c : Int) : (own c).length = 0 ∨ 5 ≤ (own c).length := by
  by_cases h : known c
  · right
    rcases h with rfl | rfl | rfl | rfl | rfl | rfl | rfl <;> decide +kernel
  · left; rw [own_no h]; rfl
end Go.Proofs.YtccoddmdlbdfjaaGreatDoor
