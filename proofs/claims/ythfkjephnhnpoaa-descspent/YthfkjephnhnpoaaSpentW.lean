/-
  The walk of DescSpent: for all arguments the call answers true and leaves what was there; no conditions.
-/
import Derived.Test.YthfkjephnhnpoaaG
set_option linter.unusedSimpArgs false
set_option linter.unusedVariables false
namespace Go.Proofs.Ythfkjephnhnpoaa
open Go.RowKit

/-- Entry j where the first i are open and entry x is at the last generation. -/
def ent (x i j : Nat) : En := ⟨if j < i then 1 else 0, if j = x then 1048576 else 1, if j < i then j else 0, if j < i then j else 0⟩
def ents (x n i : Nat) : List En := (List.range n).map (ent x i)
theorem ents_len (x n i : Nat) : (ents x n i).length = n := by simp [ents]
theorem ents_at (x n i j : Nat) (h : j < n) : (ents x n i)[j]? = some (ent x i j) := by
  simp [ents, h]
theorem ents_zero (x n : Nat) : (List.replicate n freshE).set x { freshE with gen := 1048576 } = ents x n 0 := by
  apply List.ext_getElem?
  intro j
  by_cases h : j < n
  · rw [ents_at x n 0 j h, List.getElem?_set]
    by_cases hx : x = j
    · rw [if_pos hx, if_pos (by simp; omega)]
      simp [ent, freshE, hx]
    · rw [if_neg hx, List.getElem?_replicate, if_pos h]
      simp [ent, freshE, Ne.symm hx]
  · rw [List.getElem?_eq_none (by simp; omega), List.getElem?_eq_none (by rw [ents_len]; omega)]
theorem ents_next (x n i : Nat) (h : i < n) : (ents x n i).set i { ent x i i with st := 1, k := i, n := i } = ents x n (i + 1) := by
  apply List.ext_getElem?
  intro j
  by_cases hj : j < n
  · rw [ents_at x n (i + 1) j hj, List.getElem?_set]
    by_cases hx : i = j
    · rw [if_pos hx, if_pos (by rw [ents_len]; omega)]
      subst hx
      simp [ent]
    · rw [if_neg hx, ents_at x n i j hj]
      have e : (j < i) = (j < i + 1) := by apply propext; omega
      simp only [ent, e]
  · rw [List.getElem?_eq_none (by rw [List.length_set, ents_len]; omega), List.getElem?_eq_none (by rw [ents_len]; omega)]

theorem lst_eq (es : List En) (i : Nat) (e : En) (he : es[i]? = some e) (h0 : e.st = 0) (hb : ∀ (j : Nat) (a : En), j < i → es[j]? = some a → a.st ≠ 0) : lst es = i := by
  have h1 : ¬ lst es < i := fun h => by
    obtain ⟨a, ha⟩ := get_lt (es := es) (j := lst es) (by have := (List.getElem?_eq_some_iff.1 he).1; omega)
    exact hb _ a h ha (lst_free es a ha)
  have h2 : ¬ i < lst es := fun h => lst_held es i e h he h0
  omega
theorem lst_full (es : List En) (hb : ∀ (j : Nat) (a : En), es[j]? = some a → a.st ≠ 0) : lst es = es.length := by
  have h1 := lst_le es
  by_cases h : lst es < es.length
  · obtain ⟨a, ha⟩ := get_lt h
    exact absurd (lst_free es a ha) (hb _ a ha)
  · omega
theorem lst_ents (x n i : Nat) (h : i < n) : lst (ents x n i) = i := by
  refine lst_eq _ i _ (ents_at x n i i h) (by simp [ent]) fun j a hj ha => ?_
  rw [ents_at x n i j (by omega)] at ha
  simp at ha
  subst ha
  simp [ent, hj]

/-- All open but entry x, which is spent. -/
def spentL (x n : Nat) : List En := (ents x n n).set x ⟨2, 1048577, 0, 0⟩
theorem spentL_len (x n : Nat) : (spentL x n).length = n := by simp [spentL, ents_len]
theorem spentL_x (x n : Nat) (h : x < n) : (spentL x n)[x]? = some ⟨2, 1048577, 0, 0⟩ := by
  unfold spentL
  rw [List.getElem?_set, if_pos rfl, if_pos (by rw [ents_len]; exact h)]
theorem spentL_j (x n j : Nat) (h : j < n) (hx : j ≠ x) : (spentL x n)[j]? = some (ent x n j) := by
  unfold spentL
  rw [List.getElem?_set, if_neg (Ne.symm hx), ents_at x n n j h]
theorem spentL_full (x n : Nat) (h : x < n) : lst (spentL x n) = (spentL x n).length := by
  refine lst_full _ fun j a ha => ?_
  have hj := (List.getElem?_eq_some_iff.1 ha).1
  rw [spentL_len] at hj
  by_cases hx : j = x
  · subst hx
    rw [spentL_x j n hj] at ha
    simp at ha; subst ha; decide
  · rw [spentL_j x n j hj hx] at ha
    simp at ha; subst ha
    simp [ent, hj]
theorem spentL_live (x n : Nat) (h : x < n) : ∀ j, j ≤ n → (live (spentL x n) j).length = if x < j then j - 1 else j
  | 0, _ => by simp [live]
  | j + 1, hj => by
    have ih := spentL_live x n h j (by omega)
    by_cases hx : j = x
    · subst hx
      rw [live_shut (spentL_x j n (by omega)) (by decide), ih]
      simp
    · rw [live_open (spentL_j x n j (by omega) hx) (by simp [ent]; omega), List.length_append, ih]
      simp only [List.length_cons, List.length_nil]
      by_cases h1 : x < j
      · rw [if_pos h1, if_pos (by omega)]; omega
      · rw [if_neg h1, if_neg (by omega)]

set_option maxRecDepth 100000 in
set_option maxHeartbeats 1000000 in
theorem spent_walk (a0 a1 : Int) (w : World) : Calls Try.prog 6 #[.int .i64 a0, .int .i64 a1] w fun e w' => e = .returned (.bool true) ∧ Below w.heap.size w w' := by
  go_enter Try.func6, Try.ntmps6
  go_wp2_with fail
  refine (works_at w).mono ?_
  rintro e w1 ⟨rfl, hb1⟩
  have HB1 := hide hb1
  clear hb1
  go_wp2_with fail
  refine (among a0 6 (by omega) (by omega) w1).mono ?_
  rintro e w2 ⟨m, hm, rfl, rfl⟩
  obtain ⟨n, hn⟩ : ∃ n, n = m + 1 := ⟨_, rfl⟩
  have hn1 : 1 ≤ n := by omega
  have hn6 : n ≤ 6 := by omega
  have hni : (1 : Int) + (m : Nat) = (n : Nat) := by omega
  clear hm hn
  go_wp2_with fail
  have HNI := hide hni
  clear hni
  refine (among a1 n (by omega) (by omega) w1).mono ?_
  rintro e w2 ⟨x, hx, rfl, rfl⟩
  go_wp2_with fail
  refine (new_good n w1 (by omega)).mono ?_
  rintro e w2 ⟨rfl, ht2, hb2⟩
  obtain ⟨g, hg⟩ : ∃ g, g = w1.heap.size := ⟨_, rfl⟩
  rw [← hg] at ht2 hb2 ⊢
  have hgw : w.heap.size ≤ g := by rw [hg]; exact HB1.out.size
  have HB2 : Hid (Below w.heap.size w w2) := HB1.out.trans (hb2.mono hgw)
  have HA : Hid (Calls Try.prog 22 #[.pointer (some ⟨g + 1, 0, none⟩), .int .i64 x, .int .i64 1048576] w2 fun e w' => e = .returned (.int .i64 0) ∧ IsTab w' (g + 1) g (ents x n 0) ∧ Kept g g w2 w') := by
    have := age_ok (g + 1) g _ x freshE 1048576 w2 ht2 (by rw [List.getElem?_replicate, if_pos hx]) rfl (by decide) (by decide)
    rw [ents_zero] at this
    exact this
  have HG := hide hg
  clear hg ht2 hb2
  go_wp2_with fail
  refine HA.out.mono ?_
  rintro e w3 ⟨rfl, ht3, hk3⟩
  have hgl3 := ht3.lt.2
  have HT3 := hide ht3
  have HB3 : Hid (Below w.heap.size w w3) := HB2.out.trans (hk3.below hgw hgw HB2.out.size)
  clear ht3 hk3 HA HB2
  go_wp2_with fail
  go_loopw [7] (fun v wr => ∃ j : Nat, j ≤ n ∧ v = .int .i64 j ∧ Hid (IsTab wr (g + 1) g (ents x n j)) ∧ Hid (Below w.heap.size w wr)) (fun v _ => n - (intOf v).toNat)
  case atStart => exact ⟨0, Nat.zero_le _, rfl, HT3, HB3⟩
  case round =>
    obtain ⟨j, hj, rfl, HT, HB⟩ := hrel
    clear HT3 HB3
    by_cases hlt : j < n
    · have HO := hide (open_ok (g + 1) g (ents x n j) j (ent x j j) j j wr HT.out (lst_ents x n j hlt) (ents_at x n j j hlt))
      rw [ents_next x n j hlt] at HO
      obtain ⟨G, hG⟩ : ∃ G : Nat, G = (ent x j j).gen := ⟨_, rfl⟩
      rw [← hG] at HO
      clear hG
      go_wp2_with fail
      refine HO.out.mono ?_
      rintro e w4 ⟨rfl, ht4, hk4⟩
      have HT4 := hide ht4
      have HB4 : Hid (Below w.heap.size w w4) := HB.out.trans (hk4.below hgw hgw HB.out.size)
      clear ht4 hk4 HO
      go_wp2_with fail
      go_roundw
      case rel => exact ⟨j + 1, by omega, by go_num, HT4.out.alloc _, HB4.out.alloc HB4.out.size _⟩
      case measure => simp [intOf]; omega
    · obtain rfl : j = n := by omega
      have HC : Hid (Calls Try.prog 12 #[.pointer (some ⟨g + 1, 0, none⟩), hnd x 1048576] wr fun e w' => e = .returned (.int .i64 0) ∧ IsTab w' (g + 1) g (spentL x j) ∧ Kept g g wr w') := by
        have hE : ent x j x = ⟨1, 1048576, x, x⟩ := by simp [ent, hx]
        have := close_ok (g + 1) g (ents x j j) x (ent x j x) wr HT.out (ents_at x j j x hx) (by rw [hE])
        rw [hE] at this
        exact this
      go_wp2_with fail
      refine HC.out.mono ?_
      rintro e w4 ⟨rfl, ht4, hk4⟩
      have hl4 := ht4.lt
      have HB4 : Hid (Below w.heap.size w w4) := HB.out.trans (hk4.below hgw hgw HB.out.size)
      have HO := hide (open_full (g + 1) g (spentL x j) 1 1 w4 ht4 (spentL_full x j hx))
      have HT4 := hide ht4
      clear ht4 hk4 HC
      go_wp2_with fail
      refine HO.out.mono ?_
      rintro e w5 ⟨rfl, hb5⟩
      have HT5 : Hid (IsTab w5 (g + 1) g (spentL x j)) := HT4.out.below hb5 hl4.1 hl4.2
      have HB5 : Hid (Below w.heap.size w w5) := HB4.out.trans (hb5.mono HB4.out.size)
      have HL : Hid (Calls Try.prog 20 #[.pointer (some ⟨g + 1, 0, none⟩), hnd x 1048576] w5 fun e w' => e = .returned (.tuple #[.int .i64 0, .int .i64 0, .int .i64 30]) ∧ Below w5.heap.size w5 w') := by
        have hc : code (spentL x j) x 1048576 = 30 := by
          unfold code
          rw [if_pos (by omega), Int.toNat_natCast, spentL_x x j hx]
          rfl
        have := lookup_bad (g + 1) g (spentL x j) x 1048576 w5 HT5.out (by rw [hc]; decide)
        rw [hc] at this
        exact this
      clear hb5 HO
      go_wp2_with fail
      refine HL.out.mono ?_
      rintro e w6 ⟨rfl, hb6⟩
      have hl5 := HT5.out.lt
      have HT6 : Hid (IsTab w6 (g + 1) g (spentL x j)) := HT5.out.below hb6 hl5.1 hl5.2
      have HB6 : Hid (Below w.heap.size w w6) := HB5.out.trans (hb6.mono HB5.out.size)
      have HU := hide (used_at (g + 1) g (spentL x j) w6 HT6.out)
      rw [spentL_len, spentL_live x j hx j (Nat.le_refl _), if_pos hx] at HU
      have hsub : ((j - 1 : Nat) : Int) = (j : Int) - 1 := by omega
      rw [hsub] at HU
      clear hb6 HL hsub
      go_wp2_with fail
      refine HU.out.mono ?_
      rintro e w7 ⟨rfl, hb7⟩
      have hl6 := HT6.out.lt
      have HT7 : Hid (IsTab w7 (g + 1) g (spentL x j)) := HT6.out.below hb7 hl6.1 hl6.2
      have HB7 : Hid (Below w.heap.size w w7) := HB6.out.trans (hb7.mono HB6.out.size)
      have HA := hide (age_held (g + 1) g (spentL x j) x ⟨2, 1048577, 0, 0⟩ 1048576 w7 HT7.out (spentL_x x j hx) (by decide))
      clear hb7 HU
      go_wp2_with fail
      refine HA.out.mono ?_
      rintro e w8 ⟨rfl, rfl⟩
      go_wp2_with fail
      go_ret
      exact ⟨rfl, HB7.out⟩

end Go.Proofs.Ythfkjephnhnpoaa
