/-
  The hand in numbers: letters put one by one, asked for, and what new entries push away; conditions as each theorem has them.
-/
import Derived.Test.YtcihkdmndpdmoaaI
set_option linter.unusedSimpArgs false
set_option linter.unusedVariables false
namespace Go.Proofs.Ytcihkdmndpdmoaa

def gen (N : Nat) (F : Nat → Sl) : List Sl := (List.range N).map F
theorem gen_length (N : Nat) (F : Nat → Sl) : (gen N F).length = N := by simp [gen]
theorem gen_get {N : Nat} {F : Nat → Sl} {i : Nat} (h : i < N) : (gen N F)[i]? = some (F i) := by simp [gen, h]
theorem gen_some {N : Nat} {F : Nat → Sl} {i : Nat} {s : Sl} (h : (gen N F)[i]? = some s) : i < N ∧ s = F i := by
  have h1 : i < N := by have := (List.getElem?_eq_some_iff.1 h).1; rwa [gen_length] at this
  rw [gen_get h1] at h
  exact ⟨h1, by simpa using h.symm⟩
theorem gen_at0 {N : Nat} {F : Nat → Sl} {i : Nat} (h : i < N) : at0 (gen N F) i = F i := at0_of (gen_get h)
theorem gen_congr {N : Nat} {F G : Nat → Sl} (h : ∀ j, j < N → F j = G j) : gen N F = gen N G := List.map_congr_left fun j hj => h j (by simpa using hj)
theorem gen_set {N : Nat} {F G : Nat → Sl} {i : Nat} {x : Sl} (hi : i < N) (hx : G i = x) (h : ∀ j, j < N → j ≠ i → F j = G j) : (gen N F).set i x = gen N G := by
  apply List.ext_getElem?
  intro j
  rw [List.getElem?_set]
  by_cases e : i = j
  · subst e
    rw [if_pos rfl, if_pos (by rw [gen_length]; exact hi), gen_get hi, hx]
  · rw [if_neg e]
    by_cases hj : j < N
    · rw [gen_get hj, gen_get hj, h j hj (fun e' => e e'.symm)]
    · rw [List.getElem?_eq_none (by rw [gen_length]; omega), List.getElem?_eq_none (by rw [gen_length]; omega)]

/-- The letters, and the names of what comes new. -/
def ltr (i : Nat) : ByteArray := strN [97 + i]
def nwN (i : Nat) : List Nat := [110, 101, 119] ++ (if i < 10 then [48 + i] else [48 + i / 10, 48 + i % 10])
def nw (i : Nat) : ByteArray := strN (nwN i)
theorem ltr_size (i : Nat) : (ltr i).size = 1 := by unfold ltr; rw [strN_size]; rfl
theorem nw_size (i : Nat) : 4 ≤ (nw i).size ∧ (nw i).size ≤ 5 := by unfold nw nwN; rw [strN_size]; split <;> simp
theorem strN_inj {a b : List Nat} (ha : ∀ x ∈ a, x < 256) (hb : ∀ x ∈ b, x < 256) (h : strN a = strN b) : a = b := by
  rw [← byt_strN a ha, h, byt_strN b hb]
theorem ltr_inj {i j : Nat} (hi : i < 25) (hj : j < 25) (h : ltr i = ltr j) : i = j := by
  have := strN_inj (a := [97 + i]) (b := [97 + j]) (by simp; omega) (by simp; omega) h
  simp at this
  omega
theorem nwN_lt {i : Nat} (hi : i < 25) : ∀ x ∈ nwN i, x < 256 := by
  unfold nwN
  split <;> simp <;> omega
theorem nw_inj {i j : Nat} (hi : i < 25) (hj : j < 25) (h : nw i = nw j) : i = j := by
  have := strN_inj (nwN_lt hi) (nwN_lt hj) h
  unfold nwN at this
  split at this <;> split at this <;> simp at this <;> omega
theorem ltr_nw (i j : Nat) : ltr i ≠ nw j := fun e => by
  have h1 := ltr_size i
  have h2 := nw_size j
  rw [e] at h1
  omega
theorem ltr_ne (i : Nat) : ltr i ≠ noN := ne_noN (by rw [ltr_size]; omega)
theorem nw_ne (i : Nat) : nw i ≠ noN := ne_noN (by have := nw_size i; omega)

/-- How many of the first k were not asked for. -/
def cq (q : Nat → Bool) : Nat → Nat
  | 0 => 0
  | k + 1 => cq q k + if q k then 0 else 1
theorem cq_le (q : Nat → Bool) : ∀ k, cq q k ≤ k
  | 0 => Nat.le_refl _
  | k + 1 => by have := cq_le q k; unfold cq; split <;> omega
theorem cq_mono (q : Nat → Bool) {a b : Nat} (h : a ≤ b) : cq q a ≤ cq q b := by
  induction h with
  | refl => exact Nat.le_refl _
  | step _ ih => exact Nat.le_trans ih (by show _ ≤ cq q _ + _; omega)

/-- The letters up to i are there. -/
def P1 (i j : Nat) : Sl := if j < i then ⟨ltr j, noN, 0, 99, false⟩ else zeroS
/-- Those that were asked for up to i. -/
def P2 (q : Nat → Bool) (i j : Nat) : Sl := ⟨ltr j, noN, 0, 99, decide (j < i) && q j⟩
/-- The hand has come to h. -/
def P3 (q : Nat → Bool) (h j : Nat) : Sl := if j < h then (if q j then ⟨ltr j, noN, 0, 99, false⟩ else ⟨nw (cq q j), noN, 1, 99, false⟩) else ⟨ltr j, noN, 0, 99, q j⟩

theorem p1_start (N : Nat) : List.replicate N zeroS = gen N (P1 0) := by
  apply List.ext_getElem?
  intro j
  by_cases hj : j < N
  · rw [gen_get hj]; simp [hj, P1]
  · rw [List.getElem?_eq_none (by simp; omega), List.getElem?_eq_none (by rw [gen_length]; omega)]
theorem p1_put {N i : Nat} (hN : N ≤ 25) (hi : i < N) : code 1 (gen N (P1 i)) 0 (ltr i) 0 99 = 0 ∧ put 1 (gen N (P1 i)) 0 0 (ltr i) (strN []) 99 = (gen N (P1 (i + 1)), 0) := by
  have hc : code 1 (gen N (P1 i)) 0 (ltr i) 0 99 = 0 := code_of (by unfold badPut badNow badKey badAge; rw [ltr_size]; omega) (by omega) (by rw [gen_length]; omega)
  refine ⟨hc, ?_⟩
  have hf : fidx (ltr i) (gen N (P1 i)) = N := by
    rw [fidx_none (key := ltr i) (L := gen N (P1 i)) ?_, gen_length]
    intro k x hx
    obtain ⟨hk, rfl⟩ := gen_some hx
    unfold P1
    split
    · rename_i h
      exact fun e => by have := ltr_inj (by omega) (by omega) e; omega
    · exact fun e => ltr_ne i e.symm
  have hz : fidx noN (gen N (P1 i)) = i := by
    refine fidx_eq (gen_get hi) (by simp [P1]; rfl) ?_
    intro k x hk hx
    obtain ⟨_, rfl⟩ := gen_some hx
    unfold P1
    rw [if_pos hk]
    exact ltr_ne k
  rw [put_good (by rw [show (strN []).size = 0 from rfl]; exact hc)]
  unfold putS place
  rw [hf, hz, gen_length, if_neg (Nat.lt_irrefl _), if_pos hi]
  refine Prod.ext ?_ rfl
  refine gen_set hi (by simp [P1]; rfl) ?_
  intro j _ hj
  have hj' : j ≠ i := hj
  unfold P1
  by_cases h : j < i
  · rw [if_pos h, if_pos (show j < i + 1 by omega)]
  · rw [if_neg h, if_neg (show ¬ j < i + 1 by omega)]
theorem p2_start (q : Nat → Bool) (N : Nat) : gen N (P1 N) = gen N (P2 q 0) := gen_congr fun j hj => by simp [P1, P2, hj]
theorem p2_get {q : Nat → Bool} {N i : Nat} (hN : N ≤ 25) (hi : i < N) (hq : q i = true) : getL (gen N (P2 q i)) 1 (ltr i) = gen N (P2 q (i + 1)) := by
  have hf : fidx (ltr i) (gen N (P2 q i)) = i := by
    refine fidx_eq (gen_get hi) rfl ?_
    intro k x hk hx
    obtain ⟨_, rfl⟩ := gen_some hx
    exact fun e => by have := ltr_inj (i := k) (j := i) (by omega) (by omega) e; omega
  have hg : got (gen N (P2 q i)) 1 (ltr i) = some (P2 q i i) := got_of (by unfold badNow badKey; rw [ltr_size]; omega) (by rw [hf]; exact gen_get hi) (by rfl)
  rw [(get_some hg).2.2.2, hf]
  refine gen_set hi (by simp [P2, hq]) ?_
  intro j _ hj
  unfold P2
  have : decide (j < i) = decide (j < i + 1) := by simp; omega
  rw [this]
theorem p2_skip {q : Nat → Bool} {N i : Nat} (hq : q i = false) : gen N (P2 q i) = gen N (P2 q (i + 1)) := gen_congr fun j _ => by
  unfold P2
  by_cases h : j = i
  · subst h; simp [hq]
  · have : decide (j < i) = decide (j < i + 1) := by simp; omega
    rw [this]
theorem p3_start (q : Nat → Bool) (N : Nat) : gen N (P2 q N) = gen N (P3 q 0) := gen_congr fun j hj => by simp [P2, P3, hj]
theorem p3_key (q : Nat → Bool) (h j : Nat) : (P3 q h j).key = if j < h ∧ q j = false then nw (cq q j) else ltr j := by
  unfold P3
  by_cases h1 : j < h
  · cases hq : q j <;> simp [h1]
  · simp [h1]
/-- The hand goes on to the first one that was not asked for. -/
theorem p3_spin {q : Nat → Bool} {N : Nat} : ∀ (d h : Nat), N - h = d → h < N → cq q h < cq q N → ∃ j, h ≤ j ∧ j < N ∧ q j = false ∧ cq q j = cq q h ∧ spin 1 (cntA (gen N (P3 q h))) (gen N (P3 q h)) h = (gen N (P3 q j), j)
  | 0, h, hd, hh, hc => by omega
  | d + 1, h, hd, hh, hc => by
    have ha : at0 (gen N (P3 q h)) h = ⟨ltr h, noN, 0, 99, q h⟩ := by rw [gen_at0 hh]; simp [P3]
    cases hq : q h with
    | false =>
      refine ⟨h, Nat.le_refl _, hh, hq, rfl, spin_stop ?_ _⟩
      rw [ha, hq]; rfl
    | true =>
      have hst : stays (at0 (gen N (P3 q h)) h) 1 = true := by rw [ha, hq]; rfl
      have e1 : cq q (h + 1) = cq q h := by simp [cq, hq]
      have hlt : h + 1 < N := by
        rcases Nat.lt_or_ge (h + 1) N with h1 | h1
        · exact h1
        · have : N = h + 1 := by omega
          rw [this, e1] at hc
          omega
      have hcal : calmed (gen N (P3 q h)) h = gen N (P3 q (h + 1)) := by
        unfold calmed
        refine gen_set hh (by rw [ha]; simp [P3, hq]) ?_
        intro j _ hj
        unfold P3
        by_cases h1 : j < h
        · rw [if_pos h1, if_pos (show j < h + 1 by omega)]
        · rw [if_neg h1, if_neg (show ¬ j < h + 1 by omega)]
      rw [spin_step (by rw [gen_length]; exact hh) hst, hcal, gen_length, Nat.mod_eq_of_lt hlt]
      obtain ⟨j, j1, j2, j3, j4, j5⟩ := p3_spin (q := q) (N := N) d (h + 1) (by omega) hlt (by omega)
      exact ⟨j, by omega, j2, j3, by omega, j5⟩
theorem p3_put {q : Nat → Bool} {N h m : Nat} (hN : N ≤ 25) (hh : h ≤ N) (hm : cq q h = m) (hc : m < cq q N) : code 1 (gen N (P3 q h)) 1 (nw m) 0 99 = 0 ∧
    ∃ h', h' ≤ N ∧ cq q h' = m + 1 ∧ put 1 (gen N (P3 q h)) (h % N) 1 (nw m) (strN []) 99 = (gen N (P3 q h'), h' % N) := by
  have hhN : h < N := by
    rcases Nat.lt_or_ge h N with h1 | h1
    · exact h1
    · have : h = N := by omega
      subst this
      omega
  have hm25 : m < 25 := by have := cq_le q N; omega
  have hcd : code 1 (gen N (P3 q h)) 1 (nw m) 0 99 = 0 := code_of (by have := nw_size m; unfold badPut badNow badKey badAge; omega) (by omega) (by rw [gen_length]; omega)
  refine ⟨hcd, ?_⟩
  have hf : fidx (nw m) (gen N (P3 q h)) = N := by
    rw [fidx_none (key := nw m) (L := gen N (P3 q h)) ?_, gen_length]
    intro k x hx
    obtain ⟨hk, rfl⟩ := gen_some hx
    rw [p3_key]
    split
    · rename_i h1
      intro e
      have h2 := cq_mono q (show k + 1 ≤ h by omega)
      have h3 : cq q (k + 1) = cq q k + 1 := by simp [cq, h1.2]
      have := nw_inj (by omega) hm25 e
      omega
    · exact ltr_nw k m
  have hz : fidx noN (gen N (P3 q h)) = N := by
    rw [fidx_none (key := noN) (L := gen N (P3 q h)) ?_, gen_length]
    intro k x hx
    obtain ⟨hk, rfl⟩ := gen_some hx
    rw [p3_key]
    split
    · exact nw_ne _
    · exact ltr_ne _
  obtain ⟨j, j1, j2, j3, j4, j5⟩ := p3_spin (q := q) (N := N) _ h rfl hhN (by omega)
  refine ⟨j + 1, by omega, by simp [cq, j3]; omega, ?_⟩
  rw [put_good (by rw [show (strN []).size = 0 from rfl]; exact hcd)]
  unfold putS place
  rw [hf, hz, gen_length, if_neg (Nat.lt_irrefl _), if_neg (Nat.lt_irrefl _), Nat.mod_eq_of_lt hhN, j5]
  refine Prod.ext ?_ rfl
  refine gen_set j2 ?_ ?_
  · simp [P3, j3]
    exact ⟨by rw [j4, hm], rfl⟩
  · intro k _ hk
    have hk' : k ≠ j := hk
    unfold P3
    by_cases h1 : k < j
    · rw [if_pos h1, if_pos (show k < j + 1 by omega)]
    · rw [if_neg h1, if_neg (show ¬ k < j + 1 by omega)]
/-- How many of the first k letters are gone. -/
def gon (q : Nat → Bool) (h : Nat) : Nat → Nat
  | 0 => 0
  | k + 1 => gon q h k + if k < h ∧ q k = false then 1 else 0
theorem gon_cq (q : Nat → Bool) (h : Nat) : ∀ k, gon q h k = cq q (min k h)
  | 0 => by simp [gon, cq]
  | k + 1 => by
    unfold gon
    rw [gon_cq q h k]
    by_cases h1 : k < h
    · rw [Nat.min_eq_left (show k ≤ h by omega), Nat.min_eq_left (show k + 1 ≤ h by omega)]
      show cq q k + _ = cq q k + _
      cases hq : q k <;> simp [h1]
    · rw [Nat.min_eq_right (show h ≤ k by omega), Nat.min_eq_right (show h ≤ k + 1 by omega), if_neg (by omega)]
      rfl
theorem gon_all {q : Nat → Bool} {h N : Nat} (hh : h ≤ N) : gon q h N = cq q h := by rw [gon_cq, Nat.min_eq_right hh]
theorem gen_full {N : Nat} {F : Nat → Sl} (h : ∀ j, j < N → (F j).key ≠ noN) : used (gen N F) = N := by
  have g : ∀ k, k ≤ N → cnt (gen N F) k = k := by
    intro k
    induction k with
    | zero => intro _; rfl
    | succ k ih =>
      intro hk
      unfold cnt
      rw [ih (by omega), gen_at0 (by omega), if_neg (fun e => h k (by omega) (noN_of e))]
  unfold used
  rw [gen_length]
  exact g N (Nat.le_refl _)
theorem p3_full (q : Nat → Bool) (h N : Nat) : used (gen N (P3 q h)) = N := gen_full fun j _ => by
  rw [p3_key]
  split
  · exact nw_ne _
  · exact ltr_ne _
theorem gen_nms {N : Nat} {F : Nat → Sl} {j : Nat} (h : j < N) : (nms (gen N F))[j]? = some (F j).key := nms_get (gen_get h)
end Go.Proofs.Ytcihkdmndpdmoaa
