/-
  Hosts in numbers: what is printed of a destination is read as it was, and what is read of a text is printed in small letters; no program.
-/
import Derived.Test.YtccoddmdlbdfjaaGreatDoorPA
set_option linter.unusedSimpArgs false
set_option linter.unusedVariables false
namespace Go.Proofs.YtccoddmdlbdfjaaGreatDoor

theorem dec_ne (n : Nat) : dec n ≠ [] := by
  by_cases h : n < 10
  · rw [dec_small h]; simp
  · rw [dec_big h]; simp
theorem dec_all (n : Nat) : ∀ x ∈ dec n, 48 ≤ x ∧ x ≤ 57 := by
  induction n using Nat.strongRecOn with
  | ind n ih =>
    by_cases h : n < 10
    · rw [dec_small h]; intro x hx; simp at hx; omega
    · rw [dec_big h]
      intro x hx
      rcases List.mem_append.1 hx with hx | hx
      · exact ih (n / 10) (by omega) x hx
      · simp at hx; omega
theorem val_dec (n : Nat) : val 0 (dec n) = n := by
  induction n using Nat.strongRecOn with
  | ind n ih =>
    by_cases h : n < 10
    · rw [dec_small h, val_cons, val_nil]; unfold step; omega
    · rw [dec_big h, val_append, ih (n / 10) (by omega), val_cons, val_nil]; unfold step; omega
theorem headD_app {l m : List Nat} (h : l ≠ []) : (l ++ m).headD 0 = l.headD 0 := by
  cases l with
  | nil => exact absurd rfl h
  | cons c r => rfl
theorem dec_head (n : Nat) (h1 : 1 ≤ n) : (dec n).headD 0 ≠ 48 := by
  induction n using Nat.strongRecOn with
  | ind n ih =>
    by_cases h : n < 10
    · rw [dec_small h]; simp; omega
    · rw [dec_big h, headD_app (dec_ne _)]; exact ih (n / 10) (by omega) (by omega)
theorem isNum_dec (n : Nat) : isNum (dec n) = true := by
  have ha : (dec n).all dig = true := by rw [List.all_eq_true]; intro x hx; exact (dig_iff x).2 (dec_all n x hx)
  have hn := dec_ne n
  have h3 : (!(decide (1 < (dec n).length) && decide ((dec n).headD 0 = 48))) = true := by
    by_cases h : n < 10
    · rw [dec_small h]; simp
    · have := dec_head n (by omega)
      rw [decide_eq_false this, Bool.and_false]; rfl
  unfold isNum
  rw [ha, h3]
  simp [hn]
theorem rd_dec {n m : Nat} (h : n ≤ m) : rd (dec n) m = some n := by
  unfold rd
  rw [val_dec, if_pos ⟨isNum_dec n, h⟩]
theorem num_parts {l : List Nat} : isNum l = true ↔ l ≠ [] ∧ (∀ x ∈ l, 48 ≤ x ∧ x ≤ 57) ∧ (1 < l.length → l.headD 0 ≠ 48) := by
  unfold isNum
  simp only [Bool.and_eq_true, decide_eq_true_eq, List.all_eq_true, dig_iff, Bool.not_eq_true', Bool.and_eq_false_iff, decide_eq_false_iff_not]
  constructor
  · rintro ⟨⟨h1, h2⟩, h3⟩
    exact ⟨h1, h2, fun h => h3.resolve_left (fun g => g h)⟩
  · rintro ⟨h1, h2, h3⟩
    refine ⟨⟨h1, h2⟩, ?_⟩
    by_cases h : 1 < l.length
    · exact Or.inr (h3 h)
    · exact Or.inl h
theorem dec_val : ∀ (k : Nat) (l : List Nat), l.length = k → isNum l = true → dec (val 0 l) = l
  | 0, l, hl, h => by
    obtain rfl := List.length_eq_zero_iff.1 hl
    exact absurd rfl (num_parts.1 h).1
  | k + 1, l, hl, h => by
    obtain ⟨hn, ha, hz⟩ := num_parts.1 h
    obtain ⟨r, c, rfl⟩ : ∃ r c, l = r ++ [c] := ⟨l.dropLast, l.getLast hn, (List.dropLast_concat_getLast hn).symm⟩
    have hc := ha c (by simp)
    rw [val_append, val_cons, val_nil]
    by_cases hr : r = []
    · subst hr
      rw [val_nil, dec_small (by unfold step; omega)]
      simp [step]; omega
    · have hrl : 0 < r.length := List.length_pos_iff.2 hr
      have hlong := num_long h (k := 0) (by simp; omega)
      rw [val_append, val_cons, val_nil] at hlong
      have hrn : isNum r = true := by
        refine num_parts.2 ⟨hr, fun x hx => ha x (by simp [hx]), fun hl2 => ?_⟩
        have := hz (by simp; omega)
        rwa [headD_app hr] at this
      have ih := dec_val k r (by simp at hl; exact hl) hrn
      unfold step at hlong ⊢
      rw [dec_big (by omega), show (val 0 r * 10 + (c - 48)) / 10 = val 0 r by omega, ih]
      congr 2
      omega
theorem dec_rd {l : List Nat} {m n : Nat} (h : rd l m = some n) : dec n = l ∧ n ≤ m := by
  unfold rd at h
  split at h
  · rename_i hh
    obtain rfl := Option.some.inj h
    exact ⟨dec_val _ l rfl hh.1, hh.2⟩
  · cases h
theorem dec_no (n : Nat) {x : Nat} (h : x < 48 ∨ 57 < x) : x ∉ dec n := fun hx => by have := dec_all n x hx; omega

theorem adt_jn (a : Ad) : adt a = jn [dec a.1, dec a.2.1, dec a.2.2.1, dec a.2.2.2] := by
  simp [adt, adk, jn, List.append_assoc]
theorem addr_adt (a : Ad) (ha : a.ok) : addr (adt a) = ([a.1, a.2.1, a.2.2.1, a.2.2.2], .ok) := by
  obtain ⟨a0, a1, a2, a3⟩ := a
  obtain ⟨l0, l1, l2, l3⟩ := ha
  simp only [] at l0 l1 l2 l3
  have hlen := adk_len a0 a1 a2 a3 l0 l1 l2 l3 3
  have hp : pcs (adt (a0, a1, a2, a3)) = [dec a0, dec a1, dec a2, dec a3] := by
    rw [adt_jn, pcs_jn _ (by simp)]
    intro p hp
    simp at hp
    rcases hp with rfl | rfl | rfl | rfl <;> exact dec_no _ (by omega)
  have ho : octs 0 0 [dec a0, dec a1, dec a2, dec a3] [] = ([a0, a1, a2, a3], .ok) := by
    rw [octs, if_neg (by omega), rd_dec (by omega : a0 ≤ 255)]
    show octs 1 _ _ _ = _
    rw [octs, if_neg (by omega), rd_dec (by omega : a1 ≤ 255)]
    show octs 2 _ _ _ = _
    rw [octs, if_neg (by omega), rd_dec (by omega : a2 ≤ 255)]
    show octs 3 _ _ _ = _
    rw [octs, if_neg (by omega), rd_dec (by omega : a3 ≤ 255)]
    rfl
  unfold addr
  rw [if_neg (by unfold adt; simp only []; omega), hp, ho]
  simp
theorem adt_mem (a : Ad) : ∀ x ∈ adt a, x = 46 ∨ (48 ≤ x ∧ x ≤ 57) := by
  intro x hx
  simp only [adt, adk, List.mem_append, List.mem_cons] at hx
  rcases hx with ((hx | hx | hx) | hx | hx) | hx | hx
  all_goals first | exact Or.inl hx | exact Or.inr (dec_all _ x hx)
theorem looks_of {l : List Nat} (h : ∀ x ∈ l, x = 46 ∨ (48 ≤ x ∧ x ≤ 57)) : looks l = true := by
  unfold looks
  rw [List.all_eq_true]
  intro x hx
  simp only [Bool.or_eq_true, decide_eq_true_eq, dig_iff]
  exact h x hx
theorem of_looks {l : List Nat} (h : looks l = true) : ∀ x ∈ l, x = 46 ∨ (48 ≤ x ∧ x ≤ 57) := by
  intro x hx
  have := List.all_eq_true.1 h x hx
  simpa only [Bool.or_eq_true, decide_eq_true_eq, dig_iff] using this
theorem adt_ne (a : Ad) : adt a ≠ [] := by simp [adt, adk]
theorem pcs_mem : ∀ (l : List Nat), ∀ p ∈ pcs l, ∀ x ∈ p, x ∈ l
  | [], p, hp, x, hx => by simp [pcs] at hp; subst hp; exact hx
  | c :: r, p, hp, x, hx => by
    unfold pcs at hp
    split at hp
    · rcases List.mem_cons.1 hp with rfl | hp
      · cases hx
      · exact List.mem_cons_of_mem _ (pcs_mem r p hp x hx)
    · cases hr : pcs r with
      | nil => exact absurd hr (pcs_ne r)
      | cons q qs =>
        rw [hr] at hp
        have ih := pcs_mem r
        rw [hr] at ih
        rcases List.mem_cons.1 hp with rfl | hp
        · rcases List.mem_cons.1 hx with rfl | hx
          · simp
          · exact List.mem_cons_of_mem _ (ih q (by simp) x hx)
        · exact List.mem_cons_of_mem _ (ih p (List.mem_cons_of_mem _ hp) x hx)
theorem getLastD_mem {ps : List (List Nat)} (h : ps ≠ []) : ps.getLastD [] ∈ ps := by
  rw [List.getLastD_eq_getLast?, List.getLast?_eq_some_getLast h]
  exact List.getLast_mem h
theorem name_ok {l q : List Nat} (h : name l = (q, .ok)) : l.length ≤ 253 ∧ labs 0 (pcs l) = none ∧ ¬ ((pcs l).getLastD []).all dig = true ∧ q = low l := by
  unfold name at h
  split at h
  · cases h
  · rename_i hl
    split at h
    · cases h
    · rename_i hlab
      split at h
      · cases h
      · rename_i hd
        injection h with h1 h2
        exact ⟨by omega, hlab, hd, h1.symm⟩
theorem name_not {l q : List Nat} (h : name l = (q, .ok)) : looks l = false := by
  obtain ⟨_, _, hd, _⟩ := name_ok h
  rw [Bool.eq_false_iff]
  intro hk
  apply hd
  have hm := getLastD_mem (pcs_ne l)
  rw [List.all_eq_true]
  intro x hx
  rcases of_looks hk x (pcs_mem l _ hm x hx) with rfl | hx'
  · exact absurd hx (pcs_no l _ hm)
  · exact (dig_iff x).2 hx'
theorem host_hot (a : Ad) (n : List Nat) (ha : a.ok) (hc : chk a n = true) : host (hot a n) = (([a.1, a.2.1, a.2.2.1, a.2.2.2], n), .ok) := by
  unfold hot
  rw [if_pos hc]
  by_cases h0 : n = []
  · subst h0
    rw [if_pos rfl]
    unfold host
    rw [if_neg (adt_ne a), if_pos (looks_of (adt_mem a)), addr_adt a ha]
  · rw [if_neg h0]
    simp only [chk, h0, decide_false, Bool.false_or, Bool.and_eq_true, decide_eq_true_eq] at hc
    obtain ⟨hn, rfl⟩ := hc
    unfold host
    rw [if_neg h0, if_neg (by rw [name_not hn]; simp), hn]
theorem colon_no : ∀ (l : List Nat) (i : Nat), 58 ∉ l → colon i l = none
  | [], i, _ => rfl
  | c :: r, i, h => by
    simp at h
    unfold colon
    rw [colon_no r (i + 1) h.2]
    simp; exact fun e => h.1 e.symm
theorem colon_app : ∀ (h r : List Nat) (i : Nat), 58 ∉ r → colon i (h ++ 58 :: r) = some (i + h.length)
  | [], r, i, hr => by
    show colon i (58 :: r) = _
    unfold colon
    rw [colon_no r _ hr]
    simp
  | c :: h, r, i, hr => by
    show colon i (c :: (h ++ 58 :: r)) = _
    unfold colon
    rw [colon_app h r (i + 1) hr]
    simp; omega
/-- What is printed is read as it was. -/
theorem dest_det (a : Ad) (n : List Nat) (p : Int) (ha : a.ok) (hc : chk a n = true) (h1 : 1 ≤ p) (h2 : p ≤ 65535) : dest (det a n p) = ((([a.1, a.2.1, a.2.2.1, a.2.2.2], n), p.toNat), .ok) := by
  have hl := hot_len a n ha
  have hd := dec_len (n := p.toNat) (by omega)
  have hk : det a n p = hot a n ++ 58 :: dec p.toNat := by unfold det; rw [if_pos ⟨hc, h1, h2⟩]
  have hp : port (dec p.toNat) = (p.toNat, .ok) := by
    unfold port
    rw [rd_dec (by omega)]
    show (if p.toNat = 0 then _ else _) = _
    rw [if_neg (by omega)]
  rw [hk]
  unfold dest
  rw [if_neg (by simp; omega), colon_app _ _ _ (dec_no _ (by omega))]
  simp only [Nat.zero_add]
  rw [List.take_left' rfl, host_hot a n ha hc]
  simp only []
  rw [show List.drop ((hot a n).length + 1) (hot a n ++ 58 :: dec p.toNat) = dec p.toNat by rw [← List.drop_drop, List.drop_left' rfl]; rfl, hp]
theorem det_ne {a : Ad} {n : List Nat} {p : Int} (h : det a n p ≠ []) : chk a n = true ∧ 1 ≤ p ∧ p ≤ 65535 := by
  unfold det at h
  split at h
  · assumption
  · exact absurd rfl h

theorem lo_same {c : Nat} (h : c < 65 ∨ 90 < c) : lo c = c := by unfold lo; rw [if_neg (by omega)]
theorem bLowSame {l : List Nat} (h : ∀ x ∈ l, x < 65 ∨ 90 < x) : low l = l := by
  unfold low
  conv => rhs; rw [← List.map_id l]
  exact List.map_congr_left fun x hx => lo_same (h x hx)
theorem low_low (l : List Nat) : low (low l) = low l := by
  apply bLowSame
  intro x hx
  simp only [low, List.mem_map] at hx
  obtain ⟨c, _, rfl⟩ := hx
  unfold lo
  split <;> omega
theorem bDigLo (c : Nat) : dig (lo c) = dig c := by
  rw [Bool.eq_iff_iff, dig_iff, dig_iff]
  unfold lo
  split <;> omega
theorem lb_lo {c : Nat} (h : lb c = true) : lb (lo c) = true := by
  simp only [lb, Bool.or_eq_true, Bool.and_eq_true, decide_eq_true_eq, dig_iff] at h ⊢
  unfold lo
  split <;> omega
theorem bLo45 (c : Nat) : lo c = 45 ↔ c = 45 := by unfold lo; split <;> omega
theorem bLabLow {p : List Nat} (h : isLab p) : isLab (low p) := by
  obtain ⟨h1, h2, h3⟩ := h
  refine ⟨by rw [low_length]; exact h1, by rw [low_length]; exact h2, fun i hi => ?_⟩
  rw [low_length] at hi ⊢
  have := h3 i hi
  have e : (low p).getD i 0 = lo (p.getD i 0) := by simp [low, List.getD, List.getElem?_map, List.getElem?_eq_getElem hi]
  rw [e]
  simp only [lbAt, Bool.and_eq_true] at this ⊢
  refine ⟨lb_lo this.1, ?_⟩
  rw [show decide (lo (p.getD i 0) = 45) = decide (p.getD i 0 = 45) from decide_eq_decide.2 (bLo45 _)]
  exact this.2
theorem bLabsNone : ∀ (ps : List (List Nat)) (a : Nat), labs a ps = none ↔ ∀ p ∈ ps, isLab p
  | [], a => by simp [labs]
  | p :: ps, a => by
    unfold labs
    split
    · rename_i h
      rw [bLabsNone ps]
      simp [(labB_iff p).1 h]
    · rename_i h
      simp
      intro hp
      exact absurd ((labB_iff p).2 hp) h
theorem getLastD_map (f : List Nat → List Nat) (hf : f [] = []) : ∀ (ps : List (List Nat)), (ps.map f).getLastD [] = f (ps.getLastD [])
  | [] => by simp [hf]
  | p :: ps => by
    rw [List.getLastD_eq_getLast?, List.getLastD_eq_getLast?, List.getLast?_map]
    cases h : (p :: ps).getLast? with
    | none => simp [hf]
    | some x => simp
/-- The small letters of a name are a name, and that one. -/
theorem name_low {l q : List Nat} (h : name l = (q, .ok)) : name (low l) = (low l, .ok) := by
  obtain ⟨h1, h2, h3, rfl⟩ := name_ok h
  have g2 : labs 0 (pcs (low l)) = none := by
    rw [bLabsNone, pcs_low]
    intro p hp
    obtain ⟨r, hr, rfl⟩ := List.mem_map.1 hp
    exact bLabLow ((bLabsNone _ _).1 h2 r hr)
  have g3 : ¬ ((pcs (low l)).getLastD []).all dig = true := by
    rw [pcs_low, getLastD_map low rfl]
    intro hk
    apply h3
    rw [List.all_eq_true] at hk ⊢
    intro x hx
    rw [← bDigLo]
    exact hk (lo x) (List.mem_map_of_mem hx)
  unfold name
  rw [if_neg (by rw [low_length]; omega), g2]
  simp only []
  rw [if_neg g3, low_low]
theorem octs_ok : ∀ (ps : List (List Nat)) (i a : Nat) (acc xs : List Nat), octs i a ps acc = (xs, .ok) → ∃ ns : List Nat, xs = acc ++ ns ∧ ps = ns.map dec ∧ ∀ x ∈ ns, x ≤ 255
  | [], i, a, acc, xs, h => by
    injection h with h1 h2
    exact ⟨[], by simp [h1], rfl, by simp⟩
  | p :: ps, i, a, acc, xs, h => by
    unfold octs at h
    split at h
    · cases h
    · cases hr : rd p 255 with
      | none => rw [hr] at h; cases h
      | some n =>
        rw [hr] at h
        obtain ⟨ns, e1, e2, e3⟩ := octs_ok ps _ _ _ _ h
        obtain ⟨d1, d2⟩ := dec_rd hr
        refine ⟨n :: ns, by simp [e1], by simp [d1, e2], fun x hx => ?_⟩
        rcases List.mem_cons.1 hx with rfl | hx
        · exact d2
        · exact e3 x hx
theorem addr_back {l : List Nat} {x0 x1 x2 x3 : Nat} (h : addr l = ([x0, x1, x2, x3], .ok)) : adt (x0, x1, x2, x3) = l ∧ Ad.ok (x0, x1, x2, x3) := by
  unfold addr at h
  split at h
  · cases h
  · split at h
    · cases h
    · obtain ⟨ns, e1, e2, e3⟩ := octs_ok _ _ _ _ _ h
      simp at e1
      subst e1
      refine ⟨?_, ?_⟩
      · rw [adt_jn, ← jn_pcs l, e2]; rfl
      · have := e3 x0 (by simp); have := e3 x1 (by simp); have := e3 x2 (by simp); have := e3 x3 (by simp)
        refine ⟨?_, ?_, ?_, ?_⟩ <;> simp only [] <;> omega
theorem host_back {l n : List Nat} {x0 x1 x2 x3 : Nat} (h : host l = (([x0, x1, x2, x3], n), .ok)) : chk (x0, x1, x2, x3) n = true ∧ hot (x0, x1, x2, x3) n = low l ∧ Ad.ok (x0, x1, x2, x3) := by
  unfold host at h
  split at h
  · cases h
  · rename_i h0
    split at h
    · rename_i hk
      obtain ⟨xs, er, ha⟩ : ∃ xs er, addr l = (xs, er) := ⟨_, _, rfl⟩
      rw [ha] at h
      simp only [Prod.mk.injEq] at h
      obtain ⟨⟨rfl, rfl⟩, rfl⟩ := h
      obtain ⟨e, ok⟩ := addr_back ha
      have hc : chk (x0, x1, x2, x3) [] = true := by simp [chk]
      refine ⟨hc, ?_, ok⟩
      unfold hot
      rw [if_pos hc, if_pos rfl, e, bLowSame]
      intro x hx
      have := of_looks hk x hx
      omega
    · rename_i hk
      obtain ⟨xs, er, ha⟩ : ∃ xs er, name l = (xs, er) := ⟨_, _, rfl⟩
      rw [ha] at h
      simp only [Prod.mk.injEq, List.cons.injEq, and_true] at h
      obtain ⟨⟨⟨rfl, rfl, rfl, rfl⟩, rfl⟩, rfl⟩ := h
      obtain ⟨_, _, _, rfl⟩ := name_ok ha
      have hn := name_low ha
      have hne : low l ≠ [] := by
        intro e
        apply h0
        have := low_length l
        rw [e] at this
        exact List.length_eq_zero_iff.1 this.symm
      have hc : chk (0, 0, 0, 0) (low l) = true := by simp [chk, hn]
      refine ⟨hc, ?_, ⟨by simp, by simp, by simp, by simp⟩⟩
      unfold hot
      rw [if_pos hc, if_neg hne]
theorem port_back {l : List Nat} {p : Nat} (h : port l = (p, .ok)) : dec p = l ∧ 1 ≤ p ∧ p ≤ 65535 := by
  unfold port at h
  cases hr : rd l 65535 with
  | none => rw [hr] at h; cases h
  | some n =>
    rw [hr] at h
    simp only [] at h
    obtain ⟨e1, e2⟩ := dec_rd hr
    split at h
    · cases h
    · injection h with h1 h2
      subst h1
      exact ⟨e1, by omega, e2⟩
theorem cut_at {l : List Nat} {c : Nat} (h : colon 0 l = some c) : l = l.take c ++ 58 :: l.drop (c + 1) := by
  rcases colon_spec l 0 with ⟨g, _⟩ | ⟨j, g, hj, hcj, _⟩
  · rw [g] at h; cases h
  · rw [g] at h
    obtain rfl : j = c := by simpa using h
    have e : l[j] = 58 := by simpa [List.getD, List.getElem?_eq_getElem hj] using hcj
    conv => lhs; rw [← List.take_append_drop j l, List.drop_eq_getElem_cons hj, e]
/-- What is read of a text is told in one form. -/
theorem dest_back {l n : List Nat} {x0 x1 x2 x3 p : Nat} (h : dest l = ((([x0, x1, x2, x3], n), p), .ok)) :
    chk (x0, x1, x2, x3) n = true ∧ 1 ≤ p ∧ p ≤ 65535 ∧ Ad.ok (x0, x1, x2, x3) ∧ det (x0, x1, x2, x3) n (p : Int) = low l := by
  unfold dest at h
  split at h
  · cases h
  · cases hc : colon 0 l with
    | none => rw [hc] at h; cases h
    | some c =>
      rw [hc] at h
      simp only [] at h
      obtain ⟨H, er, hh⟩ : ∃ H er, host (l.take c) = (H, er) := ⟨_, _, rfl⟩
      obtain ⟨q, ep, hp⟩ : ∃ q ep, port (l.drop (c + 1)) = (q, ep) := ⟨_, _, rfl⟩
      rw [hh, hp] at h
      cases er with
      | one a b => cases h
      | two a b d => cases h
      | ok =>
        cases ep with
        | one a b => cases h
        | two a b d => cases h
        | ok =>
          simp only [Prod.mk.injEq] at h
          obtain ⟨⟨rfl, rfl⟩, _⟩ := h
          obtain ⟨k1, k2, k3⟩ := host_back hh
          obtain ⟨p1, p2, p3⟩ := port_back hp
          refine ⟨k1, p2, p3, k3, ?_⟩
          unfold det
          rw [if_pos ⟨k1, by omega, by omega⟩, k2]
          conv => rhs; rw [cut_at hc]
          rw [show ((q : Int)).toNat = q by omega, p1]
          have e : low (l.drop (c + 1)) = l.drop (c + 1) := bLowSame fun x hx => by
            rw [← p1] at hx
            have := dec_all q x hx
            omega
          unfold low at e ⊢
          rw [List.map_append, List.map_cons, e]
          rfl
theorem dest_bad {l : List Nat} (h : (dest l).2 ≠ .ok) : (dest l).1 = (noH, 0) := by
  unfold dest at h ⊢
  split at h
  · rename_i h1; rw [if_pos h1]
  · rename_i h1
    rw [if_neg h1]
    cases hc : colon 0 l with
    | none => rfl
    | some c =>
      rw [hc] at h
      simp only [] at h ⊢
      obtain ⟨H, er, hh⟩ : ∃ H er, host (l.take c) = (H, er) := ⟨_, _, rfl⟩
      obtain ⟨q, ep, hp⟩ : ∃ q ep, port (l.drop (c + 1)) = (q, ep) := ⟨_, _, rfl⟩
      rw [hh, hp] at h ⊢
      cases er with
      | one a b => rfl
      | two a b d => rfl
      | ok =>
        cases ep with
        | one a b => rfl
        | two a b d => rfl
        | ok => exact absurd rfl h
end Go.Proofs.YtccoddmdlbdfjaaGreatDoor
