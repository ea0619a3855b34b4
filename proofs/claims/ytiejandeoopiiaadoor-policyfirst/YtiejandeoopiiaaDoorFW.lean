/-
  PolicyFirst in numbers, and its walk; conditions as each theorem has them.
-/
import Derived.Test.YtiejandeoopiiaaDoorAN
set_option linter.unusedSimpArgs false
set_option linter.unusedVariables false
namespace Go.Proofs.YtiejandeoopiiaaDoor
open Go.RowKit
theorem srcR_one {w : World} {g : Nat} {r : Ru} (h : w.heap[g]? = some (.cells (ruC r).toArray 33)) (hr : r.ok) : SrcR w (some ⟨g, 0, none⟩) 1 1 [r] := by
  refine ⟨rfl, Nat.le_refl _, by unfold maxLen; decide, (fun e => by cases e), fun _ => ⟨_, _, rfl, lt_of_some h, fun j u hu => ?_⟩, fun q hq => by simp at hq; subst hq; exact hr⟩
  rw [Nat.zero_add]
  simp only [World.cell?, h]
  simpa [ruCs] using hu
theorem putL_ok {l rs : List Ru} (h : okRs l) (h2 : okRs rs) (t : Int) : okRs (putL l t rs) := by
  intro r hr
  unfold putL at hr
  split at hr
  · rcases List.mem_append.1 hr with hr | hr
    · exact h r (List.mem_of_mem_take hr)
    · rcases List.mem_append.1 hr with hr | hr
      · exact h2 r hr
      · exact h r (List.mem_of_mem_drop hr)
  · cases hr
theorem chkL_take {l : List Ru} (h : chkL l = 0) (k : Nat) : chkL (l.take k) = 0 := by
  obtain ⟨h1, h2⟩ := chkL_zero.1 h
  exact chkL_zero.2 ⟨by rw [List.length_take]; omega, fun r hr => h2 r (List.mem_of_mem_take hr)⟩
/-- What comes of a rule that fits first. -/
theorem which_parts {l : List Ru} {a : Ad} {n : List Nat} {p : Int} {k : Nat} (h : which l a n p = (k : Int)) : k < l.length ∧ chkL l = 0 ∧ okD a n p = true ∧ fit a n p (l.getD k noRu) = true ∧ ∀ j, j < k → fit a n p (l.getD j noRu) = false := by
  unfold which at h
  split at h
  · rename_i hh
    rcases first_bound (fit a n p) l 0 with e | ⟨j, h1, h2, h3, h4⟩
    · rw [e] at h; omega
    · rw [h2] at h
      obtain rfl : j = k := by omega
      exact ⟨h1, hh.1, hh.2, h3, h4⟩
  · omega
theorem take_none {l : List Ru} {f : Ru → Bool} {k : Nat} (hk : k ≤ l.length) (h : ∀ j, j < k → f (l.getD j noRu) = false) : ∀ r ∈ l.take k, f r = false := by
  intro r hr
  obtain ⟨i, hi, e⟩ := List.getElem_of_mem hr
  rw [List.length_take] at hi
  have := h i (by omega)
  rw [List.getElem_take] at e
  rw [List.getD, List.getElem?_eq_getElem (by omega), Option.getD_some, e] at this
  exact this
theorem which_take {l : List Ru} {a : Ad} {n : List Nat} {p : Int} {k : Nat} (h : which l a n p = (k : Int)) : which (l.take k) a n p = -1 := by
  obtain ⟨h1, h2, h3, h4, h5⟩ := which_parts h
  rw [which_of (chkL_take h2 k) h3]
  exact first_none _ _ (take_none (by omega) h5)
theorem which_front {l m : List Ru} {a : Ad} {n : List Nat} {p : Int} {k : Nat} (h : which l a n p = (k : Int)) (hm : chkL (l.take (k + 1) ++ m) = 0) : which (l.take (k + 1) ++ m) a n p = (k : Int) ∧ may (l.take (k + 1) ++ m) a n p = (l.getD k noRu).al := by
  obtain ⟨h1, h2, h3, h4, h5⟩ := which_parts h
  have hw : which (l.take (k + 1) ++ m) a n p = (k : Int) := by
    rw [which_of hm h3, take_getD (d := noRu) h1, List.append_assoc]
    show first _ 0 (l.take k ++ l.getD k noRu :: m) = _
    rw [first_at _ _ _ _ (take_none (by omega) h5) h4, List.length_take, Nat.min_eq_left (by omega), Nat.zero_add]
  refine ⟨hw, ?_⟩
  rw [may_of, hw, if_neg (by omega), show ((k : Int)).toNat = k by omega]
  congr 1
  rw [List.getD, List.getElem?_append_left (by rw [List.length_take]; omega), List.getElem?_take, if_pos (by omega)]
  rfl
theorem which_one {l : List Ru} {a : Ad} {n : List Nat} {p : Int} {k : Nat} (h : which l a n p = (k : Int)) : which (l.take (k + 1)) a n p = (k : Int) := by
  have := (which_front (m := []) h (by rw [List.append_nil]; exact chkL_take (which_parts h).2.1 _)).1
  rwa [List.append_nil] at this
/-- Rules that are put behind it. -/
theorem which_put {l m : List Ru} {a : Ad} {n : List Nat} {p : Int} {k : Nat} (h : which l a n p = (k : Int)) (hp : putE (l.take (k + 1)) ((k + 1 : Nat) : Int) m = 0) : which (putL (l.take (k + 1)) ((k + 1 : Nat) : Int) m) a n p = (k : Int) ∧ may (putL (l.take (k + 1)) ((k + 1 : Nat) : Int) m) a n p = (l.getD k noRu).al := by
  obtain ⟨h1, h2, h3, h4, h5⟩ := which_parts h
  have hlen : (l.take (k + 1)).length = k + 1 := by rw [List.length_take]; omega
  have e : putL (l.take (k + 1)) ((k + 1 : Nat) : Int) m = l.take (k + 1) ++ m := by
    unfold putL
    rw [if_pos hp, Int.toNat_natCast, List.take_of_length_le (by omega), List.drop_of_length_le (by omega), List.append_nil]
  obtain ⟨c1, c2, _, _, c5⟩ := putE_zero.1 hp
  obtain ⟨_, r1⟩ := chkL_zero.1 c1
  obtain ⟨_, r2⟩ := chkL_zero.1 c2
  rw [e]
  refine which_front h (chkL_zero.2 ⟨by rw [List.length_append]; exact c5, fun r hr => ?_⟩)
  rcases List.mem_append.1 hr with hr | hr
  · exact r1 r hr
  · exact r2 r hr
set_option maxRecDepth 100000 in
set_option maxHeartbeats 4000000 in
theorem first_walk (a : Option Addr) (n c : Nat) (l : List Ru) (d : Ad) (nm : ByteArray) (p : Int) (a2 : Option Addr) (n2 c2 : Nat) (l2 : List Ru) (w : World) (hT : Tabs w) (h : SrcR w a n c l) (hz : n * 48 ≤ 140737488351232) (hd : d.ok) (hnm : nm.size ≤ maxLen) (hwf : (Lit.int .i64 p).wf = true) (h2 : SrcR w a2 n2 c2 l2) (hz2 : n2 * 48 ≤ 140737488351232) : Calls Tryd.prog 3 #[.slice a n c, deV d nm p, .slice a2 n2 c2] w fun e w' => e = .returned (.bool true) ∧ Below w.heap.size w w' := by
  have hkb := which_bound l d (byt nm) p
  have WL := hide (fun W ht hs => which_at a n c l d nm p W hs hd hnm ht)
  have ML := hide (fun W ht hs => may_at a n c l d nm p W hs hd hnm ht)
  have WA := hide (fun a' n' c' l' W hs ht => which_at a' n' c' l' d nm p W hs hd hnm ht)
  have MA := hide (fun a' n' c' l' W hs ht => may_at a' n' c' l' d nm p W hs hd hnm ht)
  have WP := hide (fun k h => which_parts (l := l) (a := d) (n := byt nm) (p := p) (k := k) h)
  have WT := hide (fun k h => which_take (l := l) (a := d) (n := byt nm) (p := p) (k := k) h)
  have WO := hide (fun k h => which_one (l := l) (a := d) (n := byt nm) (p := p) (k := k) h)
  have WU := hide (fun k m h hp => which_put (l := l) (m := m) (a := d) (n := byt nm) (p := p) (k := k) h hp)
  have hmy : may l d (byt nm) p = (if which l d (byt nm) p < 0 then false else (l.getD (which l d (byt nm) p).toNat noRu).al) := rfl
  obtain ⟨K, hK⟩ : ∃ K, K = which l d (byt nm) p := ⟨_, rfl⟩
  obtain ⟨M, hM⟩ : ∃ M, M = may l d (byt nm) p := ⟨_, rfl⟩
  rw [← hK] at hkb WL
  rw [← hM] at ML
  rw [← hK, ← hM] at hmy
  have HK := hide hK
  have HM := hide hmy
  obtain ⟨d0, d1, d2, d3⟩ := d
  simp only [deV] at WL ML WA MA ⊢
  obtain ⟨w0, hw0⟩ : ∃ w0, w0 = w.alloc (.cells #[.int .u8 (d0 : Nat), .int .u8 (d1 : Nat), .int .u8 (d2 : Nat), .int .u8 (d3 : Nat), .string nm, .int .i64 p] 28) := ⟨_, rfl⟩
  have B0 : Hid (Below w.heap.size w w0) := by rw [hw0]; exact (Below.refl _ _).alloc (Nat.le_refl _) _
  have D0 : Hid (w0.heap[w.heap.size]? = some (.cells #[.int .u8 (d0 : Nat), .int .u8 (d1 : Nat), .int .u8 (d2 : Nat), .int .u8 (d3 : Nat), .string nm, .int .i64 p] 28)) := by rw [hw0]; exact alloc_new _ _
  have HW0 := hide hw0
  have HSRC := hide h
  have HSR2 := hide h2
  have HTAB := hide hT
  have HLEN := hide h.hlen
  have hc := h.hcap
  have hm := h.hmax
  unfold maxLen at hm
  clear hw0 hT h h2 hd hnm hwf hK hM hmy
  go_enter Tryd.func3, Tryd.ntmps3
  go_wp2_with fail
  rw [← HW0.out]
  refine (works_at _ (HTAB.out.below B0.out)).mono ?_
  rintro e w1 ⟨rfl, hb⟩
  have B1 := hide (B0.out.trans (hb.mono B0.out.size))
  have D1 := hide (keepB hb D0.out)
  clear hb
  go_wp2_with (first | (refine wpList_load_rowG (by rfl) 28 _ rfl w.heap.size rfl 28 _ (0, 0) _ D1.out Tryd.underlying28 rfl infoDe ?_))
  refine (WL.out _ (HTAB.out.below B1.out).v (HSRC.out.below B1.out)).mono ?_
  rintro e w2 ⟨rfl, hb⟩
  have B2 := hide (B1.out.trans (hb.mono B1.out.size))
  have D2 := hide (keepB hb D1.out)
  clear hb
  rcases hkb with hkb | ⟨k, hk, hkb⟩
  · subst hkb
    have hMf : M = false := by rw [HM.out]; rfl
    subst hMf
    go_wp2_with (first | (refine wpList_load_rowG (by rfl) 28 _ rfl w.heap.size rfl 28 _ (0, 0) _ D2.out Tryd.underlying28 rfl infoDe ?_))
    refine (ML.out _ (HTAB.out.below B2.out).v (HSRC.out.below B2.out)).mono ?_
    rintro e w3 ⟨rfl, hb⟩
    have B3 := hide (B2.out.trans (hb.mono B2.out.size))
    clear hb
    go_wp2_with fail
    go_ret
    exact ⟨rfl, B3.out⟩
  subst hkb
  have hkn : k < n := by rw [← HLEN.out]; exact hk
  have HWK : Hid (which l (d0, d1, d2, d3) (byt nm) p = (k : Int)) := HK.out.symm
  have HMK : Hid (M = (l.getD k noRu).al) := by
    show _ = _
    rw [HM.out, if_neg (by omega), show ((k : Int)).toNat = k by omega]
  obtain ⟨A, hA⟩ : ∃ A, A = (l.getD k noRu).al := ⟨_, rfl⟩
  rw [← hA] at HMK
  have hMA : M = A := HMK.out
  subst hMA
  have HA := hide hA
  have HCELL : Hid (∀ W, Below w.heap.size w W → ∃ xb xo, a = some ⟨xb, xo, none⟩ ∧ W.cell? ⟨xb, xo + k * 9, none⟩ = some (.bool M)) := fun W hB => by
    obtain ⟨xb, xo, e, hxb, hrg⟩ := (HSRC.out.below hB).at_ hkn
    refine ⟨xb, xo, e, ?_⟩
    have := hrg 0 (.bool (l.getD k noRu).al) rfl
    rw [Nat.add_zero, ← HA.out] at this
    exact this
  obtain ⟨xb, xo, rfl, ce2⟩ := HCELL.out w2 B2.out
  have s2 := D2.out
  have e0 : w2.cell? ⟨w.heap.size, 0, none⟩ = some (.int .u8 (d0 : Nat)) := by simp [World.cell?, s2]
  have e1 : w2.cell? ⟨w.heap.size, 1, none⟩ = some (.int .u8 (d1 : Nat)) := by simp [World.cell?, s2]
  have e2 : w2.cell? ⟨w.heap.size, 2, none⟩ = some (.int .u8 (d2 : Nat)) := by simp [World.cell?, s2]
  have e3 : w2.cell? ⟨w.heap.size, 3, none⟩ = some (.int .u8 (d3 : Nat)) := by simp [World.cell?, s2]
  have e4 : w2.cell? ⟨w.heap.size, 4, none⟩ = some (.string nm) := by simp [World.cell?, s2]
  have e5 : w2.cell? ⟨w.heap.size, 5, none⟩ = some (.int .i64 p) := by simp [World.cell?, s2]
  have hge : decide ((n : Int) ≤ (k : Int)) = false := decide_eq_false (by omega)
  have hlt0 : decide ((k : Int) < 0) = false := decide_eq_false (by omega)
  have hge2 : decide (n ≤ k) = false := decide_eq_false (by omega)
  clear s2 hA hk HM HK
  have WK : Hid (∀ W, SrcR W (some ⟨xb, xo, none⟩) n c l → Vars W → Calls Tryd.prog 7 #[.slice (some ⟨xb, xo, none⟩) k c, .agg #[.int .u8 (d0 : Nat), .int .u8 (d1 : Nat), .int .u8 (d2 : Nat), .int .u8 (d3 : Nat), .string nm, .int .i64 p]] W fun e w' => e = .returned (.int .i64 (-1)) ∧ Below W.heap.size W w') := fun W hs hv => by
    have := WA.out _ k c (l.take k) W (hs.take (by omega)) hv
    rw [WT.out k HWK.out] at this
    exact this
  have WK1 : Hid (∀ W, SrcR W (some ⟨xb, xo, none⟩) n c l → Vars W → Calls Tryd.prog 7 #[.slice (some ⟨xb, xo, none⟩) (k + 1) c, .agg #[.int .u8 (d0 : Nat), .int .u8 (d1 : Nat), .int .u8 (d2 : Nat), .int .u8 (d3 : Nat), .string nm, .int .i64 p]] W fun e w' => e = .returned (.int .i64 (k : Int)) ∧ Below W.heap.size W w') := fun W hs hv => by
    have := WA.out _ (k + 1) c (l.take (k + 1)) W (hs.take (by omega)) hv
    rw [WO.out k HWK.out] at this
    exact this
  have hc0 : c ≠ 0 := by omega
  have hkc : k ≤ c := by omega
  obtain ⟨t1, ht1⟩ : ∃ t1, t1 = k + 1 := ⟨_, rfl⟩
  have hq1 : (k : Int) + 1 = (t1 : Int) := by omega
  have hq2 : t1 ≤ c := by omega
  have hq3 : IntKind.i64.wrap (t1 : Int) = (t1 : Int) := wrap_nat t1 (by omega)
  have hq4 : wrap64 (t1 : Int) = (t1 : Int) := by unfold wrap64; omega
  have hq5 : IntKind.i64.wrap ((k : Int) + 1) = (t1 : Int) := by rw [hq1]; exact hq3
  rw [← ht1] at WK1
  have HT1 := hide ht1
  clear ht1
  obtain ⟨PE, hPE⟩ : ∃ PE, PE = putE (l.take t1) (t1 : Int) l2 := ⟨_, rfl⟩
  obtain ⟨PL, hPL⟩ : ∃ PL, PL = putL (l.take t1) (t1 : Int) l2 := ⟨_, rfl⟩
  have PU : Hid (∀ W, SrcR W (some ⟨xb, xo, none⟩) n c l → SrcR W a2 n2 c2 l2 → Vars W → Calls Tryd.prog 9 #[.slice (some ⟨xb, xo, none⟩) t1 c, .int .i64 (t1 : Int), .slice a2 n2 c2] W fun e w' => ∃ v, e = .returned (.tuple #[v, .int .i64 (PE : Nat)]) ∧ OwnR w' W.heap.size v PL ∧ Below W.heap.size W w') := fun W hs hs2 hv => by
    have := put_at _ t1 c (l.take t1) (t1 : Int) a2 n2 c2 l2 W (hs.take (by omega)) hs2 hv
    rw [← hPE, ← hPL] at this
    exact this
  have HPZ : Hid (PE = 0 → which PL (d0, d1, d2, d3) (byt nm) p = (k : Int) ∧ may PL (d0, d1, d2, d3) (byt nm) p = M) := fun h0 => by
    have := WU.out k l2 HWK.out (by rw [← HT1.out, ← hPE]; exact h0)
    rw [← HT1.out, ← hPL, ← HA.out] at this
    exact this
  have HOK : Hid (okRs PL) := by rw [hPL]; exact putL_ok (fun r hr => HSRC.out.ok r (List.mem_of_mem_take hr)) HSR2.out.ok _
  clear hPE hPL
  go_wp2_with fail
  go_region_held3 (fun w' => w'.cell? ⟨w.heap.size, 0, none⟩ = some (.int .u8 (d0 : Nat)) ∧ w'.cell? ⟨w.heap.size, 1, none⟩ = some (.int .u8 (d1 : Nat)) ∧ w'.cell? ⟨w.heap.size, 2, none⟩ = some (.int .u8 (d2 : Nat)) ∧ w'.cell? ⟨w.heap.size, 3, none⟩ = some (.int .u8 (d3 : Nat)) ∧ w'.cell? ⟨w.heap.size, 4, none⟩ = some (.string nm) ∧ w'.cell? ⟨w.heap.size, 5, none⟩ = some (.int .i64 p) ∧ w'.cell? ⟨xb, xo + k * 9, none⟩ = some (.bool M)) (go_keep) (first
    | (go_at_call 8; refine (ML.out _ (by exact (HTAB.out.below B2.out).v) (by first | exact HSRC.out.below B2.out.drew | exact HSRC.out.below B2.out)).mono ?_; rintro e w3 ⟨rfl, hk0⟩; have hk' : Below w2.heap.size w2 w3 := ⟨hk0.os, hk0.tape, hk0.output, hk0.size, hk0.block⟩; have B3 := hide (B2.out.trans (hk'.mono B2.out.size)); have D3 := hide (keepB hk' D2.out); have g0 := (hk'.cell (p := ⟨w.heap.size, 0, none⟩) (lt_of_cell e0)).trans e0; have g1 := (hk'.cell (p := ⟨w.heap.size, 1, none⟩) (lt_of_cell e1)).trans e1; have g2 := (hk'.cell (p := ⟨w.heap.size, 2, none⟩) (lt_of_cell e2)).trans e2; have g3 := (hk'.cell (p := ⟨w.heap.size, 3, none⟩) (lt_of_cell e3)).trans e3; have g4 := (hk'.cell (p := ⟨w.heap.size, 4, none⟩) (lt_of_cell e4)).trans e4; have g5 := (hk'.cell (p := ⟨w.heap.size, 5, none⟩) (lt_of_cell e5)).trans e5; have ce3 := (hk'.cell (p := ⟨xb, xo + k * 9, none⟩) (lt_of_cell ce2)).trans ce2; clear hk0 hk'))
  all_goals (
    go_wp2_with fail
    clear e0 e1 e2 e3 e4 e5 ce2 hge hge2 hlt0
    go_region_held3 (fun w' => w'.cell? ⟨w.heap.size, 0, none⟩ = some (.int .u8 (d0 : Nat)) ∧ w'.cell? ⟨w.heap.size, 1, none⟩ = some (.int .u8 (d1 : Nat)) ∧ w'.cell? ⟨w.heap.size, 2, none⟩ = some (.int .u8 (d2 : Nat)) ∧ w'.cell? ⟨w.heap.size, 3, none⟩ = some (.int .u8 (d3 : Nat)) ∧ w'.cell? ⟨w.heap.size, 4, none⟩ = some (.string nm) ∧ w'.cell? ⟨w.heap.size, 5, none⟩ = some (.int .i64 p)) (go_keep) (first
      | (go_at_call_of 7 (Value.slice (some ⟨xb, xo, none⟩) k c); refine (WK.out _ (by first | exact HSRC.out.below B3.out.drew | exact HSRC.out.below B3.out) (by exact (HTAB.out.below B3.out).v)).mono ?_; rintro e w4 ⟨rfl, hk0⟩; have hk' : Below w3.heap.size w3 w4 := ⟨hk0.os, hk0.tape, hk0.output, hk0.size, hk0.block⟩; have B4 := hide (B3.out.trans (hk'.mono B3.out.size)); have D4 := hide (keepB hk' D3.out); have i0 := (hk'.cell (p := ⟨w.heap.size, 0, none⟩) (lt_of_cell g0)).trans g0; have i1 := (hk'.cell (p := ⟨w.heap.size, 1, none⟩) (lt_of_cell g1)).trans g1; have i2 := (hk'.cell (p := ⟨w.heap.size, 2, none⟩) (lt_of_cell g2)).trans g2; have i3 := (hk'.cell (p := ⟨w.heap.size, 3, none⟩) (lt_of_cell g3)).trans g3; have i4 := (hk'.cell (p := ⟨w.heap.size, 4, none⟩) (lt_of_cell g4)).trans g4; have i5 := (hk'.cell (p := ⟨w.heap.size, 5, none⟩) (lt_of_cell g5)).trans g5; clear hk0 hk')
      | (go_at_call_of 7 (Value.slice (some ⟨xb, xo, none⟩) t1 c); refine (WK1.out _ (by first | exact HSRC.out.below B4.out.drew | exact HSRC.out.below B4.out) (by exact (HTAB.out.below B4.out).v)).mono ?_; rintro e w5 ⟨rfl, hk0⟩; have hk' : Below w4.heap.size w4 w5 := ⟨hk0.os, hk0.tape, hk0.output, hk0.size, hk0.block⟩; have B5 := hide (B4.out.trans (hk'.mono B4.out.size)); have D5 := hide (keepB hk' D4.out); have j0 := (hk'.cell (p := ⟨w.heap.size, 0, none⟩) (lt_of_cell i0)).trans i0; have j1 := (hk'.cell (p := ⟨w.heap.size, 1, none⟩) (lt_of_cell i1)).trans i1; have j2 := (hk'.cell (p := ⟨w.heap.size, 2, none⟩) (lt_of_cell i2)).trans i2; have j3 := (hk'.cell (p := ⟨w.heap.size, 3, none⟩) (lt_of_cell i3)).trans i3; have j4 := (hk'.cell (p := ⟨w.heap.size, 4, none⟩) (lt_of_cell i4)).trans i4; have j5 := (hk'.cell (p := ⟨w.heap.size, 5, none⟩) (lt_of_cell i5)).trans i5; clear hk0 hk'))
    go_wp2_with fail
    refine (PU.out _ (HSRC.out.below B5.out) (HSR2.out.below B5.out) (HTAB.out.below B5.out).v).mono ?_
    rintro e w6 ⟨v, rfl, hown, hb⟩
    have B6 := hide (B5.out.trans (hb.mono B5.out.size))
    have D6 := hide (keepB hb D5.out)
    obtain ⟨ay, cy, rfl, sy, hy0⟩ := hown.src HOK.out
    have Y6 := hide sy
    obtain ⟨ny, hny⟩ : ∃ ny, ny = PL.length := ⟨_, rfl⟩
    rw [← hny] at Y6 ⊢
    clear hown hb sy hy0 hny g0 g1 g2 g3 g4 g5 i0 i1 i2 i3 i4 i5 j0 j1 j2 j3 j4 j5 ce3
    by_cases hPE : PE = 0
    · obtain ⟨z1, z2⟩ := HPZ.out hPE
      subst hPE
      have WY : Hid (∀ W, SrcR W ay ny cy PL → Vars W → Calls Tryd.prog 7 #[.slice ay ny cy, .agg #[.int .u8 (d0 : Nat), .int .u8 (d1 : Nat), .int .u8 (d2 : Nat), .int .u8 (d3 : Nat), .string nm, .int .i64 p]] W fun e w' => e = .returned (.int .i64 (k : Int)) ∧ Below W.heap.size W w') := fun W hs hv => by
        have := WA.out ay ny cy PL W hs hv
        rw [z1] at this
        exact this
      have MY : Hid (∀ W, SrcR W ay ny cy PL → Vars W → Calls Tryd.prog 8 #[.slice ay ny cy, .agg #[.int .u8 (d0 : Nat), .int .u8 (d1 : Nat), .int .u8 (d2 : Nat), .int .u8 (d3 : Nat), .string nm, .int .i64 p]] W fun e w' => e = .returned (.bool M) ∧ Below W.heap.size W w') := fun W hs hv => by
        have := MA.out ay ny cy PL W hs hv
        rw [z2] at this
        exact this
      have s6 := D6.out
      have g0 : w6.cell? ⟨w.heap.size, 0, none⟩ = some (.int .u8 (d0 : Nat)) := by simp [World.cell?, s6]
      have g1 : w6.cell? ⟨w.heap.size, 1, none⟩ = some (.int .u8 (d1 : Nat)) := by simp [World.cell?, s6]
      have g2 : w6.cell? ⟨w.heap.size, 2, none⟩ = some (.int .u8 (d2 : Nat)) := by simp [World.cell?, s6]
      have g3 : w6.cell? ⟨w.heap.size, 3, none⟩ = some (.int .u8 (d3 : Nat)) := by simp [World.cell?, s6]
      have g4 : w6.cell? ⟨w.heap.size, 4, none⟩ = some (.string nm) := by simp [World.cell?, s6]
      have g5 : w6.cell? ⟨w.heap.size, 5, none⟩ = some (.int .i64 p) := by simp [World.cell?, s6]
      obtain ⟨xb', xo', exx, ce6⟩ := HCELL.out w6 B6.out
      obtain ⟨rfl, rfl⟩ : xb = xb' ∧ xo = xo' := by simpa using exx
      clear s6 z1 z2 exx
      go_wp2_with fail
      go_region_held3 (fun w' => w'.cell? ⟨w.heap.size, 0, none⟩ = some (.int .u8 (d0 : Nat)) ∧ w'.cell? ⟨w.heap.size, 1, none⟩ = some (.int .u8 (d1 : Nat)) ∧ w'.cell? ⟨w.heap.size, 2, none⟩ = some (.int .u8 (d2 : Nat)) ∧ w'.cell? ⟨w.heap.size, 3, none⟩ = some (.int .u8 (d3 : Nat)) ∧ w'.cell? ⟨w.heap.size, 4, none⟩ = some (.string nm) ∧ w'.cell? ⟨w.heap.size, 5, none⟩ = some (.int .i64 p) ∧ w'.cell? ⟨xb, xo + k * 9, none⟩ = some (.bool M)) (go_keep) (first
        | (go_at_call 7; refine (WY.out _ (by first | exact Y6.out.drew | exact Y6.out) (by exact (HTAB.out.below B6.out).v)).mono ?_; rintro e w7 ⟨rfl, hk0⟩; have hk' : Below w6.heap.size w6 w7 := ⟨hk0.os, hk0.tape, hk0.output, hk0.size, hk0.block⟩; have B7 := hide (B6.out.trans (hk'.mono B6.out.size)); have Y7 := hide (Y6.out.below hk'); have i0 := (hk'.cell (p := ⟨w.heap.size, 0, none⟩) (lt_of_cell g0)).trans g0; have i1 := (hk'.cell (p := ⟨w.heap.size, 1, none⟩) (lt_of_cell g1)).trans g1; have i2 := (hk'.cell (p := ⟨w.heap.size, 2, none⟩) (lt_of_cell g2)).trans g2; have i3 := (hk'.cell (p := ⟨w.heap.size, 3, none⟩) (lt_of_cell g3)).trans g3; have i4 := (hk'.cell (p := ⟨w.heap.size, 4, none⟩) (lt_of_cell g4)).trans g4; have i5 := (hk'.cell (p := ⟨w.heap.size, 5, none⟩) (lt_of_cell g5)).trans g5; have ce7 := (hk'.cell (p := ⟨xb, xo + k * 9, none⟩) (lt_of_cell ce6)).trans ce6; clear hk0 hk')
        | (go_at_call 8; refine (MY.out _ (by first | exact Y7.out.drew | exact Y7.out) (by exact (HTAB.out.below B7.out).v)).mono ?_; rintro e w8 ⟨rfl, hk0⟩; have hk' : Below w7.heap.size w7 w8 := ⟨hk0.os, hk0.tape, hk0.output, hk0.size, hk0.block⟩; have B8 := hide (B7.out.trans (hk'.mono B7.out.size)); have j0 := (hk'.cell (p := ⟨w.heap.size, 0, none⟩) (lt_of_cell i0)).trans i0; have j1 := (hk'.cell (p := ⟨w.heap.size, 1, none⟩) (lt_of_cell i1)).trans i1; have j2 := (hk'.cell (p := ⟨w.heap.size, 2, none⟩) (lt_of_cell i2)).trans i2; have j3 := (hk'.cell (p := ⟨w.heap.size, 3, none⟩) (lt_of_cell i3)).trans i3; have j4 := (hk'.cell (p := ⟨w.heap.size, 4, none⟩) (lt_of_cell i4)).trans i4; have j5 := (hk'.cell (p := ⟨w.heap.size, 5, none⟩) (lt_of_cell i5)).trans i5; have ce8 := (hk'.cell (p := ⟨xb, xo + k * 9, none⟩) (lt_of_cell ce7)).trans ce7; clear hk0 hk'))
      all_goals go_wp2_with fail
      all_goals go_ret
      all_goals exact ⟨by first | rfl | simp, B8.out⟩
    · have hq6 : ((PE : Int) == 0) = false := by simp; omega
      have hq7 : ((PE : Int) != 0) = true := by simp; omega
      clear hPE
      go_wp2_with fail
      go_region
      all_goals go_wp2_with fail
      all_goals go_ret
      all_goals exact ⟨by first | rfl | simp, by first | exact B6.out | exact B6.out.drew⟩)

end Go.Proofs.YtiejandeoopiiaaDoor
