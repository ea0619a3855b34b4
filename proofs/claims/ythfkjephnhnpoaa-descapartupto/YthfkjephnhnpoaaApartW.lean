/-
  The walk of DescApart, where there are at most 1048576 calls: the call answers true and leaves what was there; no other conditions.
-/
import Derived.Test.YthfkjephnhnpoaaU
set_option linter.unusedSimpArgs false
set_option linter.unusedVariables false
namespace Go.Proofs.Ythfkjephnhnpoaa
open Go.RowKit

/-- The table, the handles that were given, and the rest, between two rounds. -/
structure ApS (w wr : World) (g n : Nat) (es : List En) (v : Value) (l : List (Nat × Nat)) (k : Nat) : Prop where
  tab : IsTab wr (g + 1) g es
  len : es.length = n
  row : IsH wr (g + 2) v l
  given : ∀ p ∈ l, ∃ e, es[p.1]? = some e ∧ (p.2 < e.gen ∨ (p.2 = e.gen ∧ e.st = 1))
  young : ∀ (i : Nat) (e : En), es[i]? = some e → e.st ≠ 2 ∧ 2 * e.gen + e.st ≤ k + 2
  few : l.length ≤ k
  below : Below w.heap.size w wr

theorem ApS.step {w wr wx : World} {g n k : Nat} {es : List En} {v : Value} {l : List (Nat × Nat)} (s : ApS w wr g n es v l k) (h : Below wr.heap.size wr wx) : ApS w wx g n es v l k :=
  ⟨s.tab.below h s.tab.lt.1 s.tab.lt.2, s.len, s.row.keep fun i _ hi => h.block i hi, s.given, s.young, s.few, s.below.trans (h.mono s.below.size)⟩
theorem ApS.alloc {w wr : World} {g n k : Nat} {es : List En} {v : Value} {l : List (Nat × Nat)} (s : ApS w wr g n es v l k) (o : Obj) : ApS w (wr.alloc o) g n es v l k := s.step ((Below.refl _ _).alloc (Nat.le_refl _) _)
theorem ApS.next {w wr : World} {g n k : Nat} {es : List En} {v : Value} {l : List (Nat × Nat)} (s : ApS w wr g n es v l k) : ApS w wr g n es v l (k + 1) :=
  { s with young := fun i e he => ⟨(s.young i e he).1, by have := (s.young i e he).2; omega⟩, few := by have := s.few; omega }

theorem young_set {es : List En} {k i : Nat} {e' : En} (h : ∀ (i : Nat) (e : En), es[i]? = some e → e.st ≠ 2 ∧ 2 * e.gen + e.st ≤ k + 2) (h' : e'.st ≠ 2 ∧ 2 * e'.gen + e'.st ≤ k + 1 + 2) :
    ∀ (j : Nat) (e : En), (es.set i e')[j]? = some e → e.st ≠ 2 ∧ 2 * e.gen + e.st ≤ k + 1 + 2 := fun j e he => by
  rw [List.getElem?_set] at he
  split at he
  · split at he
    · simp at he; subst he; exact h'
    · cases he
  · have := h j e he
    exact ⟨this.1, by omega⟩

/-- An entry is opened. -/
theorem ApS.opened {w wr wx : World} {g n k : Nat} {es : List En} {v : Value} {l : List (Nat × Nat)} (s : ApS w wr g n es v l k) (hg : w.heap.size ≤ g) {i : Nat} {e : En} (kk nn : Int) (he : es[i]? = some e) (h0 : e.st = 0)
    (ht : IsTab wx (g + 1) g (es.set i { e with st := 1, k := kk, n := nn })) (hk : Kept g g wr wx) : ApS w wx g n (es.set i { e with st := 1, k := kk, n := nn }) v l (k + 1) := by
  refine ⟨ht, by rw [List.length_set]; exact s.len, s.row.keep fun j h1 h2 => hk.block j h2 (by omega) (by omega), fun p hp => ?_, young_set s.young ⟨(show (1 : Nat) ≠ 2 by decide), ?_⟩, by have := s.few; omega, s.below.trans (hk.below hg hg s.below.size)⟩
  · obtain ⟨a, ha, h2⟩ := s.given p hp
    rw [List.getElem?_set]
    by_cases hx : i = p.1
    · rw [if_pos hx, if_pos (List.getElem?_eq_some_iff.1 he).1]
      refine ⟨_, rfl, ?_⟩
      rw [hx] at he
      rw [he] at ha
      simp at ha
      subst ha
      rcases h2 with h2 | h2
      · exact Or.inl h2
      · omega
    · rw [if_neg hx]; exact ⟨a, ha, h2⟩
  · have := (s.young i e he).2
    show 2 * e.gen + 1 ≤ k + 1 + 2
    omega

/-- .. and closed. -/
theorem ApS.closed {w wr wx : World} {g n k : Nat} {es : List En} {v : Value} {l : List (Nat × Nat)} (s : ApS w wr g n es v l k) (hg : w.heap.size ≤ g) (hk : k ≤ 1048576) {i : Nat} {e : En} (he : es[i]? = some e) (h1 : e.st = 1)
    (ht : IsTab wx (g + 1) g (es.set i (closed e))) (hkp : Kept g g wr wx) : ApS w wx g n (es.set i (Ythfkjephnhnpoaa.closed e)) v l (k + 1) := by
  have hy := (s.young i e he).2
  have hz : Ythfkjephnhnpoaa.closed e = ⟨0, e.gen + 1, 0, 0⟩ := by unfold Ythfkjephnhnpoaa.closed; rw [if_neg (by omega)]
  refine ⟨ht, by rw [List.length_set]; exact s.len, s.row.keep fun j h1 h2 => hkp.block j h2 (by omega) (by omega), fun p hp => ?_, young_set s.young ?_, by have := s.few; omega, s.below.trans (hkp.below hg hg s.below.size)⟩
  · obtain ⟨a, ha, h2⟩ := s.given p hp
    rw [List.getElem?_set]
    by_cases hx : i = p.1
    · rw [if_pos hx, if_pos (List.getElem?_eq_some_iff.1 he).1]
      refine ⟨_, rfl, ?_⟩
      rw [hx] at he
      rw [he] at ha
      simp at ha
      subst ha
      rw [hz]
      left
      show p.2 < e.gen + 1
      omega
    · rw [if_neg hx]; exact ⟨a, ha, h2⟩
  · rw [hz]
    refine ⟨(show (0 : Nat) ≠ 2 by decide), ?_⟩
    show 2 * (e.gen + 1) + 0 ≤ k + 1 + 2
    omega

theorem among_at (n : Int) (m : Nat) (hm : 0 < m) (hm1 : m ≤ 4611686018427387904) : ∃ k : Nat, Hid (∀ w : World, Calls Try.prog 10 #[.int .i64 n, .int .i64 m] w fun e w' => e = .returned (.int .i64 k) ∧ w = w') ∧ k < m := by
  obtain ⟨k, hk, e⟩ := wrap_small n m hm hm1
  refine ⟨k, fun w => ?_, hk⟩
  go_enter Try.func10, Try.ntmps10
  go_wp2
  go_ret
  exact ⟨by rw [← e]; rfl, rfl⟩

theorem below_over {B : Nat} {w w2 : World} (k : Below B w w2) (b : Nat) (hb : B ≤ b) (o : Nat) (u : Value) : Below B w (w2.setCell ⟨b, o, none⟩ u) :=
  ⟨k.os, k.tape, k.output, by simp [World.setCell]; exact k.size, fun i hi => (Below.heap_setCell _ _ _ _ (by simp; omega)).trans (k.block i hi)⟩

theorem live_all (es : List En) (h : ∀ (j : Nat) (a : En), es[j]? = some a → a.st = 1) : ∀ j, j ≤ es.length → (live es j).length = j
  | 0, _ => rfl
  | j + 1, hj => by
    obtain ⟨e, he⟩ := get_lt (show j < es.length by omega)
    rw [live_open he (h j e he), List.length_append, live_all es h j (by omega)]
    rfl

/-- A table that is full has all its entries open, as long as it is young. -/
theorem ApS.full {w wr : World} {g n k : Nat} {es : List En} {v : Value} {l : List (Nat × Nat)} (s : ApS w wr g n es v l k) (h : lst es = es.length) : (live es es.length).length = n := by
  rw [live_all es (fun j a ha => ?_) _ (Nat.le_refl _), s.len]
  have h1 := lst_held es j a (by rw [h]; exact (List.getElem?_eq_some_iff.1 ha).1) ha
  have h2 := (s.young j a ha).1
  have h3 := (s.tab.ok j a ha).st
  omega

/-- What is given now was not given ahead. -/
theorem ApS.fresh {w wr : World} {g n k : Nat} {es : List En} {v : Value} {l : List (Nat × Nat)} (s : ApS w wr g n es v l k) {i : Nat} {e : En} (he : es[i]? = some e) (h0 : e.st = 0) : ∀ p ∈ l, ¬ (p.1 = i ∧ p.2 = e.gen) := fun p hp ⟨h1, h2⟩ => by
  obtain ⟨a, ha, h3⟩ := s.given p hp
  rw [h1, he] at ha
  simp at ha
  subst ha
  omega

set_option maxRecDepth 100000 in
set_option maxHeartbeats 1000000 in
theorem apart_walk (a0 : Int) (a1 : Option Addr) (len1 cap1 : Nat) (w : World) (hA : IsActs w a1 len1 cap1) (hlen : len1 ≤ 1048576) : Calls Try.prog 5 #[.int .i64 a0, .slice a1 len1 cap1] w fun e w' => e = .returned (.bool true) ∧ Below w.heap.size w w' := by
  have HA := hide hA.2.2
  clear hA
  go_enter Try.func5, Try.ntmps5
  go_wp2_with fail
  refine (works_at w).mono ?_
  rintro e w1 ⟨rfl, hb1⟩
  have HB1 := hide hb1
  clear hb1
  go_wp2_with fail
  obtain ⟨n, HN, hn⟩ : ∃ n : Nat, Hid (∀ W : World, Calls Try.prog 10 #[.int .i64 a0, .int .i64 12] W fun e w' => e = .returned (.int .i64 n) ∧ W = w') ∧ n < 12 := among_at a0 12 (by omega) (by omega)
  refine (HN.out w1).mono ?_
  rintro e w2 ⟨rfl, rfl⟩
  go_wp2_with fail
  refine (new_good n w1 (by omega)).mono ?_
  rintro e w2 ⟨rfl, ht2, hb2⟩
  obtain ⟨g, hg⟩ : ∃ g, g = w1.heap.size := ⟨_, rfl⟩
  rw [← hg] at ht2 hb2 ⊢
  have hgw : w.heap.size ≤ g := by rw [hg]; exact HB1.out.size
  have HB2 : Hid (Below w.heap.size w w2) := HB1.out.trans (hb2.mono hgw)
  have hg2 : g + 2 ≤ w2.heap.size := by have := ht2.lt.1; omega
  have HS : Hid (ApS w (w2.alloc (.cells #[] 32)) g n (List.replicate n freshE) (.slice (some ⟨w2.heap.size, 0, none⟩) 0 0) [] 0) :=
    ⟨ht2.alloc _, by simp, own_new w2 _ hg2, fun p hp => (by cases hp), fun i e he => (by
      rw [List.getElem?_replicate] at he
      split at he
      · simp at he; subst he; exact ⟨by decide, by decide⟩
      · cases he), Nat.le_refl _, HB2.out.alloc HB2.out.size _⟩
  have HG := hide hg
  clear hg ht2 hb2 HB2
  go_wp2_with fail
  go_loopw [7, 8] (fun v i wr => ∃ (k : Nat) (es : List En) (l : List (Nat × Nat)), k ≤ len1 ∧ i = .int .i64 k ∧ Hid (ApS w wr g n es v l k)) (fun _ i _ => len1 - (intOf i).toNat)
  case atStart => exact ⟨0, _, _, Nat.zero_le _, rfl, HS⟩
  case round =>
    obtain ⟨k, es, l, hk, rfl, HS1⟩ := hrel
    clear HS
    by_cases hlt : k < len1
    · obtain ⟨A, o, e2, hAl, hacts⟩ := HA.out (by omega)
      subst e2
      obtain ⟨x, hx⟩ := hacts k hlt
      obtain ⟨d, px, py, kk, nn⟩ := x
      have HX := hide hx
      clear hacts hx
      go_wp2_with fail
      refine (live_at (g + 1) g es wr HS1.out.tab).mono ?_
      rintro e w3 ⟨vl, rfl, hh3, hb3⟩
      have HS3 : Hid (ApS w w3 g n es u7 l k) := HS1.out.step hb3
      have HH3 := hide hh3
      clear hh3 hb3
      obtain ⟨av, cv, hv⟩ := HS3.out.row.shape
      obtain ⟨al, cl, hvl⟩ := HH3.out.shape
      subst hv hvl
      obtain ⟨m, hm⟩ : ∃ m, m = (live es es.length).length := ⟨_, rfl⟩
      rw [← hm]
      have hm' : m ≤ 4096 := by rw [hm]; exact Nat.le_trans (live_le _ _) HS1.out.tab.max
      have HM := hide hm
      clear hm
      have q := HX.out.below HS3.out.below hAl
      obtain ⟨q0, q1, q2, q3, q4⟩ := q
      simp only at q0 q1 q2 q3 q4
      go_wp2_with fail
      refine (among d 3 (by omega) (by omega) w3).mono ?_
      rintro e w4 ⟨kd, hkd, rfl, rfl⟩
      by_cases hk0 : kd = 0 ∧ 0 < m
      · have hkd0 : kd = 0 := hk0.1
        subst hkd0
        have hm0 : 0 < m := hk0.2
        obtain ⟨b0, c0, hv0, hlc0, hb0, hbl0, hcells0⟩ := HH3.out.lies (by rw [← HM.out]; omega)
        rw [← HM.out] at hv0 hlc0
        simp only [Value.slice.injEq, true_and] at hv0
        obtain ⟨e1, e2⟩ := hv0
        subst e1 e2
        have HCells0 := hide hcells0
        clear hcells0
        go_wp2_with fail
        refine (among nn m (by omega) (by omega) w3).mono ?_
        rintro e v1 ⟨q, hq, rfl, rfl⟩
        obtain ⟨p, hp⟩ : ∃ p, (live es es.length)[q]? = some p := ⟨_, List.getElem?_eq_getElem (by rw [← HM.out]; exact hq)⟩
        obtain ⟨s0, s1⟩ := HCells0.out q p hp
        obtain ⟨_, e0, he0, hs0, hg0⟩ := live_mem es _ p (List.mem_of_getElem? hp)
        obtain ⟨pi, pg⟩ := p
        simp only at s0 s1 he0 hg0
        subst hg0
        have HC := hide (close_ok (g + 1) g es pi e0 w3 HS3.out.tab he0 hs0)
        have HE0 := hide he0
        have HS0 := hide hs0
        clear he0 hs0 hp
        go_wp2_with fail
        refine HC.out.mono ?_
        rintro e w5 ⟨rfl, ht5, hk5⟩
        have HS5 := hide (HS3.out.closed hgw (by omega) HE0.out HS0.out ht5 hk5)
        clear ht5 hk5 HC
        go_wp2_with fail
        go_roundw
        case rel => exact ⟨k + 1, _, l, by omega, by go_num, HS5⟩
        case measure => simp [intOf]; omega
      · by_cases hk1 : kd = 0
        · subst hk1
          obtain rfl : m = 0 := by omega
          clear hk0
          by_cases hf : lst es < es.length
          · obtain ⟨e0, he0⟩ := get_lt hf
            have hs0 := lst_free es e0 he0
            obtain ⟨i0, hi0⟩ : ∃ i0, lst es = i0 := ⟨_, rfl⟩
            rw [hi0] at he0
            have HI0 := hide hi0
            have HE0 := hide he0
            have HS0 := hide hs0
            clear hi0 he0 hf hs0
            have hAne : A ≠ w3.heap.size := by have := HS3.out.below.size; omega
            have hAne' : ¬ w3.heap.size = A := fun h => hAne h.symm
            have hAne'' : ¬ A = w3.heap.size := hAne
            go_wp2_with fail
            go_region_held3 (fun w' => w'.cell? ⟨A, o + k * 5 + 3, none⟩ = some (.int .i64 kk) ∧ w'.cell? ⟨A, o + k * 5 + 4, none⟩ = some (.int .i64 nn)) (go_keep) (first
              | (go_at_call 13; refine (open_ok (g + 1) g es i0 e0 kk nn _ ?_ HI0.out HE0.out).mono ?_; exact HS3.out.tab.keep rfl rfl; rintro e w5 ⟨rfl, ht5, hk5⟩; have hk5' : Kept g g w3 w5 := ⟨hk5.os, hk5.tape, hk5.output, hk5.size, hk5.block⟩; have hb5 : Below w.heap.size w w5 := HS3.out.below.trans (hk5'.below hgw hgw HS3.out.below.size); have q3' : w5.cell? ⟨A, o + k * 5 + 3, none⟩ = some (.int .i64 kk) := (hb5.cell (p := ⟨A, o + k * 5 + 3, none⟩) hAl).trans HX.out.c3; have q4' : w5.cell? ⟨A, o + k * 5 + 4, none⟩ = some (.int .i64 nn) := (hb5.cell (p := ⟨A, o + k * 5 + 4, none⟩) hAl).trans HX.out.c4; have HT5 := hide ht5; have HK5 := hide hk5'; clear ht5 hk5 hk5' hb5)
              | (go_at_call 13; refine (open_ok (g + 1) g es i0 e0 kk nn _ ?_ HI0.out HE0.out).mono ?_; exact (HS3.out.alloc (boxH 0 0)).tab.keep rfl rfl; rintro e w5 ⟨rfl, ht5, hk5⟩; have hk6 : Kept g g (w3.alloc (boxH 0 0)) w5 := ⟨hk5.os, hk5.tape, hk5.output, hk5.size, hk5.block⟩; have hk5' : Kept g g w3 w5 := kept_new ((Below.refl _ _).alloc (Nat.le_refl _) _) hk6; have hb5 : Below w.heap.size w w5 := HS3.out.below.trans (hk5'.below hgw hgw HS3.out.below.size); have q3' : w5.cell? ⟨A, o + k * 5 + 3, none⟩ = some (.int .i64 kk) := (hb5.cell (p := ⟨A, o + k * 5 + 3, none⟩) hAl).trans HX.out.c3; have q4' : w5.cell? ⟨A, o + k * 5 + 4, none⟩ = some (.int .i64 nn) := (hb5.cell (p := ⟨A, o + k * 5 + 4, none⟩) hAl).trans HX.out.c4; have hbx : Box w5 w3.heap.size 0 0 := (box_new w3 0 0).kept hk6 (by have := HS3.out.tab.lt.2; omega); have x0 := hbx.cells.1; have x1 := hbx.cells.2; have f0 := hbx.frozen 0; have f1 := hbx.frozen 1; have hxl := hbx.lt; have HBX := hide hbx; have HT5 := hide ht5; have HK5 := hide hk5'; clear ht5 hk5 hk5' hb5 hk6 hbx))
            · obtain ⟨es6, hes6⟩ : ∃ es6, es6 = es.set i0 { e0 with st := 1, k := kk, n := nn } := ⟨_, rfl⟩
              obtain ⟨b6, hb6⟩ : ∃ b6, b6 = w5.heap.size := ⟨_, rfl⟩
              obtain ⟨W6, hW6⟩ : ∃ W6, W6 = w5.alloc (boxH i0 e0.gen) := ⟨_, rfl⟩
              have HS6 : Hid (ApS w W6 g n es6 (.slice av l.length cv) l (k + 1)) := by
                rw [hW6, hes6]
                exact (HS3.out.opened hgw kk nn HE0.out HS0.out HT5.out HK5.out).alloc _
              have X6 : Hid (Box W6 b6 i0 e0.gen) := by rw [hW6, hb6]; exact box_new _ _ _
              rw [← hW6, ← hb6]
              clear hW6 hb6
              have HO6 : Hid (es6[i0]? = some { e0 with st := 1, k := kk, n := nn }) := by rw [hes6]; exact set_at HE0.out _
              have HFr := hide (HS3.out.fresh HE0.out HS0.out)
              clear hes6 HT5 HK5
              obtain ⟨x0, x1⟩ := X6.out.cells
              have hx6 := X6.out.lt
              have HL : Hid (Calls Try.prog 20 #[.pointer (some ⟨g + 1, 0, none⟩), hnd i0 e0.gen] W6 fun e w' => e = .returned (.tuple #[.int .i64 kk, .int .i64 nn, .int .i64 0]) ∧ Below W6.heap.size W6 w') := lookup_ok (g + 1) g es6 i0 _ W6 HS6.out.tab HO6.out rfl
              go_wp2_with fail
              refine HL.out.mono ?_
              rintro e w7 ⟨rfl, hb7⟩
              have HS7 : Hid (ApS w w7 g n es6 (.slice av l.length cv) l (k + 1)) := HS6.out.step hb7
              have X7 : Hid (Box w7 b6 i0 e0.gen) := X6.out.below hb7 X6.out.lt
              obtain ⟨y0, y1⟩ := X7.out.cells
              have hx7 := X7.out.lt
              obtain ⟨_, _, _, r3, r4⟩ := HX.out.below HS7.out.below hAl
              simp only at r3 r4
              have hfew : l.length ≤ k := HS3.out.few
              clear hb7 HL HS6 X6 x0 x1 q3 q4 q3' q4'
              go_wp2_with fail
              go_loopw [15] (fun i wx => ∃ j c : Nat, j ≤ l.length ∧ i = .int .i64 j ∧ Hid (wx = w7.drewN c)) (fun i _ => l.length - (intOf i).toNat)
              case atStart => exact ⟨0, 0, Nat.zero_le _, rfl, rfl⟩
              case round =>
                obtain ⟨j, c, hj, rfl, HW⟩ := hrel
                have hwx := HW.out
                subst hwx
                by_cases hjl : j < l.length
                · obtain ⟨b, cc, hv, hlc, hb, hbl, hcells⟩ := HS7.out.row.lies (by omega)
                  simp only [Value.slice.injEq, true_and] at hv
                  obtain ⟨e1, e2⟩ := hv
                  subst e1 e2
                  obtain ⟨p, hp⟩ : ∃ p, l[j]? = some p := ⟨_, List.getElem?_eq_getElem hjl⟩
                  obtain ⟨s0, s1⟩ := hcells j p hp
                  have hne := HFr.out p (List.mem_of_getElem? hp)
                  obtain ⟨pi, pg⟩ := p
                  simp only at s0 s1 hne
                  have HNE := hide hne
                  clear hcells hp hne
                  by_cases hpi : pi = i0
                  · have hpg : ¬ (pg : Int) = (e0.gen : Int) := fun h => HNE.out ⟨hpi, by omega⟩
                    subst hpi
                    go_wp2_with fail
                    go_quiet (fail)
                    go_wp2_with fail
                    go_roundw
                    case rel => exact ⟨j + 1, _, by omega, by go_num, rfl⟩
                    case measure => simp [intOf]; omega
                  · have hpi' : ¬ (pi : Int) = (i0 : Int) := fun h => hpi (by omega)
                    go_wp2_with fail
                    go_quiet (fail)
                    go_wp2_with fail
                    go_roundw
                    case rel => exact ⟨j + 1, _, by omega, by go_num, rfl⟩
                    case measure => simp [intOf]; omega
                · obtain rfl : j = l.length := by omega
                  obtain ⟨W8, hW8⟩ : ∃ W8, W8 = w7.drewN c := ⟨_, rfl⟩
                  rw [← hW8]
                  have HS8 : Hid (ApS w W8 g n es6 (.slice av l.length cv) l (k + 1)) := by
                    rw [hW8]
                    exact HS7.out.step ⟨rfl, rfl, rfl, Nat.le_refl _, fun _ _ => rfl⟩
                  have X8 : Hid (Box W8 b6 i0 e0.gen) := by rw [hW8]; exact X7.out
                  obtain ⟨z0, z1⟩ := X8.out.cells
                  have hx8 := X8.out.lt
                  have hg8 : g + 2 ≤ W8.heap.size := by have := HS8.out.tab.lt.1; omega
                  obtain ⟨v', w', hr, hi', hb', _, _, _⟩ := app_pair (w := W8) hg8 (Below.refl (g + 2) W8) HS8.out.row (i0, e0.gen) (by omega)
                  have HS9 : Hid (ApS w w' g n es6 v' (l ++ [(i0, e0.gen)]) (k + 1)) := by
                    refine ⟨HS8.out.tab.below hb' (by omega) (by omega), HS8.out.len, hi', fun p hp => ?_, HS8.out.young, by simp; omega, HS8.out.below.trans (hb'.mono (by omega))⟩
                    rcases List.mem_append.1 hp with hp | hp
                    · exact HS8.out.given p hp
                    · simp at hp
                      subst hp
                      exact ⟨_, HO6.out, Or.inr ⟨rfl, rfl⟩⟩
                  have HR := hide hr
                  clear hr hi' hb' hW8
                  go_wp2_with (at_builtin; refine wpList_app_run _ rfl _ _ 40 40 rfl _ _ rfl rfl HR.out ?_)
                  go_roundw
                  case rel => exact ⟨k + 1, es6, _, by omega, by go_num, HS9⟩
                  case measure => simp [intOf]; omega

            · obtain ⟨es6, hes6⟩ : ∃ es6, es6 = es.set i0 { e0 with st := 1, k := kk, n := nn } := ⟨_, rfl⟩
              obtain ⟨W6, hW6⟩ : ∃ W6, W6 = (w5.setCell ⟨w3.heap.size, 0, none⟩ (.int .i64 (i0 : Nat))).setCell ⟨w3.heap.size, 1, none⟩ (.int .i64 (e0.gen : Nat)) := ⟨_, rfl⟩
              have HS6 : Hid (ApS w W6 g n es6 (.slice av l.length cv) l (k + 1)) := by
                rw [hW6, hes6]
                have hl3 := HS3.out.tab.lt
                exact HS3.out.opened hgw kk nn HE0.out HS0.out (HT5.out.keep ((Below.heap_setCell _ _ _ _ (by simp; omega)).trans (Below.heap_setCell _ _ _ _ (by simp; omega))) ((Below.heap_setCell _ _ _ _ (by simp; omega)).trans (Below.heap_setCell _ _ _ _ (by simp; omega)))) (kept_over (kept_over HK5.out _ (Nat.le_refl _) _ _) _ (Nat.le_refl _) _ _)
              have X6 : Hid (Box W6 w3.heap.size i0 e0.gen) := by rw [hW6]; exact box_set HBX.out _ _
              rw [← hW6]
              clear hW6 x0 x1 f0 f1
              obtain ⟨b6, hb6⟩ : ∃ b6, b6 = w3.heap.size := ⟨_, rfl⟩
              rw [← hb6] at X6 ⊢
              clear hb6
              have HO6 : Hid (es6[i0]? = some { e0 with st := 1, k := kk, n := nn }) := by rw [hes6]; exact set_at HE0.out _
              have HFr := hide (HS3.out.fresh HE0.out HS0.out)
              clear hes6 HT5 HK5
              obtain ⟨x0, x1⟩ := X6.out.cells
              have hx6 := X6.out.lt
              have HL : Hid (Calls Try.prog 20 #[.pointer (some ⟨g + 1, 0, none⟩), hnd i0 e0.gen] W6 fun e w' => e = .returned (.tuple #[.int .i64 kk, .int .i64 nn, .int .i64 0]) ∧ Below W6.heap.size W6 w') := lookup_ok (g + 1) g es6 i0 _ W6 HS6.out.tab HO6.out rfl
              go_wp2_with fail
              refine HL.out.mono ?_
              rintro e w7 ⟨rfl, hb7⟩
              have HS7 : Hid (ApS w w7 g n es6 (.slice av l.length cv) l (k + 1)) := HS6.out.step hb7
              have X7 : Hid (Box w7 b6 i0 e0.gen) := X6.out.below hb7 X6.out.lt
              obtain ⟨y0, y1⟩ := X7.out.cells
              have hx7 := X7.out.lt
              obtain ⟨_, _, _, r3, r4⟩ := HX.out.below HS7.out.below hAl
              simp only at r3 r4
              have hfew : l.length ≤ k := HS3.out.few
              clear hb7 HL HS6 X6 x0 x1 q3 q4 q3' q4'
              go_wp2_with fail
              go_loopw [15] (fun i wx => ∃ j c : Nat, j ≤ l.length ∧ i = .int .i64 j ∧ Hid (wx = w7.drewN c)) (fun i _ => l.length - (intOf i).toNat)
              case atStart => exact ⟨0, 0, Nat.zero_le _, rfl, rfl⟩
              case round =>
                obtain ⟨j, c, hj, rfl, HW⟩ := hrel
                have hwx := HW.out
                subst hwx
                by_cases hjl : j < l.length
                · obtain ⟨b, cc, hv, hlc, hb, hbl, hcells⟩ := HS7.out.row.lies (by omega)
                  simp only [Value.slice.injEq, true_and] at hv
                  obtain ⟨e1, e2⟩ := hv
                  subst e1 e2
                  obtain ⟨p, hp⟩ : ∃ p, l[j]? = some p := ⟨_, List.getElem?_eq_getElem hjl⟩
                  obtain ⟨s0, s1⟩ := hcells j p hp
                  have hne := HFr.out p (List.mem_of_getElem? hp)
                  obtain ⟨pi, pg⟩ := p
                  simp only at s0 s1 hne
                  have HNE := hide hne
                  clear hcells hp hne
                  by_cases hpi : pi = i0
                  · have hpg : ¬ (pg : Int) = (e0.gen : Int) := fun h => HNE.out ⟨hpi, by omega⟩
                    subst hpi
                    go_wp2_with fail
                    go_quiet (fail)
                    go_wp2_with fail
                    go_roundw
                    case rel => exact ⟨j + 1, _, by omega, by go_num, rfl⟩
                    case measure => simp [intOf]; omega
                  · have hpi' : ¬ (pi : Int) = (i0 : Int) := fun h => hpi (by omega)
                    go_wp2_with fail
                    go_quiet (fail)
                    go_wp2_with fail
                    go_roundw
                    case rel => exact ⟨j + 1, _, by omega, by go_num, rfl⟩
                    case measure => simp [intOf]; omega
                · obtain rfl : j = l.length := by omega
                  obtain ⟨W8, hW8⟩ : ∃ W8, W8 = w7.drewN c := ⟨_, rfl⟩
                  rw [← hW8]
                  have HS8 : Hid (ApS w W8 g n es6 (.slice av l.length cv) l (k + 1)) := by
                    rw [hW8]
                    exact HS7.out.step ⟨rfl, rfl, rfl, Nat.le_refl _, fun _ _ => rfl⟩
                  have X8 : Hid (Box W8 b6 i0 e0.gen) := by rw [hW8]; exact X7.out
                  obtain ⟨z0, z1⟩ := X8.out.cells
                  have hx8 := X8.out.lt
                  have hg8 : g + 2 ≤ W8.heap.size := by have := HS8.out.tab.lt.1; omega
                  obtain ⟨v', w', hr, hi', hb', _, _, _⟩ := app_pair (w := W8) hg8 (Below.refl (g + 2) W8) HS8.out.row (i0, e0.gen) (by omega)
                  have HS9 : Hid (ApS w w' g n es6 v' (l ++ [(i0, e0.gen)]) (k + 1)) := by
                    refine ⟨HS8.out.tab.below hb' (by omega) (by omega), HS8.out.len, hi', fun p hp => ?_, HS8.out.young, by simp; omega, HS8.out.below.trans (hb'.mono (by omega))⟩
                    rcases List.mem_append.1 hp with hp | hp
                    · exact HS8.out.given p hp
                    · simp at hp
                      subst hp
                      exact ⟨_, HO6.out, Or.inr ⟨rfl, rfl⟩⟩
                  have HR := hide hr
                  clear hr hi' hb' hW8
                  go_wp2_with (at_builtin; refine wpList_app_run _ rfl _ _ 40 40 rfl _ _ rfl rfl HR.out ?_)
                  go_roundw
                  case rel => exact ⟨k + 1, es6, _, by omega, by go_num, HS9⟩
                  case measure => simp [intOf]; omega

          · have hf2 : lst es = es.length := by have := lst_le es; omega
            have HF2 := hide hf2
            clear hf hf2
            have hAne : A ≠ w3.heap.size := by have := HS3.out.below.size; omega
            have hAne' : ¬ w3.heap.size = A := fun h => hAne h.symm
            have hAne'' : ¬ A = w3.heap.size := hAne
            go_wp2_with fail
            go_region_held3 (fun w' => w'.cell? ⟨A, o + k * 5 + 3, none⟩ = some (.int .i64 kk) ∧ w'.cell? ⟨A, o + k * 5 + 4, none⟩ = some (.int .i64 nn)) (go_keep) (first
              | (go_at_call 13; refine (open_full (g + 1) g es kk nn _ ?_ HF2.out).mono ?_; exact HS3.out.tab.keep rfl rfl; rintro e w5 ⟨rfl, hbb⟩; have hbb' : Below w3.heap.size w3 w5 := ⟨hbb.os, hbb.tape, hbb.output, hbb.size, hbb.block⟩; have hb5 : Below w.heap.size w w5 := HS3.out.below.trans (hbb'.mono HS3.out.below.size); have q3' : w5.cell? ⟨A, o + k * 5 + 3, none⟩ = some (.int .i64 kk) := (hb5.cell (p := ⟨A, o + k * 5 + 3, none⟩) hAl).trans HX.out.c3; have q4' : w5.cell? ⟨A, o + k * 5 + 4, none⟩ = some (.int .i64 nn) := (hb5.cell (p := ⟨A, o + k * 5 + 4, none⟩) hAl).trans HX.out.c4; have HK5 := hide hbb'; clear hbb hbb' hb5)
              | (go_at_call 13; refine (open_full (g + 1) g es kk nn _ ?_ HF2.out).mono ?_; exact (HS3.out.alloc (boxH 0 0)).tab.keep rfl rfl; rintro e w5 ⟨rfl, hbb⟩; have hbb2 : Below (w3.alloc (boxH 0 0)).heap.size (w3.alloc (boxH 0 0)) w5 := ⟨hbb.os, hbb.tape, hbb.output, hbb.size, hbb.block⟩; have hbb' : Below w3.heap.size w3 w5 := below_new _ hbb2; have hb5 : Below w.heap.size w w5 := HS3.out.below.trans (hbb'.mono HS3.out.below.size); have q3' : w5.cell? ⟨A, o + k * 5 + 3, none⟩ = some (.int .i64 kk) := (hb5.cell (p := ⟨A, o + k * 5 + 3, none⟩) hAl).trans HX.out.c3; have q4' : w5.cell? ⟨A, o + k * 5 + 4, none⟩ = some (.int .i64 nn) := (hb5.cell (p := ⟨A, o + k * 5 + 4, none⟩) hAl).trans HX.out.c4; have hbx : Box w5 w3.heap.size 0 0 := (box_new w3 0 0).below hbb2 (by simp); have x0 := hbx.cells.1; have x1 := hbx.cells.2; have f0 := hbx.frozen 0; have f1 := hbx.frozen 1; have hxl := hbx.lt; have HK5 := hide hbb'; clear hbb hbb' hb5 hbb2 hbx))
            · obtain ⟨W6, hW6⟩ : ∃ W6, W6 = w5.alloc (boxH 0 0) := ⟨_, rfl⟩
              have HS6 : Hid (ApS w W6 g n es (.slice av l.length cv) l (k + 1)) := by
                rw [hW6]
                exact ((HS3.out.step HK5.out).alloc _).next
              rw [← hW6]
              clear hW6
              have HU := hide (used_at (g + 1) g es W6 HS6.out.tab)
              rw [HS3.out.full HF2.out] at HU
              clear HK5
              go_wp2_with fail
              refine HU.out.mono ?_
              rintro e w7 ⟨rfl, hb7⟩
              have HS7 : Hid (ApS w w7 g n es (.slice av l.length cv) l (k + 1)) := HS6.out.step hb7
              clear hb7 HU
              go_wp2_with fail
              refine (HN.out w7).mono ?_
              rintro e w8 ⟨rfl, rfl⟩
              go_wp2_with fail
              go_roundw
              case rel => exact ⟨k + 1, es, l, by omega, by go_num, HS7⟩
              case measure => simp [intOf]; omega

            · obtain ⟨W6, hW6⟩ : ∃ W6, W6 = (w5.setCell ⟨w3.heap.size, 0, none⟩ (.int .i64 0)).setCell ⟨w3.heap.size, 1, none⟩ (.int .i64 0) := ⟨_, rfl⟩
              have HS6 : Hid (ApS w W6 g n es (.slice av l.length cv) l (k + 1)) := by
                rw [hW6]
                exact (HS3.out.step (below_over (below_over HK5.out _ (Nat.le_refl _) _ _) _ (Nat.le_refl _) _ _)).next
              rw [← hW6]
              clear hW6 x0 x1 f0 f1
              have HU := hide (used_at (g + 1) g es W6 HS6.out.tab)
              rw [HS3.out.full HF2.out] at HU
              clear HK5
              go_wp2_with fail
              refine HU.out.mono ?_
              rintro e w7 ⟨rfl, hb7⟩
              have HS7 : Hid (ApS w w7 g n es (.slice av l.length cv) l (k + 1)) := HS6.out.step hb7
              clear hb7 HU
              go_wp2_with fail
              refine (HN.out w7).mono ?_
              rintro e w8 ⟨rfl, rfl⟩
              go_wp2_with fail
              go_roundw
              case rel => exact ⟨k + 1, es, l, by omega, by go_num, HS7⟩
              case measure => simp [intOf]; omega

        · clear hk0
          by_cases hf : lst es < es.length
          · obtain ⟨e0, he0⟩ := get_lt hf
            have hs0 := lst_free es e0 he0
            obtain ⟨i0, hi0⟩ : ∃ i0, lst es = i0 := ⟨_, rfl⟩
            rw [hi0] at he0
            have HI0 := hide hi0
            have HE0 := hide he0
            have HS0 := hide hs0
            clear hi0 he0 hf hs0
            have hAne : A ≠ w3.heap.size := by have := HS3.out.below.size; omega
            have hAne' : ¬ w3.heap.size = A := fun h => hAne h.symm
            have hAne'' : ¬ A = w3.heap.size := hAne
            go_wp2_with fail
            go_region_held3 (fun w' => w'.cell? ⟨A, o + k * 5 + 3, none⟩ = some (.int .i64 kk) ∧ w'.cell? ⟨A, o + k * 5 + 4, none⟩ = some (.int .i64 nn)) (go_keep) (first
              | (go_at_call 13; refine (open_ok (g + 1) g es i0 e0 kk nn _ ?_ HI0.out HE0.out).mono ?_; exact HS3.out.tab.keep rfl rfl; rintro e w5 ⟨rfl, ht5, hk5⟩; have hk5' : Kept g g w3 w5 := ⟨hk5.os, hk5.tape, hk5.output, hk5.size, hk5.block⟩; have hb5 : Below w.heap.size w w5 := HS3.out.below.trans (hk5'.below hgw hgw HS3.out.below.size); have q3' : w5.cell? ⟨A, o + k * 5 + 3, none⟩ = some (.int .i64 kk) := (hb5.cell (p := ⟨A, o + k * 5 + 3, none⟩) hAl).trans HX.out.c3; have q4' : w5.cell? ⟨A, o + k * 5 + 4, none⟩ = some (.int .i64 nn) := (hb5.cell (p := ⟨A, o + k * 5 + 4, none⟩) hAl).trans HX.out.c4; have HT5 := hide ht5; have HK5 := hide hk5'; clear ht5 hk5 hk5' hb5)
              | (go_at_call 13; refine (open_ok (g + 1) g es i0 e0 kk nn _ ?_ HI0.out HE0.out).mono ?_; exact (HS3.out.alloc (boxH 0 0)).tab.keep rfl rfl; rintro e w5 ⟨rfl, ht5, hk5⟩; have hk6 : Kept g g (w3.alloc (boxH 0 0)) w5 := ⟨hk5.os, hk5.tape, hk5.output, hk5.size, hk5.block⟩; have hk5' : Kept g g w3 w5 := kept_new ((Below.refl _ _).alloc (Nat.le_refl _) _) hk6; have hb5 : Below w.heap.size w w5 := HS3.out.below.trans (hk5'.below hgw hgw HS3.out.below.size); have q3' : w5.cell? ⟨A, o + k * 5 + 3, none⟩ = some (.int .i64 kk) := (hb5.cell (p := ⟨A, o + k * 5 + 3, none⟩) hAl).trans HX.out.c3; have q4' : w5.cell? ⟨A, o + k * 5 + 4, none⟩ = some (.int .i64 nn) := (hb5.cell (p := ⟨A, o + k * 5 + 4, none⟩) hAl).trans HX.out.c4; have hbx : Box w5 w3.heap.size 0 0 := (box_new w3 0 0).kept hk6 (by have := HS3.out.tab.lt.2; omega); have x0 := hbx.cells.1; have x1 := hbx.cells.2; have f0 := hbx.frozen 0; have f1 := hbx.frozen 1; have hxl := hbx.lt; have HBX := hide hbx; have HT5 := hide ht5; have HK5 := hide hk5'; clear ht5 hk5 hk5' hb5 hk6 hbx))
            · obtain ⟨es6, hes6⟩ : ∃ es6, es6 = es.set i0 { e0 with st := 1, k := kk, n := nn } := ⟨_, rfl⟩
              obtain ⟨b6, hb6⟩ : ∃ b6, b6 = w5.heap.size := ⟨_, rfl⟩
              obtain ⟨W6, hW6⟩ : ∃ W6, W6 = w5.alloc (boxH i0 e0.gen) := ⟨_, rfl⟩
              have HS6 : Hid (ApS w W6 g n es6 (.slice av l.length cv) l (k + 1)) := by
                rw [hW6, hes6]
                exact (HS3.out.opened hgw kk nn HE0.out HS0.out HT5.out HK5.out).alloc _
              have X6 : Hid (Box W6 b6 i0 e0.gen) := by rw [hW6, hb6]; exact box_new _ _ _
              rw [← hW6, ← hb6]
              clear hW6 hb6
              have HO6 : Hid (es6[i0]? = some { e0 with st := 1, k := kk, n := nn }) := by rw [hes6]; exact set_at HE0.out _
              have HFr := hide (HS3.out.fresh HE0.out HS0.out)
              clear hes6 HT5 HK5
              obtain ⟨x0, x1⟩ := X6.out.cells
              have hx6 := X6.out.lt
              have HL : Hid (Calls Try.prog 20 #[.pointer (some ⟨g + 1, 0, none⟩), hnd i0 e0.gen] W6 fun e w' => e = .returned (.tuple #[.int .i64 kk, .int .i64 nn, .int .i64 0]) ∧ Below W6.heap.size W6 w') := lookup_ok (g + 1) g es6 i0 _ W6 HS6.out.tab HO6.out rfl
              go_wp2_with fail
              refine HL.out.mono ?_
              rintro e w7 ⟨rfl, hb7⟩
              have HS7 : Hid (ApS w w7 g n es6 (.slice av l.length cv) l (k + 1)) := HS6.out.step hb7
              have X7 : Hid (Box w7 b6 i0 e0.gen) := X6.out.below hb7 X6.out.lt
              obtain ⟨y0, y1⟩ := X7.out.cells
              have hx7 := X7.out.lt
              obtain ⟨_, _, _, r3, r4⟩ := HX.out.below HS7.out.below hAl
              simp only at r3 r4
              have hfew : l.length ≤ k := HS3.out.few
              clear hb7 HL HS6 X6 x0 x1 q3 q4 q3' q4'
              go_wp2_with fail
              go_loopw [15] (fun i wx => ∃ j c : Nat, j ≤ l.length ∧ i = .int .i64 j ∧ Hid (wx = w7.drewN c)) (fun i _ => l.length - (intOf i).toNat)
              case atStart => exact ⟨0, 0, Nat.zero_le _, rfl, rfl⟩
              case round =>
                obtain ⟨j, c, hj, rfl, HW⟩ := hrel
                have hwx := HW.out
                subst hwx
                by_cases hjl : j < l.length
                · obtain ⟨b, cc, hv, hlc, hb, hbl, hcells⟩ := HS7.out.row.lies (by omega)
                  simp only [Value.slice.injEq, true_and] at hv
                  obtain ⟨e1, e2⟩ := hv
                  subst e1 e2
                  obtain ⟨p, hp⟩ : ∃ p, l[j]? = some p := ⟨_, List.getElem?_eq_getElem hjl⟩
                  obtain ⟨s0, s1⟩ := hcells j p hp
                  have hne := HFr.out p (List.mem_of_getElem? hp)
                  obtain ⟨pi, pg⟩ := p
                  simp only at s0 s1 hne
                  have HNE := hide hne
                  clear hcells hp hne
                  by_cases hpi : pi = i0
                  · have hpg : ¬ (pg : Int) = (e0.gen : Int) := fun h => HNE.out ⟨hpi, by omega⟩
                    subst hpi
                    go_wp2_with fail
                    go_quiet (fail)
                    go_wp2_with fail
                    go_roundw
                    case rel => exact ⟨j + 1, _, by omega, by go_num, rfl⟩
                    case measure => simp [intOf]; omega
                  · have hpi' : ¬ (pi : Int) = (i0 : Int) := fun h => hpi (by omega)
                    go_wp2_with fail
                    go_quiet (fail)
                    go_wp2_with fail
                    go_roundw
                    case rel => exact ⟨j + 1, _, by omega, by go_num, rfl⟩
                    case measure => simp [intOf]; omega
                · obtain rfl : j = l.length := by omega
                  obtain ⟨W8, hW8⟩ : ∃ W8, W8 = w7.drewN c := ⟨_, rfl⟩
                  rw [← hW8]
                  have HS8 : Hid (ApS w W8 g n es6 (.slice av l.length cv) l (k + 1)) := by
                    rw [hW8]
                    exact HS7.out.step ⟨rfl, rfl, rfl, Nat.le_refl _, fun _ _ => rfl⟩
                  have X8 : Hid (Box W8 b6 i0 e0.gen) := by rw [hW8]; exact X7.out
                  obtain ⟨z0, z1⟩ := X8.out.cells
                  have hx8 := X8.out.lt
                  have hg8 : g + 2 ≤ W8.heap.size := by have := HS8.out.tab.lt.1; omega
                  obtain ⟨v', w', hr, hi', hb', _, _, _⟩ := app_pair (w := W8) hg8 (Below.refl (g + 2) W8) HS8.out.row (i0, e0.gen) (by omega)
                  have HS9 : Hid (ApS w w' g n es6 v' (l ++ [(i0, e0.gen)]) (k + 1)) := by
                    refine ⟨HS8.out.tab.below hb' (by omega) (by omega), HS8.out.len, hi', fun p hp => ?_, HS8.out.young, by simp; omega, HS8.out.below.trans (hb'.mono (by omega))⟩
                    rcases List.mem_append.1 hp with hp | hp
                    · exact HS8.out.given p hp
                    · simp at hp
                      subst hp
                      exact ⟨_, HO6.out, Or.inr ⟨rfl, rfl⟩⟩
                  have HR := hide hr
                  clear hr hi' hb' hW8
                  go_wp2_with (at_builtin; refine wpList_app_run _ rfl _ _ 40 40 rfl _ _ rfl rfl HR.out ?_)
                  go_roundw
                  case rel => exact ⟨k + 1, es6, _, by omega, by go_num, HS9⟩
                  case measure => simp [intOf]; omega

            · obtain ⟨es6, hes6⟩ : ∃ es6, es6 = es.set i0 { e0 with st := 1, k := kk, n := nn } := ⟨_, rfl⟩
              obtain ⟨W6, hW6⟩ : ∃ W6, W6 = (w5.setCell ⟨w3.heap.size, 0, none⟩ (.int .i64 (i0 : Nat))).setCell ⟨w3.heap.size, 1, none⟩ (.int .i64 (e0.gen : Nat)) := ⟨_, rfl⟩
              have HS6 : Hid (ApS w W6 g n es6 (.slice av l.length cv) l (k + 1)) := by
                rw [hW6, hes6]
                have hl3 := HS3.out.tab.lt
                exact HS3.out.opened hgw kk nn HE0.out HS0.out (HT5.out.keep ((Below.heap_setCell _ _ _ _ (by simp; omega)).trans (Below.heap_setCell _ _ _ _ (by simp; omega))) ((Below.heap_setCell _ _ _ _ (by simp; omega)).trans (Below.heap_setCell _ _ _ _ (by simp; omega)))) (kept_over (kept_over HK5.out _ (Nat.le_refl _) _ _) _ (Nat.le_refl _) _ _)
              have X6 : Hid (Box W6 w3.heap.size i0 e0.gen) := by rw [hW6]; exact box_set HBX.out _ _
              rw [← hW6]
              clear hW6 x0 x1 f0 f1
              obtain ⟨b6, hb6⟩ : ∃ b6, b6 = w3.heap.size := ⟨_, rfl⟩
              rw [← hb6] at X6 ⊢
              clear hb6
              have HO6 : Hid (es6[i0]? = some { e0 with st := 1, k := kk, n := nn }) := by rw [hes6]; exact set_at HE0.out _
              have HFr := hide (HS3.out.fresh HE0.out HS0.out)
              clear hes6 HT5 HK5
              obtain ⟨x0, x1⟩ := X6.out.cells
              have hx6 := X6.out.lt
              have HL : Hid (Calls Try.prog 20 #[.pointer (some ⟨g + 1, 0, none⟩), hnd i0 e0.gen] W6 fun e w' => e = .returned (.tuple #[.int .i64 kk, .int .i64 nn, .int .i64 0]) ∧ Below W6.heap.size W6 w') := lookup_ok (g + 1) g es6 i0 _ W6 HS6.out.tab HO6.out rfl
              go_wp2_with fail
              refine HL.out.mono ?_
              rintro e w7 ⟨rfl, hb7⟩
              have HS7 : Hid (ApS w w7 g n es6 (.slice av l.length cv) l (k + 1)) := HS6.out.step hb7
              have X7 : Hid (Box w7 b6 i0 e0.gen) := X6.out.below hb7 X6.out.lt
              obtain ⟨y0, y1⟩ := X7.out.cells
              have hx7 := X7.out.lt
              obtain ⟨_, _, _, r3, r4⟩ := HX.out.below HS7.out.below hAl
              simp only at r3 r4
              have hfew : l.length ≤ k := HS3.out.few
              clear hb7 HL HS6 X6 x0 x1 q3 q4 q3' q4'
              go_wp2_with fail
              go_loopw [15] (fun i wx => ∃ j c : Nat, j ≤ l.length ∧ i = .int .i64 j ∧ Hid (wx = w7.drewN c)) (fun i _ => l.length - (intOf i).toNat)
              case atStart => exact ⟨0, 0, Nat.zero_le _, rfl, rfl⟩
              case round =>
                obtain ⟨j, c, hj, rfl, HW⟩ := hrel
                have hwx := HW.out
                subst hwx
                by_cases hjl : j < l.length
                · obtain ⟨b, cc, hv, hlc, hb, hbl, hcells⟩ := HS7.out.row.lies (by omega)
                  simp only [Value.slice.injEq, true_and] at hv
                  obtain ⟨e1, e2⟩ := hv
                  subst e1 e2
                  obtain ⟨p, hp⟩ : ∃ p, l[j]? = some p := ⟨_, List.getElem?_eq_getElem hjl⟩
                  obtain ⟨s0, s1⟩ := hcells j p hp
                  have hne := HFr.out p (List.mem_of_getElem? hp)
                  obtain ⟨pi, pg⟩ := p
                  simp only at s0 s1 hne
                  have HNE := hide hne
                  clear hcells hp hne
                  by_cases hpi : pi = i0
                  · have hpg : ¬ (pg : Int) = (e0.gen : Int) := fun h => HNE.out ⟨hpi, by omega⟩
                    subst hpi
                    go_wp2_with fail
                    go_quiet (fail)
                    go_wp2_with fail
                    go_roundw
                    case rel => exact ⟨j + 1, _, by omega, by go_num, rfl⟩
                    case measure => simp [intOf]; omega
                  · have hpi' : ¬ (pi : Int) = (i0 : Int) := fun h => hpi (by omega)
                    go_wp2_with fail
                    go_quiet (fail)
                    go_wp2_with fail
                    go_roundw
                    case rel => exact ⟨j + 1, _, by omega, by go_num, rfl⟩
                    case measure => simp [intOf]; omega
                · obtain rfl : j = l.length := by omega
                  obtain ⟨W8, hW8⟩ : ∃ W8, W8 = w7.drewN c := ⟨_, rfl⟩
                  rw [← hW8]
                  have HS8 : Hid (ApS w W8 g n es6 (.slice av l.length cv) l (k + 1)) := by
                    rw [hW8]
                    exact HS7.out.step ⟨rfl, rfl, rfl, Nat.le_refl _, fun _ _ => rfl⟩
                  have X8 : Hid (Box W8 b6 i0 e0.gen) := by rw [hW8]; exact X7.out
                  obtain ⟨z0, z1⟩ := X8.out.cells
                  have hx8 := X8.out.lt
                  have hg8 : g + 2 ≤ W8.heap.size := by have := HS8.out.tab.lt.1; omega
                  obtain ⟨v', w', hr, hi', hb', _, _, _⟩ := app_pair (w := W8) hg8 (Below.refl (g + 2) W8) HS8.out.row (i0, e0.gen) (by omega)
                  have HS9 : Hid (ApS w w' g n es6 v' (l ++ [(i0, e0.gen)]) (k + 1)) := by
                    refine ⟨HS8.out.tab.below hb' (by omega) (by omega), HS8.out.len, hi', fun p hp => ?_, HS8.out.young, by simp; omega, HS8.out.below.trans (hb'.mono (by omega))⟩
                    rcases List.mem_append.1 hp with hp | hp
                    · exact HS8.out.given p hp
                    · simp at hp
                      subst hp
                      exact ⟨_, HO6.out, Or.inr ⟨rfl, rfl⟩⟩
                  have HR := hide hr
                  clear hr hi' hb' hW8
                  go_wp2_with (at_builtin; refine wpList_app_run _ rfl _ _ 40 40 rfl _ _ rfl rfl HR.out ?_)
                  go_roundw
                  case rel => exact ⟨k + 1, es6, _, by omega, by go_num, HS9⟩
                  case measure => simp [intOf]; omega

          · have hf2 : lst es = es.length := by have := lst_le es; omega
            have HF2 := hide hf2
            clear hf hf2
            have hAne : A ≠ w3.heap.size := by have := HS3.out.below.size; omega
            have hAne' : ¬ w3.heap.size = A := fun h => hAne h.symm
            have hAne'' : ¬ A = w3.heap.size := hAne
            go_wp2_with fail
            go_region_held3 (fun w' => w'.cell? ⟨A, o + k * 5 + 3, none⟩ = some (.int .i64 kk) ∧ w'.cell? ⟨A, o + k * 5 + 4, none⟩ = some (.int .i64 nn)) (go_keep) (first
              | (go_at_call 13; refine (open_full (g + 1) g es kk nn _ ?_ HF2.out).mono ?_; exact HS3.out.tab.keep rfl rfl; rintro e w5 ⟨rfl, hbb⟩; have hbb' : Below w3.heap.size w3 w5 := ⟨hbb.os, hbb.tape, hbb.output, hbb.size, hbb.block⟩; have hb5 : Below w.heap.size w w5 := HS3.out.below.trans (hbb'.mono HS3.out.below.size); have q3' : w5.cell? ⟨A, o + k * 5 + 3, none⟩ = some (.int .i64 kk) := (hb5.cell (p := ⟨A, o + k * 5 + 3, none⟩) hAl).trans HX.out.c3; have q4' : w5.cell? ⟨A, o + k * 5 + 4, none⟩ = some (.int .i64 nn) := (hb5.cell (p := ⟨A, o + k * 5 + 4, none⟩) hAl).trans HX.out.c4; have HK5 := hide hbb'; clear hbb hbb' hb5)
              | (go_at_call 13; refine (open_full (g + 1) g es kk nn _ ?_ HF2.out).mono ?_; exact (HS3.out.alloc (boxH 0 0)).tab.keep rfl rfl; rintro e w5 ⟨rfl, hbb⟩; have hbb2 : Below (w3.alloc (boxH 0 0)).heap.size (w3.alloc (boxH 0 0)) w5 := ⟨hbb.os, hbb.tape, hbb.output, hbb.size, hbb.block⟩; have hbb' : Below w3.heap.size w3 w5 := below_new _ hbb2; have hb5 : Below w.heap.size w w5 := HS3.out.below.trans (hbb'.mono HS3.out.below.size); have q3' : w5.cell? ⟨A, o + k * 5 + 3, none⟩ = some (.int .i64 kk) := (hb5.cell (p := ⟨A, o + k * 5 + 3, none⟩) hAl).trans HX.out.c3; have q4' : w5.cell? ⟨A, o + k * 5 + 4, none⟩ = some (.int .i64 nn) := (hb5.cell (p := ⟨A, o + k * 5 + 4, none⟩) hAl).trans HX.out.c4; have hbx : Box w5 w3.heap.size 0 0 := (box_new w3 0 0).below hbb2 (by simp); have x0 := hbx.cells.1; have x1 := hbx.cells.2; have f0 := hbx.frozen 0; have f1 := hbx.frozen 1; have hxl := hbx.lt; have HK5 := hide hbb'; clear hbb hbb' hb5 hbb2 hbx))
            · obtain ⟨W6, hW6⟩ : ∃ W6, W6 = w5.alloc (boxH 0 0) := ⟨_, rfl⟩
              have HS6 : Hid (ApS w W6 g n es (.slice av l.length cv) l (k + 1)) := by
                rw [hW6]
                exact ((HS3.out.step HK5.out).alloc _).next
              rw [← hW6]
              clear hW6
              have HU := hide (used_at (g + 1) g es W6 HS6.out.tab)
              rw [HS3.out.full HF2.out] at HU
              clear HK5
              go_wp2_with fail
              refine HU.out.mono ?_
              rintro e w7 ⟨rfl, hb7⟩
              have HS7 : Hid (ApS w w7 g n es (.slice av l.length cv) l (k + 1)) := HS6.out.step hb7
              clear hb7 HU
              go_wp2_with fail
              refine (HN.out w7).mono ?_
              rintro e w8 ⟨rfl, rfl⟩
              go_wp2_with fail
              go_roundw
              case rel => exact ⟨k + 1, es, l, by omega, by go_num, HS7⟩
              case measure => simp [intOf]; omega

            · obtain ⟨W6, hW6⟩ : ∃ W6, W6 = (w5.setCell ⟨w3.heap.size, 0, none⟩ (.int .i64 0)).setCell ⟨w3.heap.size, 1, none⟩ (.int .i64 0) := ⟨_, rfl⟩
              have HS6 : Hid (ApS w W6 g n es (.slice av l.length cv) l (k + 1)) := by
                rw [hW6]
                exact (HS3.out.step (below_over (below_over HK5.out _ (Nat.le_refl _) _ _) _ (Nat.le_refl _) _ _)).next
              rw [← hW6]
              clear hW6 x0 x1 f0 f1
              have HU := hide (used_at (g + 1) g es W6 HS6.out.tab)
              rw [HS3.out.full HF2.out] at HU
              clear HK5
              go_wp2_with fail
              refine HU.out.mono ?_
              rintro e w7 ⟨rfl, hb7⟩
              have HS7 : Hid (ApS w w7 g n es (.slice av l.length cv) l (k + 1)) := HS6.out.step hb7
              clear hb7 HU
              go_wp2_with fail
              refine (HN.out w7).mono ?_
              rintro e w8 ⟨rfl, rfl⟩
              go_wp2_with fail
              go_roundw
              case rel => exact ⟨k + 1, es, l, by omega, by go_num, HS7⟩
              case measure => simp [intOf]; omega

    · go_wp2_with fail
      go_ret
      exact ⟨rfl, HS1.out.below⟩

end Go.Proofs.Ythfkjephnhnpoaa
