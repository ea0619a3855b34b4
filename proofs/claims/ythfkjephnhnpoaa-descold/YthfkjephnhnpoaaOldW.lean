/-
  The walk of DescOld: for all arguments the call answers true and leaves what was there; no conditions.
-/
import Derived.Test.YthfkjephnhnpoaaU
set_option linter.unusedSimpArgs false
set_option linter.unusedVariables false
namespace Go.Proofs.Ythfkjephnhnpoaa
open Go.RowKit

/-- The table, the handles that are over, and the rest, between two rounds. -/
structure OldS (w wr : World) (g : Nat) (es : List En) (v : Value) (l : List (Nat × Nat)) (k : Nat) : Prop where
  tab : IsTab wr (g + 1) g es
  row : IsH wr (g + 2) v l
  gone : Gone es l
  few : l.length ≤ k
  below : Below w.heap.size w wr

theorem OldS.step {w wr wx : World} {g k : Nat} {es : List En} {v : Value} {l : List (Nat × Nat)} (s : OldS w wr g es v l k) (h : Below wr.heap.size wr wx) : OldS w wx g es v l k :=
  ⟨s.tab.below h s.tab.lt.1 s.tab.lt.2, s.row.keep fun i _ hi => h.block i hi, s.gone, s.few, s.below.trans (h.mono s.below.size)⟩
theorem OldS.alloc {w wr : World} {g k : Nat} {es : List En} {v : Value} {l : List (Nat × Nat)} (s : OldS w wr g es v l k) (o : Obj) : OldS w (wr.alloc o) g es v l k := s.step ((Below.refl _ _).alloc (Nat.le_refl _) _)
theorem OldS.put {w wr wx : World} {g k : Nat} {es : List En} {v : Value} {l : List (Nat × Nat)} (s : OldS w wr g es v l k) (hg : w.heap.size ≤ g) {i : Nat} {e e' : En} (he : es[i]? = some e) (hle : e.gen ≤ e'.gen)
    (ht : IsTab wx (g + 1) g (es.set i e')) (hk : Kept g g wr wx) : OldS w wx g (es.set i e') v l k :=
  ⟨ht, s.row.keep fun j h1 h2 => hk.block j h2 (by omega) (by omega), s.gone.set he hle, s.few, s.below.trans (hk.below hg hg s.below.size)⟩

set_option maxRecDepth 100000 in
set_option maxHeartbeats 1000000 in
theorem old_walk (a0 : Int) (a1 : Option Addr) (len1 cap1 : Nat) (a2 : Int) (w : World) (hA : IsActs w a1 len1 cap1) : Calls Try.prog 4 #[.int .i64 a0, .slice a1 len1 cap1, .int .i64 a2] w fun e w' => e = .returned (.bool true) ∧ Below w.heap.size w w' := by
  have hlen : len1 ≤ 3518437208883 := Nat.le_trans hA.1 hA.2.1
  have HA := hide hA.2.2
  clear hA
  go_enter Try.func4, Try.ntmps4
  go_wp2_with fail
  refine (works_at w).mono ?_
  rintro e w1 ⟨rfl, hb1⟩
  have HB1 := hide hb1
  clear hb1
  go_wp2_with fail
  refine (among a0 12 (by omega) (by omega) w1).mono ?_
  rintro e w2 ⟨n, hn, rfl, rfl⟩
  go_wp2_with fail
  refine (new_good n w1 (by omega)).mono ?_
  rintro e w2 ⟨rfl, ht2, hb2⟩
  obtain ⟨g, hg⟩ : ∃ g, g = w1.heap.size := ⟨_, rfl⟩
  rw [← hg] at ht2 hb2 ⊢
  have hgw : w.heap.size ≤ g := by rw [hg]; exact HB1.out.size
  have HB2 : Hid (Below w.heap.size w w2) := HB1.out.trans (hb2.mono hgw)
  have hg2 : g + 2 ≤ w2.heap.size := by have := ht2.lt.1; omega
  have HS : Hid (OldS w (w2.alloc (.cells #[] 32)) g (List.replicate n freshE) (.slice (some ⟨w2.heap.size, 0, none⟩) 0 0) [] 0) :=
    ⟨ht2.alloc _, own_new w2 _ hg2, fun p hp => (by cases hp), Nat.le_refl _, HB2.out.alloc HB2.out.size _⟩
  have HG := hide hg
  clear hg ht2 hb2 HB2
  go_wp2_with fail
  go_loopw [9, 10] (fun v i wr => ∃ (k : Nat) (es : List En) (l : List (Nat × Nat)), k ≤ len1 ∧ i = .int .i64 k ∧ Hid (OldS w wr g es v l k)) (fun _ i _ => len1 - (intOf i).toNat)
  case atStart => exact ⟨0, _, _, Nat.zero_le _, rfl, HS⟩
  case round =>
    obtain ⟨k, es, l, hk, rfl, HS1⟩ := hrel
    clear HS
    by_cases hlt : k < len1
    · obtain ⟨A, o, e2, hAl, hacts⟩ := HA.out (by omega)
      subst e2
      obtain ⟨x, hx⟩ := hacts k hlt
      obtain ⟨d, px, py, kk, nn⟩ := x
      have HX := hide hx
      clear hacts hx
      go_wp2_with fail
      refine (live_at (g + 1) g es wr HS1.out.tab).mono ?_
      rintro e w3 ⟨vl, rfl, hh3, hb3⟩
      have HS3 : Hid (OldS w w3 g es u9 l k) := HS1.out.step hb3
      have HH3 := hide hh3
      clear hh3 hb3
      obtain ⟨av, cv, hv⟩ := HS3.out.row.shape
      obtain ⟨al, cl, hvl⟩ := HH3.out.shape
      subst hv hvl
      obtain ⟨m, hm⟩ : ∃ m, m = (live es es.length).length := ⟨_, rfl⟩
      rw [← hm]
      have hm' : m ≤ 4096 := by rw [hm]; exact Nat.le_trans (live_le _ _) HS1.out.tab.max
      have HM := hide hm
      clear hm
      have q := HX.out.below HS3.out.below hAl
      obtain ⟨q0, q1, q2, q3, q4⟩ := q
      simp only at q0 q1 q2 q3 q4
      go_wp2_with fail
      refine (among d 2 (by omega) (by omega) w3).mono ?_
      rintro e w4 ⟨kd, hkd, rfl, rfl⟩
      by_cases hk0 : kd = 0
      · subst hk0
        by_cases hf : lst es < es.length
        · obtain ⟨e0, he0⟩ := get_lt hf
          obtain ⟨i0, hi0⟩ : ∃ i0, lst es = i0 := ⟨_, rfl⟩
          rw [hi0] at he0
          have HI0 := hide hi0
          have HE0 := hide he0
          clear hi0 he0 hf
          go_wp2_with fail
          go_region_held3 (fun w' => w'.cell? ⟨A, o + k * 5 + 3, none⟩ = some (.int .i64 kk) ∧ w'.cell? ⟨A, o + k * 5 + 4, none⟩ = some (.int .i64 nn)) (go_keep) (first
            | (go_at_call 13; refine (open_ok (g + 1) g es i0 e0 kk nn _ ?_ HI0.out HE0.out).mono ?_; exact HS3.out.tab.keep rfl rfl; rintro e w5 ⟨rfl, ht5, hk5⟩; have hk5' : Kept g g w3 w5 := ⟨hk5.os, hk5.tape, hk5.output, hk5.size, hk5.block⟩; have hb5 : Below w.heap.size w w5 := HS3.out.below.trans (hk5'.below hgw hgw HS3.out.below.size); have q3' : w5.cell? ⟨A, o + k * 5 + 3, none⟩ = some (.int .i64 kk) := (hb5.cell (p := ⟨A, o + k * 5 + 3, none⟩) hAl).trans HX.out.c3; have q4' : w5.cell? ⟨A, o + k * 5 + 4, none⟩ = some (.int .i64 nn) := (hb5.cell (p := ⟨A, o + k * 5 + 4, none⟩) hAl).trans HX.out.c4; have HT5 := hide ht5; have HK5 := hide hk5'; clear ht5 hk5 hk5' hb5))
          have HS5 : Hid (OldS w w5 g (es.set i0 { e0 with st := 1, k := kk, n := nn }) (.slice av l.length cv) l (k + 1)) := by
            have := HS3.out.put hgw HE0.out (e' := { e0 with st := 1, k := kk, n := nn }) (Nat.le_refl _) HT5.out HK5.out
            exact { this with few := Nat.le_succ_of_le this.few }
          obtain ⟨es5, hes5⟩ : ∃ es5, es5 = es.set i0 { e0 with st := 1, k := kk, n := nn } := ⟨_, rfl⟩
          rw [← hes5] at HS5
          clear hes5 HT5 HK5
          by_cases h0 : l.length = 0
          · go_wp2_with fail
            go_roundw
            case rel => exact ⟨k + 1, es5, l, by omega, by go_num, HS5⟩
            case measure => simp [intOf]; omega
          · obtain ⟨b, c, hv, hlc, hb, hbl, hcells⟩ := HS5.out.row.lies (by omega)
            simp only [Value.slice.injEq, true_and] at hv
            obtain ⟨e1, e2⟩ := hv
            subst e1 e2
            have hLk := HS5.out.few
            have HCells := hide hcells
            clear hcells
            go_wp2_with fail
            refine (among a2 l.length (by omega) (by omega) w5).mono ?_
            rintro e v1 ⟨q, hq, rfl, rfl⟩
            obtain ⟨p, hp⟩ : ∃ p, l[q]? = some p := ⟨_, List.getElem?_eq_getElem hq⟩
            obtain ⟨s0, s1⟩ := HCells.out q p hp
            have hcode := HS5.out.gone.code (List.mem_of_getElem? hp)
            obtain ⟨pi, pg⟩ := p
            simp only at s0 s1 hcode
            have hwz : w.heap.size ≤ w5.heap.size := HS5.out.below.size
            have HL := hide (lookup_bad (g + 1) g es5 pi pg _ (HS5.out.tab.alloc (boxH pi pg)) (by rw [hcode]; decide))
            rw [hcode] at HL
            have HC := hide hcode
            clear hcode hp
            go_wp2_with fail
            refine HL.out.mono ?_
            rintro e v2 ⟨rfl, hb2⟩
            have T2 : Hid (OldS w v2 g es5 (.slice (some ⟨b, 0, none⟩) l.length cv) l (k + 1)) := (HS5.out.alloc (boxH pi pg)).step hb2
            have X2 : Hid (Box v2 w5.heap.size pi pg) := (box_new w5 pi pg).below hb2 (by simp)
            obtain ⟨x0, x1⟩ := X2.out.cells
            have HSt := hide (set_bad (g + 1) g es5 pi pg 1 1 v2 T2.out.tab (by rw [HC.out]; decide))
            rw [HC.out] at HSt
            clear hb2 HL s0 s1
            go_wp2_with fail
            refine HSt.out.mono ?_
            rintro e v3 ⟨rfl, hb3⟩
            have T3 : Hid (OldS w v3 g es5 (.slice (some ⟨b, 0, none⟩) l.length cv) l (k + 1)) := T2.out.step hb3
            have X3 : Hid (Box v3 w5.heap.size pi pg) := X2.out.below hb3 X2.out.lt
            obtain ⟨x0, x1⟩ := X3.out.cells
            have HCl := hide (close_bad (g + 1) g es5 pi pg v3 T3.out.tab (by rw [HC.out]; decide))
            rw [HC.out] at HCl
            clear hb3 HSt T2 X2
            go_wp2_with fail
            refine HCl.out.mono ?_
            rintro e v4 ⟨rfl, hb4⟩
            have T4 : Hid (OldS w v4 g es5 (.slice (some ⟨b, 0, none⟩) l.length cv) l (k + 1)) := T3.out.step hb4
            clear hb4 HCl
            go_wp2_with fail
            go_roundw
            case rel => exact ⟨k + 1, es5, l, by omega, by go_num, T4⟩
            case measure => simp [intOf]; omega
        · have hf2 : lst es = es.length := by have := lst_le es; omega
          have HF2 := hide hf2
          clear hf hf2
          go_wp2_with fail
          go_region_held3 (fun w' => w'.cell? ⟨A, o + k * 5 + 3, none⟩ = some (.int .i64 kk) ∧ w'.cell? ⟨A, o + k * 5 + 4, none⟩ = some (.int .i64 nn)) (go_keep) (first
            | (go_at_call 13; refine (open_full (g + 1) g es kk nn _ ?_ HF2.out).mono ?_; exact HS3.out.tab.keep rfl rfl; rintro e w5 ⟨rfl, hbb⟩; have hbb' : Below w3.heap.size w3 w5 := ⟨hbb.os, hbb.tape, hbb.output, hbb.size, hbb.block⟩; have hb5 : Below w.heap.size w w5 := HS3.out.below.trans (hbb'.mono HS3.out.below.size); have q3' : w5.cell? ⟨A, o + k * 5 + 3, none⟩ = some (.int .i64 kk) := (hb5.cell (p := ⟨A, o + k * 5 + 3, none⟩) hAl).trans HX.out.c3; have q4' : w5.cell? ⟨A, o + k * 5 + 4, none⟩ = some (.int .i64 nn) := (hb5.cell (p := ⟨A, o + k * 5 + 4, none⟩) hAl).trans HX.out.c4; have HK5 := hide hbb'; clear hbb hbb' hb5))
          have HS5 : Hid (OldS w w5 g es (.slice av l.length cv) l (k + 1)) := by
            have := HS3.out.step HK5.out
            exact { this with few := Nat.le_succ_of_le this.few }
          clear HK5
          by_cases h0 : l.length = 0
          · go_wp2_with fail
            go_roundw
            case rel => exact ⟨k + 1, es, l, by omega, by go_num, HS5⟩
            case measure => simp [intOf]; omega
          · obtain ⟨b, c, hv, hlc, hb, hbl, hcells⟩ := HS5.out.row.lies (by omega)
            simp only [Value.slice.injEq, true_and] at hv
            obtain ⟨e1, e2⟩ := hv
            subst e1 e2
            have hLk := HS5.out.few
            have HCells := hide hcells
            clear hcells
            go_wp2_with fail
            refine (among a2 l.length (by omega) (by omega) w5).mono ?_
            rintro e v1 ⟨q, hq, rfl, rfl⟩
            obtain ⟨p, hp⟩ : ∃ p, l[q]? = some p := ⟨_, List.getElem?_eq_getElem hq⟩
            obtain ⟨s0, s1⟩ := HCells.out q p hp
            have hcode := HS5.out.gone.code (List.mem_of_getElem? hp)
            obtain ⟨pi, pg⟩ := p
            simp only at s0 s1 hcode
            have hwz : w.heap.size ≤ w5.heap.size := HS5.out.below.size
            have HL := hide (lookup_bad (g + 1) g es pi pg _ (HS5.out.tab.alloc (boxH pi pg)) (by rw [hcode]; decide))
            rw [hcode] at HL
            have HC := hide hcode
            clear hcode hp
            go_wp2_with fail
            refine HL.out.mono ?_
            rintro e v2 ⟨rfl, hb2⟩
            have T2 : Hid (OldS w v2 g es (.slice (some ⟨b, 0, none⟩) l.length cv) l (k + 1)) := (HS5.out.alloc (boxH pi pg)).step hb2
            have X2 : Hid (Box v2 w5.heap.size pi pg) := (box_new w5 pi pg).below hb2 (by simp)
            obtain ⟨x0, x1⟩ := X2.out.cells
            have HSt := hide (set_bad (g + 1) g es pi pg 1 1 v2 T2.out.tab (by rw [HC.out]; decide))
            rw [HC.out] at HSt
            clear hb2 HL s0 s1
            go_wp2_with fail
            refine HSt.out.mono ?_
            rintro e v3 ⟨rfl, hb3⟩
            have T3 : Hid (OldS w v3 g es (.slice (some ⟨b, 0, none⟩) l.length cv) l (k + 1)) := T2.out.step hb3
            have X3 : Hid (Box v3 w5.heap.size pi pg) := X2.out.below hb3 X2.out.lt
            obtain ⟨x0, x1⟩ := X3.out.cells
            have HCl := hide (close_bad (g + 1) g es pi pg v3 T3.out.tab (by rw [HC.out]; decide))
            rw [HC.out] at HCl
            clear hb3 HSt T2 X2
            go_wp2_with fail
            refine HCl.out.mono ?_
            rintro e v4 ⟨rfl, hb4⟩
            have T4 : Hid (OldS w v4 g es (.slice (some ⟨b, 0, none⟩) l.length cv) l (k + 1)) := T3.out.step hb4
            clear hb4 HCl
            go_wp2_with fail
            go_roundw
            case rel => exact ⟨k + 1, es, l, by omega, by go_num, T4⟩
            case measure => simp [intOf]; omega
      · obtain rfl : kd = 1 := by omega
        by_cases hm0 : m = 0
        · subst hm0
          by_cases hf : lst es < es.length
          · obtain ⟨e0, he0⟩ := get_lt hf
            obtain ⟨i0, hi0⟩ : ∃ i0, lst es = i0 := ⟨_, rfl⟩
            rw [hi0] at he0
            have HI0 := hide hi0
            have HE0 := hide he0
            clear hi0 he0 hf
            go_wp2_with fail
            go_region_held3 (fun w' => w'.cell? ⟨A, o + k * 5 + 3, none⟩ = some (.int .i64 kk) ∧ w'.cell? ⟨A, o + k * 5 + 4, none⟩ = some (.int .i64 nn)) (go_keep) (first
              | (go_at_call 13; refine (open_ok (g + 1) g es i0 e0 kk nn _ ?_ HI0.out HE0.out).mono ?_; exact HS3.out.tab.keep rfl rfl; rintro e w5 ⟨rfl, ht5, hk5⟩; have hk5' : Kept g g w3 w5 := ⟨hk5.os, hk5.tape, hk5.output, hk5.size, hk5.block⟩; have hb5 : Below w.heap.size w w5 := HS3.out.below.trans (hk5'.below hgw hgw HS3.out.below.size); have q3' : w5.cell? ⟨A, o + k * 5 + 3, none⟩ = some (.int .i64 kk) := (hb5.cell (p := ⟨A, o + k * 5 + 3, none⟩) hAl).trans HX.out.c3; have q4' : w5.cell? ⟨A, o + k * 5 + 4, none⟩ = some (.int .i64 nn) := (hb5.cell (p := ⟨A, o + k * 5 + 4, none⟩) hAl).trans HX.out.c4; have HT5 := hide ht5; have HK5 := hide hk5'; clear ht5 hk5 hk5' hb5))
            have HS5 : Hid (OldS w w5 g (es.set i0 { e0 with st := 1, k := kk, n := nn }) (.slice av l.length cv) l (k + 1)) := by
              have := HS3.out.put hgw HE0.out (e' := { e0 with st := 1, k := kk, n := nn }) (Nat.le_refl _) HT5.out HK5.out
              exact { this with few := Nat.le_succ_of_le this.few }
            obtain ⟨es5, hes5⟩ : ∃ es5, es5 = es.set i0 { e0 with st := 1, k := kk, n := nn } := ⟨_, rfl⟩
            rw [← hes5] at HS5
            clear hes5 HT5 HK5
            by_cases h0 : l.length = 0
            · go_wp2_with fail
              go_roundw
              case rel => exact ⟨k + 1, es5, l, by omega, by go_num, HS5⟩
              case measure => simp [intOf]; omega
            · obtain ⟨b, c, hv, hlc, hb, hbl, hcells⟩ := HS5.out.row.lies (by omega)
              simp only [Value.slice.injEq, true_and] at hv
              obtain ⟨e1, e2⟩ := hv
              subst e1 e2
              have hLk := HS5.out.few
              have HCells := hide hcells
              clear hcells
              go_wp2_with fail
              refine (among a2 l.length (by omega) (by omega) w5).mono ?_
              rintro e v1 ⟨q, hq, rfl, rfl⟩
              obtain ⟨p, hp⟩ : ∃ p, l[q]? = some p := ⟨_, List.getElem?_eq_getElem hq⟩
              obtain ⟨s0, s1⟩ := HCells.out q p hp
              have hcode := HS5.out.gone.code (List.mem_of_getElem? hp)
              obtain ⟨pi, pg⟩ := p
              simp only at s0 s1 hcode
              have hwz : w.heap.size ≤ w5.heap.size := HS5.out.below.size
              have HL := hide (lookup_bad (g + 1) g es5 pi pg _ (HS5.out.tab.alloc (boxH pi pg)) (by rw [hcode]; decide))
              rw [hcode] at HL
              have HC := hide hcode
              clear hcode hp
              go_wp2_with fail
              refine HL.out.mono ?_
              rintro e v2 ⟨rfl, hb2⟩
              have T2 : Hid (OldS w v2 g es5 (.slice (some ⟨b, 0, none⟩) l.length cv) l (k + 1)) := (HS5.out.alloc (boxH pi pg)).step hb2
              have X2 : Hid (Box v2 w5.heap.size pi pg) := (box_new w5 pi pg).below hb2 (by simp)
              obtain ⟨x0, x1⟩ := X2.out.cells
              have HSt := hide (set_bad (g + 1) g es5 pi pg 1 1 v2 T2.out.tab (by rw [HC.out]; decide))
              rw [HC.out] at HSt
              clear hb2 HL s0 s1
              go_wp2_with fail
              refine HSt.out.mono ?_
              rintro e v3 ⟨rfl, hb3⟩
              have T3 : Hid (OldS w v3 g es5 (.slice (some ⟨b, 0, none⟩) l.length cv) l (k + 1)) := T2.out.step hb3
              have X3 : Hid (Box v3 w5.heap.size pi pg) := X2.out.below hb3 X2.out.lt
              obtain ⟨x0, x1⟩ := X3.out.cells
              have HCl := hide (close_bad (g + 1) g es5 pi pg v3 T3.out.tab (by rw [HC.out]; decide))
              rw [HC.out] at HCl
              clear hb3 HSt T2 X2
              go_wp2_with fail
              refine HCl.out.mono ?_
              rintro e v4 ⟨rfl, hb4⟩
              have T4 : Hid (OldS w v4 g es5 (.slice (some ⟨b, 0, none⟩) l.length cv) l (k + 1)) := T3.out.step hb4
              clear hb4 HCl
              go_wp2_with fail
              go_roundw
              case rel => exact ⟨k + 1, es5, l, by omega, by go_num, T4⟩
              case measure => simp [intOf]; omega
          · have hf2 : lst es = es.length := by have := lst_le es; omega
            have HF2 := hide hf2
            clear hf hf2
            go_wp2_with fail
            go_region_held3 (fun w' => w'.cell? ⟨A, o + k * 5 + 3, none⟩ = some (.int .i64 kk) ∧ w'.cell? ⟨A, o + k * 5 + 4, none⟩ = some (.int .i64 nn)) (go_keep) (first
              | (go_at_call 13; refine (open_full (g + 1) g es kk nn _ ?_ HF2.out).mono ?_; exact HS3.out.tab.keep rfl rfl; rintro e w5 ⟨rfl, hbb⟩; have hbb' : Below w3.heap.size w3 w5 := ⟨hbb.os, hbb.tape, hbb.output, hbb.size, hbb.block⟩; have hb5 : Below w.heap.size w w5 := HS3.out.below.trans (hbb'.mono HS3.out.below.size); have q3' : w5.cell? ⟨A, o + k * 5 + 3, none⟩ = some (.int .i64 kk) := (hb5.cell (p := ⟨A, o + k * 5 + 3, none⟩) hAl).trans HX.out.c3; have q4' : w5.cell? ⟨A, o + k * 5 + 4, none⟩ = some (.int .i64 nn) := (hb5.cell (p := ⟨A, o + k * 5 + 4, none⟩) hAl).trans HX.out.c4; have HK5 := hide hbb'; clear hbb hbb' hb5))
            have HS5 : Hid (OldS w w5 g es (.slice av l.length cv) l (k + 1)) := by
              have := HS3.out.step HK5.out
              exact { this with few := Nat.le_succ_of_le this.few }
            clear HK5
            by_cases h0 : l.length = 0
            · go_wp2_with fail
              go_roundw
              case rel => exact ⟨k + 1, es, l, by omega, by go_num, HS5⟩
              case measure => simp [intOf]; omega
            · obtain ⟨b, c, hv, hlc, hb, hbl, hcells⟩ := HS5.out.row.lies (by omega)
              simp only [Value.slice.injEq, true_and] at hv
              obtain ⟨e1, e2⟩ := hv
              subst e1 e2
              have hLk := HS5.out.few
              have HCells := hide hcells
              clear hcells
              go_wp2_with fail
              refine (among a2 l.length (by omega) (by omega) w5).mono ?_
              rintro e v1 ⟨q, hq, rfl, rfl⟩
              obtain ⟨p, hp⟩ : ∃ p, l[q]? = some p := ⟨_, List.getElem?_eq_getElem hq⟩
              obtain ⟨s0, s1⟩ := HCells.out q p hp
              have hcode := HS5.out.gone.code (List.mem_of_getElem? hp)
              obtain ⟨pi, pg⟩ := p
              simp only at s0 s1 hcode
              have hwz : w.heap.size ≤ w5.heap.size := HS5.out.below.size
              have HL := hide (lookup_bad (g + 1) g es pi pg _ (HS5.out.tab.alloc (boxH pi pg)) (by rw [hcode]; decide))
              rw [hcode] at HL
              have HC := hide hcode
              clear hcode hp
              go_wp2_with fail
              refine HL.out.mono ?_
              rintro e v2 ⟨rfl, hb2⟩
              have T2 : Hid (OldS w v2 g es (.slice (some ⟨b, 0, none⟩) l.length cv) l (k + 1)) := (HS5.out.alloc (boxH pi pg)).step hb2
              have X2 : Hid (Box v2 w5.heap.size pi pg) := (box_new w5 pi pg).below hb2 (by simp)
              obtain ⟨x0, x1⟩ := X2.out.cells
              have HSt := hide (set_bad (g + 1) g es pi pg 1 1 v2 T2.out.tab (by rw [HC.out]; decide))
              rw [HC.out] at HSt
              clear hb2 HL s0 s1
              go_wp2_with fail
              refine HSt.out.mono ?_
              rintro e v3 ⟨rfl, hb3⟩
              have T3 : Hid (OldS w v3 g es (.slice (some ⟨b, 0, none⟩) l.length cv) l (k + 1)) := T2.out.step hb3
              have X3 : Hid (Box v3 w5.heap.size pi pg) := X2.out.below hb3 X2.out.lt
              obtain ⟨x0, x1⟩ := X3.out.cells
              have HCl := hide (close_bad (g + 1) g es pi pg v3 T3.out.tab (by rw [HC.out]; decide))
              rw [HC.out] at HCl
              clear hb3 HSt T2 X2
              go_wp2_with fail
              refine HCl.out.mono ?_
              rintro e v4 ⟨rfl, hb4⟩
              have T4 : Hid (OldS w v4 g es (.slice (some ⟨b, 0, none⟩) l.length cv) l (k + 1)) := T3.out.step hb4
              clear hb4 HCl
              go_wp2_with fail
              go_roundw
              case rel => exact ⟨k + 1, es, l, by omega, by go_num, T4⟩
              case measure => simp [intOf]; omega
        · obtain ⟨b0, c0, hv0, hlc0, hb0, hbl0, hcells0⟩ := HH3.out.lies (by rw [← HM.out]; omega)
          rw [← HM.out] at hv0 hlc0
          simp only [Value.slice.injEq, true_and] at hv0
          obtain ⟨e1, e2⟩ := hv0
          subst e1 e2
          have HCells0 := hide hcells0
          clear hcells0
          go_wp2_with fail
          refine (among nn m (by omega) (by omega) w3).mono ?_
          rintro e v1 ⟨q, hq, rfl, rfl⟩
          obtain ⟨p, hp⟩ : ∃ p, (live es es.length)[q]? = some p := ⟨_, List.getElem?_eq_getElem (by rw [← HM.out]; exact hq)⟩
          obtain ⟨s0, s1⟩ := HCells0.out q p hp
          obtain ⟨_, e0, he0, hs0, hg0⟩ := live_mem es _ p (List.mem_of_getElem? hp)
          obtain ⟨pi, pg⟩ := p
          simp only at s0 s1 he0 hg0
          subst hg0
          have hone := (HS3.out.tab.ok pi e0 he0).one
          have HC := hide (close_ok (g + 1) g es pi e0 _ (HS3.out.tab.alloc (boxH pi e0.gen)) he0 hs0)
          have HE0 := hide he0
          clear he0 hs0 hp
          go_wp2_with fail
          refine HC.out.mono ?_
          rintro e w5 ⟨rfl, ht5, hk5⟩
          have X5 : Hid (Box w5 w3.heap.size pi e0.gen) := (box_new w3 pi e0.gen).kept hk5 (by have := HS3.out.tab.lt.2; omega)
          have P5 : Hid (OldS w w5 g (es.set pi (closed e0)) (.slice av l.length cv) l k) := (HS3.out.alloc (boxH pi e0.gen)).put hgw HE0.out (e' := closed e0) (Nat.le_succ _) ht5 hk5
          obtain ⟨x0, x1⟩ := X5.out.cells
          have hxl := X5.out.lt
          have hg5 : g + 2 ≤ w5.heap.size := by have := ht5.lt.1; omega
          obtain ⟨v', w', hr, hi', hb', _, _, _⟩ := app_pair (w := w5) hg5 (Below.refl (g + 2) w5) P5.out.row (pi, e0.gen) (by have := P5.out.few; omega)
          have HS6 : Hid (OldS w w' g (es.set pi (closed e0)) v' (l ++ [(pi, e0.gen)]) (k + 1)) := by
            refine ⟨P5.out.tab.below hb' (by omega) (by omega), hi', fun p hp => ?_, by have := P5.out.few; simp; omega, P5.out.below.trans (hb'.mono (by omega))⟩
            rcases List.mem_append.1 hp with hp | hp
            · exact P5.out.gone p hp
            · simp at hp
              subst hp
              exact ⟨hone, closed e0, set_at HE0.out _, Nat.lt_succ_self _⟩
          obtain ⟨L, hL⟩ : ∃ L, L = l ++ [(pi, e0.gen)] := ⟨_, rfl⟩
          rw [← hL] at HS6
          obtain ⟨es5, hes5⟩ : ∃ es5, es5 = es.set pi (closed e0) := ⟨_, rfl⟩
          rw [← hes5] at HS6
          have HR := hide hr
          clear hr hi' hb' ht5 hk5 HC P5 hes5 s0 s1
          have hL0 : 0 < L.length := by rw [hL]; simp
          have hL1 : ¬ L.length = 0 := by omega
          clear hL
          obtain ⟨b, c, hv, hlc, hb, hbl, hcells⟩ := HS6.out.row.lies (by omega)
          subst hv
          have hLk := HS6.out.few
          have HCells := hide hcells
          clear hcells
          go_wp2_with (at_builtin; refine wpList_app_run _ rfl _ _ 40 40 rfl _ _ rfl rfl HR.out ?_)
          refine (among a2 L.length (by omega) (by omega) w').mono ?_
          rintro e v1 ⟨q, hq, rfl, rfl⟩
          obtain ⟨p, hp⟩ : ∃ p, L[q]? = some p := ⟨_, List.getElem?_eq_getElem hq⟩
          obtain ⟨s0, s1⟩ := HCells.out q p hp
          have hcode := HS6.out.gone.code (List.mem_of_getElem? hp)
          obtain ⟨pi, pg⟩ := p
          simp only at s0 s1 hcode
          have hwz : w.heap.size ≤ w'.heap.size := HS6.out.below.size
          have HL := hide (lookup_bad (g + 1) g es5 pi pg _ (HS6.out.tab.alloc (boxH pi pg)) (by rw [hcode]; decide))
          rw [hcode] at HL
          have HC := hide hcode
          clear hcode hp
          go_wp2_with fail
          refine HL.out.mono ?_
          rintro e v2 ⟨rfl, hb2⟩
          have T2 : Hid (OldS w v2 g es5 (.slice (some ⟨b, 0, none⟩) L.length c) L (k + 1)) := (HS6.out.alloc (boxH pi pg)).step hb2
          have X2 : Hid (Box v2 w'.heap.size pi pg) := (box_new w' pi pg).below hb2 (by simp)
          obtain ⟨x0, x1⟩ := X2.out.cells
          have HSt := hide (set_bad (g + 1) g es5 pi pg 1 1 v2 T2.out.tab (by rw [HC.out]; decide))
          rw [HC.out] at HSt
          clear hb2 HL s0 s1
          go_wp2_with fail
          refine HSt.out.mono ?_
          rintro e v3 ⟨rfl, hb3⟩
          have T3 : Hid (OldS w v3 g es5 (.slice (some ⟨b, 0, none⟩) L.length c) L (k + 1)) := T2.out.step hb3
          have X3 : Hid (Box v3 w'.heap.size pi pg) := X2.out.below hb3 X2.out.lt
          obtain ⟨x0, x1⟩ := X3.out.cells
          have HCl := hide (close_bad (g + 1) g es5 pi pg v3 T3.out.tab (by rw [HC.out]; decide))
          rw [HC.out] at HCl
          clear hb3 HSt T2 X2
          go_wp2_with fail
          refine HCl.out.mono ?_
          rintro e v4 ⟨rfl, hb4⟩
          have T4 : Hid (OldS w v4 g es5 (.slice (some ⟨b, 0, none⟩) L.length c) L (k + 1)) := T3.out.step hb4
          clear hb4 HCl
          go_wp2_with fail
          go_roundw
          case rel => exact ⟨k + 1, es5, L, by omega, by go_num, T4⟩
          case measure => simp [intOf]; omega
    · go_wp2_with fail
      go_ret
      exact ⟨rfl, HS1.out.below⟩

end Go.Proofs.Ythfkjephnhnpoaa
