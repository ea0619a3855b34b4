/-
  A call of both, the table and the reference: they answer alike and stand alike behind it; conditions as each theorem has them.
-/
import Derived.Test.YthfkjephnhnpoaaP
set_option linter.unusedSimpArgs false
set_option linter.unusedVariables false
namespace Go.Proofs.Ythfkjephnhnpoaa
open Go.RowKit

/-- The table and the reference side by side. -/
structure Both (w : World) (r g y b : Nat) (es : List En) : Prop where
  tab : IsTab w r g es
  ref : RT w y b es
  ry : r ≠ y
  rb : r ≠ b
  gy : g ≠ y
  gb : g ≠ b

theorem Both.keep {w w' : World} {r g y b : Nat} {es : List En} (h : Both w r g y b es) (hk : ∀ k, k < w.heap.size → w'.heap[k]? = w.heap[k]?) : Both w' r g y b es :=
  { h with tab := h.tab.keep (hk r h.tab.lt.1) (hk g h.tab.lt.2), ref := h.ref.keep (hk y h.ref.lt.1) (hk b h.ref.lt.2) }
theorem Both.below {w w' : World} {r g y b : Nat} {es : List En} (h : Both w r g y b es) (k : Below w.heap.size w w') : Both w' r g y b es := h.keep fun i hi => k.block i hi
theorem Both.alloc {w : World} {r g y b : Nat} {es : List En} (h : Both w r g y b es) (o : Obj) : Both (w.alloc o) r g y b es := h.keep fun i hi => Below.heap_alloc _ _ _ hi

abbrev actV (d x z k n : Int) : Value := .agg #[.int .i64 d, .int .i64 x, .int .i64 z, .int .i64 k, .int .i64 n]
abbrev boxA (d x z k n : Int) : Obj := .cells #[.int .i64 d, .int .i64 x, .int .i64 z, .int .i64 k, .int .i64 n] 34
/-- A call's box. -/
def BoxA (w : World) (a : Nat) (d x z k n : Int) : Prop := w.heap[a]? = some (boxA d x z k n)
theorem BoxA.cells {w : World} {a : Nat} {d x z k n : Int} (h : BoxA w a d x z k n) : w.cell? ⟨a, 0, none⟩ = some (.int .i64 d) ∧ w.cell? ⟨a, 1, none⟩ = some (.int .i64 x) ∧ w.cell? ⟨a, 2, none⟩ = some (.int .i64 z) ∧ w.cell? ⟨a, 3, none⟩ = some (.int .i64 k) ∧ w.cell? ⟨a, 4, none⟩ = some (.int .i64 n) := by
  unfold BoxA at h
  refine ⟨?_, ?_, ?_, ?_, ?_⟩ <;> (simp only [World.cell?, h]; rfl)
theorem BoxA.lt {w : World} {a : Nat} {d x z k n : Int} (h : BoxA w a d x z k n) : a < w.heap.size := lt_of_some h

/-- What stands between the two calls of one statement. -/
structure Mid (w W : World) (r g y b a : Nat) (d x z k n : Int) (es es2 : List En) : Prop where
  tab : IsTab W r g es
  ref : RT W y b es2
  box : BoxA W a d x z k n
  kept : Kept g b w W

theorem Mid.tabStep {w W W' : World} {r g y b a : Nat} {d x z k n : Int} {es es2 es' : List En} (m : Mid w W r g y b a d x z k n es es2) (ht : IsTab W' r g es') (hk : Kept g g W W') (gy : g ≠ y) (gb : g ≠ b) (ag : a ≠ g) : Mid w W' r g y b a d x z k n es' es2 :=
  ⟨ht, m.ref.keep (hk.block y m.ref.lt.1 (Ne.symm gy) (Ne.symm gy)) (hk.block b m.ref.lt.2 (Ne.symm gb) (Ne.symm gb)), (hk.block a m.box.lt ag ag).trans m.box, m.kept.trans (hk.wide (Or.inl rfl))⟩
theorem Mid.refStep {w W W' : World} {r g y b a : Nat} {d x z k n : Int} {es es2 es' : List En} (m : Mid w W r g y b a d x z k n es es2) (ht : RT W' y b es') (hk : Kept b b W W') (rb : r ≠ b) (gb : g ≠ b) (ab : a ≠ b) : Mid w W' r g y b a d x z k n es es' :=
  ⟨m.tab.keep (hk.block r m.tab.lt.1 rb rb) (hk.block g m.tab.lt.2 gb gb), ht, (hk.block a m.box.lt ab ab).trans m.box, m.kept.trans (hk.wide (Or.inr rfl))⟩
theorem Mid.draw {w W W' : World} {r g y b a : Nat} {d x z k n : Int} {es es2 : List En} (m : Mid w W r g y b a d x z k n es es2) (hk : ∀ i, i < W.heap.size → W'.heap[i]? = W.heap[i]?) (hz : W.heap.size ≤ W'.heap.size) (h1 : W'.os = W.os) (h2 : W'.tape = W.tape) (h3 : W'.output = W.output) : Mid w W' r g y b a d x z k n es es2 :=
  ⟨m.tab.keep (hk _ m.tab.lt.1) (hk _ m.tab.lt.2), m.ref.keep (hk _ m.ref.lt.1) (hk _ m.ref.lt.2), (hk a m.box.lt).trans m.box, m.kept.trans ⟨h1, h2, h3, hz, fun i hi _ _ => hk i hi⟩⟩

theorem Mid.both {w W : World} {r g y b a : Nat} {d x z k n : Int} {es : List En} (m : Mid w W r g y b a d x z k n es es) {es0 : List En} (h : Both w r g y b es0) : Both W r g y b es := { h with tab := m.tab, ref := m.ref }

set_option maxRecDepth 100000 in
set_option maxHeartbeats 2000000 in
theorem play_at (r g y b : Nat) (es : List En) (d x z k n : Int) (w : World) (h : Both w r g y b es) :
    Calls Try.prog 14 #[.pointer (some ⟨r, 0, none⟩), .pointer (some ⟨y, 0, none⟩), actV d x z k n] w fun e w' => e = .returned (.bool true) ∧ (∃ es', Both w' r g y b es') ∧ Kept g b w w' := by
  obtain ⟨a, ha⟩ : ∃ a, a = w.heap.size := ⟨_, rfl⟩
  have hl := h.tab.lt
  have hl2 := h.ref.lt
  have ag : a ≠ g := by omega
  have ab : a ≠ b := by omega
  have HM : Hid (Mid w (w.alloc (boxA d x z k n)) r g y b a d x z k n es es) := by
    refine ⟨(h.alloc _).tab, (h.alloc _).ref, ?_, Kept.of_below ((Below.refl _ _).alloc (Nat.le_refl _) _)⟩
    rw [ha]; exact alloc_new _ _
  have H := hide h
  have rb := h.rb
  have gy := h.gy
  have gb := h.gb
  clear h
  go_enter Try.func14, Try.ntmps14
  go_wp2_with fail
  rw [← ha]
  clear ha
  obtain ⟨W0, hW0⟩ : ∃ W0, W0 = w.alloc (boxA d x z k n) := ⟨_, rfl⟩
  rw [← hW0] at HM ⊢
  clear hW0
  obtain ⟨c0, c1, c2, c3, c4⟩ := HM.out.box.cells
  refine (among d 5 (by omega) (by omega) W0).mono ?_
  rintro e v0 ⟨kd, hkd, rfl, rfl⟩
  by_cases k0 : kd = 0
  · subst k0
    obtain ⟨i0, hi0⟩ : ∃ i0, i0 = openI es := ⟨_, rfl⟩
    obtain ⟨g0, hg0⟩ : ∃ g0, g0 = openG es := ⟨_, rfl⟩
    obtain ⟨cc, hcc⟩ : ∃ cc, cc = openC es := ⟨_, rfl⟩
    have HO := hide (open_any r g es k n W0 HM.out.tab)
    rw [← hi0, ← hg0, ← hcc] at HO
    go_wp2_with fail
    refine HO.out.mono ?_
    rintro e w1 ⟨rfl, ht1, hk1⟩
    have M1 : Hid (Mid w (w1.alloc (boxH i0 g0)) r g y b a d x z k n (openE es k n) es) := (HM.out.tabStep ht1 hk1 gy gb ag).draw (fun i hi => Below.heap_alloc _ _ _ hi) (by simp) rfl rfl rfl
    have BX1 : Hid (Box (w1.alloc (boxH i0 g0)) w1.heap.size i0 g0) := box_new _ _ _
    obtain ⟨b1, hb1⟩ : ∃ b1, b1 = w1.heap.size := ⟨_, rfl⟩
    have hab : b1 ≠ b := by have := (HM.out.tabStep ht1 hk1 gy gb ag).ref.lt.2; omega
    obtain ⟨c0, c1, c2, c3, c4⟩ := (HM.out.tabStep ht1 hk1 gy gb ag).box.cells
    have hal := (HM.out.tabStep ht1 hk1 gy gb ag).box.lt
    have HO2 := hide (ropen_any y b es k n _ M1.out.ref)
    rw [← hi0, ← hg0, ← hcc] at HO2
    clear ht1 hk1 HO hi0 hg0 hcc
    go_wp2_with fail
    refine HO2.out.mono ?_
    rintro e w2 ⟨rfl, ht2, hk2⟩
    have M2 : Hid (Mid w (w2.alloc (boxH i0 g0)) r g y b a d x z k n (openE es k n) (openE es k n)) := (M1.out.refStep ht2 hk2 rb gb ab).draw (fun i hi => Below.heap_alloc _ _ _ hi) (by simp) rfl rfl rfl
    have BX2 : Hid (Box w2 w1.heap.size i0 g0) := BX1.out.kept hk2 (by rw [← hb1]; exact hab)
    obtain ⟨x0, x1⟩ := BX2.out.cells
    have hxl := BX2.out.lt
    clear ht2 hk2 HO2
    go_wp2_with fail
    go_ret
    exact ⟨rfl, ⟨_, M2.out.both H.out⟩, M2.out.kept⟩
  · by_cases k2 : kd = 2
    · subst k2
      obtain ⟨lk, hlk⟩ : ∃ lk, lk = lookK es x z := ⟨_, rfl⟩
      obtain ⟨ln, hln⟩ : ∃ ln, ln = lookN es x z := ⟨_, rfl⟩
      obtain ⟨cc, hcc⟩ : ∃ cc, cc = code es x z := ⟨_, rfl⟩
      have HO := hide (lookup_any r g es x z W0 HM.out.tab)
      rw [← hlk, ← hln, ← hcc] at HO
      go_wp2_with fail
      refine HO.out.mono ?_
      rintro e w1 ⟨rfl, hb1⟩
      have M1 : Hid (Mid w w1 r g y b a d x z k n es es) := HM.out.draw (fun i hi => hb1.block i hi) hb1.size hb1.os hb1.tape hb1.output
      obtain ⟨c0, c1, c2, c3, c4⟩ := M1.out.box.cells
      have HO2 := hide (rlookup_any y b es x z _ M1.out.ref)
      rw [← hlk, ← hln, ← hcc] at HO2
      clear hb1 HO hlk hln hcc
      go_wp2_with fail
      refine HO2.out.mono ?_
      rintro e w2 ⟨rfl, hb2⟩
      have M2 : Hid (Mid w w2 r g y b a d x z k n es es) := M1.out.draw (fun i hi => hb2.block i hi) hb2.size hb2.os hb2.tape hb2.output
      clear hb2 HO2
      go_wp2_with fail
      go_ret
      exact ⟨rfl, ⟨_, M2.out.both H.out⟩, M2.out.kept⟩
    · by_cases k1 : kd = 1
      · subst k1
        obtain ⟨cc, hcc⟩ : ∃ cc, cc = code es x z := ⟨_, rfl⟩
        have HP : Hid (∀ W, IsTab W r g es → Calls Try.prog 12 #[.pointer (some ⟨r, 0, none⟩), hnd x z] W fun e w' => e = .returned (.int .i64 cc) ∧ IsTab w' r g (closeE es x z) ∧ Kept g g W w') := by rw [hcc]; exact fun W hW => close_any r g es x z W hW
        have HQ : Hid (∀ W, RT W y b es → Calls Try.prog 29 #[.pointer (some ⟨y, 0, none⟩), hnd x z] W fun e w' => e = .returned (.int .i64 cc) ∧ RT w' y b (closeE es x z) ∧ Kept b b W w') := by rw [hcc]; exact fun W hW => rclose_any y b es x z W hW
        clear hcc
        go_wp2_with fail
        go_region_held3 (fun w' => w'.cell? ⟨a, 1, none⟩ = some (.int .i64 x) ∧ w'.cell? ⟨a, 2, none⟩ = some (.int .i64 z)) (go_keep) (first
          | (go_at_call 12; refine (HP.out _ ?_).mono ?_; exact HM.out.tab.keep rfl rfl; rintro e wp ⟨rfl, htp, hkp⟩; have hkp' : Kept g g W0 wp := ⟨hkp.os, hkp.tape, hkp.output, hkp.size, hkp.block⟩; have MP := hide (HM.out.tabStep htp hkp' gy gb ag); have p1 := MP.out.box.cells.2.1; have p2 := MP.out.box.cells.2.2.1; clear htp hkp hkp')
          | (go_at_call 29; refine (HQ.out _ ?_).mono ?_; exact MP.out.ref.keep rfl rfl; rintro e wr ⟨rfl, htr, hkr⟩; have hkr' : Kept b b wp wr := ⟨hkr.os, hkr.tape, hkr.output, hkr.size, hkr.block⟩; have MR := hide (MP.out.refStep htr hkr' rb gb ab); have r1 := MR.out.box.cells.2.1; have r2 := MR.out.box.cells.2.2.1; clear htr hkr hkr'))
        go_wp2_with fail
        go_ret
        exact ⟨rfl, ⟨_, MR.out.both H.out⟩, MR.out.kept⟩
      · by_cases k3 : kd = 3
        · subst k3
          obtain ⟨cc, hcc⟩ : ∃ cc, cc = code es x z := ⟨_, rfl⟩
          have HP : Hid (∀ W, IsTab W r g es → Calls Try.prog 21 #[.pointer (some ⟨r, 0, none⟩), hnd x z, .int .i64 k, .int .i64 n] W fun e w' => e = .returned (.int .i64 cc) ∧ IsTab w' r g (setE es x z k n) ∧ Kept g g W w') := by rw [hcc]; exact fun W hW => set_any r g es x z k n W hW
          have HQ : Hid (∀ W, RT W y b es → Calls Try.prog 31 #[.pointer (some ⟨y, 0, none⟩), hnd x z, .int .i64 k, .int .i64 n] W fun e w' => e = .returned (.int .i64 cc) ∧ RT w' y b (setE es x z k n) ∧ Kept b b W w') := by rw [hcc]; exact fun W hW => rset_any y b es x z k n W hW
          clear hcc
          go_wp2_with fail
          go_region_held3 (fun w' => w'.cell? ⟨a, 1, none⟩ = some (.int .i64 x) ∧ w'.cell? ⟨a, 2, none⟩ = some (.int .i64 z) ∧ w'.cell? ⟨a, 3, none⟩ = some (.int .i64 k) ∧ w'.cell? ⟨a, 4, none⟩ = some (.int .i64 n)) (go_keep) (first
          | (go_at_call 21; refine (HP.out _ ?_).mono ?_; exact HM.out.tab.keep rfl rfl; rintro e wp ⟨rfl, htp, hkp⟩; have hkp' : Kept g g W0 wp := ⟨hkp.os, hkp.tape, hkp.output, hkp.size, hkp.block⟩; have MP := hide (HM.out.tabStep htp hkp' gy gb ag); have p1 := MP.out.box.cells.2.1; have p2 := MP.out.box.cells.2.2.1; have p3 := MP.out.box.cells.2.2.2.1; have p4 := MP.out.box.cells.2.2.2.2; clear htp hkp hkp')
          | (go_at_call 31; refine (HQ.out _ ?_).mono ?_; exact MP.out.ref.keep rfl rfl; rintro e wr ⟨rfl, htr, hkr⟩; have hkr' : Kept b b wp wr := ⟨hkr.os, hkr.tape, hkr.output, hkr.size, hkr.block⟩; have MR := hide (MP.out.refStep htr hkr' rb gb ab); have r1 := MR.out.box.cells.2.1; have r2 := MR.out.box.cells.2.2.1; have r3 := MR.out.box.cells.2.2.2.1; have r4 := MR.out.box.cells.2.2.2.2; clear htr hkr hkr'))
          go_wp2_with fail
          go_ret
          exact ⟨rfl, ⟨_, MR.out.both H.out⟩, MR.out.kept⟩
        · obtain rfl : kd = 4 := by omega
          obtain ⟨cc, hcc⟩ : ∃ cc, cc = ageC es x z := ⟨_, rfl⟩
          have HP : Hid (∀ W, IsTab W r g es → Calls Try.prog 22 #[.pointer (some ⟨r, 0, none⟩), .int .i64 x, .int .i64 z] W fun e w' => e = .returned (.int .i64 cc) ∧ IsTab w' r g (ageE es x z) ∧ Kept g g W w') := by rw [hcc]; exact fun W hW => age_any r g es x z W hW
          have HQ : Hid (∀ W, RT W y b es → Calls Try.prog 32 #[.pointer (some ⟨y, 0, none⟩), .int .i64 x, .int .i64 z] W fun e w' => e = .returned (.int .i64 cc) ∧ RT w' y b (ageE es x z) ∧ Kept b b W w') := by rw [hcc]; exact fun W hW => rage_any y b es x z W hW
          clear hcc
          go_wp2_with fail
          go_region_held3 (fun w' => w'.cell? ⟨a, 1, none⟩ = some (.int .i64 x) ∧ w'.cell? ⟨a, 2, none⟩ = some (.int .i64 z)) (go_keep) (first
          | (go_at_call 22; refine (HP.out _ ?_).mono ?_; exact HM.out.tab.keep rfl rfl; rintro e wp ⟨rfl, htp, hkp⟩; have hkp' : Kept g g W0 wp := ⟨hkp.os, hkp.tape, hkp.output, hkp.size, hkp.block⟩; have MP := hide (HM.out.tabStep htp hkp' gy gb ag); have p1 := MP.out.box.cells.2.1; have p2 := MP.out.box.cells.2.2.1; clear htp hkp hkp')
          | (go_at_call 32; refine (HQ.out _ ?_).mono ?_; exact MP.out.ref.keep rfl rfl; rintro e wr ⟨rfl, htr, hkr⟩; have hkr' : Kept b b wp wr := ⟨hkr.os, hkr.tape, hkr.output, hkr.size, hkr.block⟩; have MR := hide (MP.out.refStep htr hkr' rb gb ab); have r1 := MR.out.box.cells.2.1; have r2 := MR.out.box.cells.2.2.1; clear htr hkr hkr'))
          go_wp2_with fail
          go_ret
          exact ⟨rfl, ⟨_, MR.out.both H.out⟩, MR.out.kept⟩

end Go.Proofs.Ythfkjephnhnpoaa
