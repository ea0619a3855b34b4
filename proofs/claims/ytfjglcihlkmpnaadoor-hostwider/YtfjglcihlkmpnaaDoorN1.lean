/-
  HostNets' and HostWider's walks; conditions as each theorem has them.
-/
import Derived.Test.YtfjglcihlkmpnaaDoorV
import Derived.Test.YtfjglcihlkmpnaaDoorJ2
set_option linter.unusedSimpArgs false
set_option linter.unusedVariables false
namespace Go.Proofs.YtfjglcihlkmpnaaDoor
open Go.RowKit

set_option maxRecDepth 100000 in
set_option maxHeartbeats 4000000 in
theorem nets_walk (a b : Ad) (k : Int) (nm sf : ByteArray) (w : World) (hT : Tabs w) (ha : a.ok) (hb : b.ok) (hn : nm.size ≤ maxLen) (hs : sf.size ≤ 140737488355328) : Calls Tryd.prog 6 #[adV a, adV b, .int .i64 k, .string nm, .string sf] w fun e w' => e = .returned (.bool true) ∧ Below w.heap.size w w' := by
  obtain ⟨a0, a1, a2, a3⟩ := a
  obtain ⟨b0, b1, b2, b3⟩ := b
  obtain ⟨p, hp⟩ : ∃ p, p = inB (a0, a1, a2, a3) (b0, b1, b2, b3) k := ⟨_, rfl⟩
  obtain ⟨q, hq⟩ : ∃ q, q = under (byt nm) (byt sf) := ⟨_, rfl⟩
  have H27 : Hid (∀ W, Calls Tryd.prog 27 #[(Value.agg #[.int .u8 (a0 : Int), .int .u8 (a1 : Int), .int .u8 (a2 : Int), .int .u8 (a3 : Int)]), (Value.agg #[.int .u8 (b0 : Int), .int .u8 (b1 : Int), .int .u8 (b2 : Int), .int .u8 (b3 : Int)]), .int .i64 k] W fun e w' => e = .returned (.bool p) ∧ Below W.heap.size W w') := by rw [hp]; exact fun W => in_at (a0, a1, a2, a3) (b0, b1, b2, b3) k W ha hb
  have H28 : Hid (∀ W, Calls Tryd.prog 28 #[(Value.agg #[.int .u8 (a0 : Int), .int .u8 (a1 : Int), .int .u8 (a2 : Int), .int .u8 (a3 : Int)]), (Value.agg #[.int .u8 (b0 : Int), .int .u8 (b1 : Int), .int .u8 (b2 : Int), .int .u8 (b3 : Int)]), .int .i64 k] W fun e w' => e = .returned (.bool p) ∧ Below W.heap.size W w') := by rw [hp]; exact fun W => rin_at (a0, a1, a2, a3) (b0, b1, b2, b3) k W ha hb
  have H29 : Hid (∀ W, Calls Tryd.prog 29 #[.string nm, .string sf] W fun e w' => e = .returned (.bool q) ∧ W = w') := by rw [hq]; exact fun W => under_at nm sf W hn (by unfold maxLen; omega)
  have H30 : Hid (∀ W, Calls Tryd.prog 30 #[.string nm, .string sf] W fun e w' => e = .returned (.bool q) ∧ W = w') := by rw [hq]; exact fun W => runder_at nm sf W hn hs
  have HT := hide hT
  have hpp : (p == p) = true := by simp
  have hqq : (q == q) = true := by simp
  simp only [adV]
  clear hp hq ha hb hT hn hs
  go_enter Tryd.func6, Tryd.ntmps6
  go_wp2_with fail
  obtain ⟨W0, hW0⟩ : ∃ W0, W0 = (w.alloc (.cells #[.int .u8 (a0 : Nat), .int .u8 (a1 : Nat), .int .u8 (a2 : Nat), .int .u8 (a3 : Nat)] 23)).alloc (.cells #[.int .u8 (b0 : Nat), .int .u8 (b1 : Nat), .int .u8 (b2 : Nat), .int .u8 (b3 : Nat)] 23) := ⟨_, rfl⟩
  have T0 : Two W0 w.heap.size (a0, a1, a2, a3) (b0, b1, b2, b3) := by
    rw [hW0]; constructor <;> simp
  have B0 : Hid (Below w.heap.size w W0) := by rw [hW0]; exact ((Below.refl _ _).alloc (Nat.le_refl _) _).alloc (by simp) _
  have HT0 := hide (HT.out.below B0.out)
  rw [← hW0]
  obtain ⟨x0, x1, x2, x3, y0, y1, y2, y3⟩ := T0
  have H2 : Hid (Two W0 w.heap.size (a0, a1, a2, a3) (b0, b1, b2, b3)) := ⟨x0, x1, x2, x3, y0, y1, y2, y3⟩
  simp only [] at x0 x1 x2 x3 y0 y1 y2 y3
  clear hW0
  go_region_held3 (fun w' => w'.cell? ⟨w.heap.size, 0, none⟩ = some (.int .u8 (a0 : Nat)) ∧ w'.cell? ⟨w.heap.size, 1, none⟩ = some (.int .u8 (a1 : Nat)) ∧ w'.cell? ⟨w.heap.size, 2, none⟩ = some (.int .u8 (a2 : Nat)) ∧ w'.cell? ⟨w.heap.size, 3, none⟩ = some (.int .u8 (a3 : Nat)) ∧ w'.cell? ⟨w.heap.size + 1, 0, none⟩ = some (.int .u8 (b0 : Nat)) ∧ w'.cell? ⟨w.heap.size + 1, 1, none⟩ = some (.int .u8 (b1 : Nat)) ∧ w'.cell? ⟨w.heap.size + 1, 2, none⟩ = some (.int .u8 (b2 : Nat)) ∧ w'.cell? ⟨w.heap.size + 1, 3, none⟩ = some (.int .u8 (b3 : Nat))) (go_keep) (first
    | (go_at_call 27; refine (H27.out _).mono ?_; rintro e wp ⟨rfl, hk⟩; have hk' : Below W0.heap.size W0 wp := ⟨hk.os, hk.tape, hk.output, hk.size, hk.block⟩; have MP := hide (H2.out.below hk'); have TP := hide (HT0.out.below hk'); have BP := hide (B0.out.trans (hk'.mono B0.out.size)); obtain ⟨p0, p1, p2, p3, q0, q1, q2, q3⟩ := MP.out; simp only [] at p0 p1 p2 p3 q0 q1 q2 q3; clear hk hk')
    | (go_at_call 28; refine (H28.out _).mono ?_; rintro e wq ⟨rfl, hk⟩; have hk' : Below wp.heap.size wp wq := ⟨hk.os, hk.tape, hk.output, hk.size, hk.block⟩; have MQ := hide (MP.out.below hk'); have TQ := hide (TP.out.below hk'); have BQ := hide (BP.out.trans (hk'.mono BP.out.size)); obtain ⟨r0, r1, r2, r3, s0, s1, s2, s3⟩ := MQ.out; simp only [] at r0 r1 r2 r3 s0 s1 s2 s3; clear hk hk')
    | (go_at_call 29; refine (H29.out _).mono ?_; rintro e wx ⟨rfl, rfl⟩)
    | (go_at_call 30; refine (H30.out _).mono ?_; rintro e wx ⟨rfl, rfl⟩)
    | (go_at_call 16; refine (works_at _ (by exact TQ.out)).mono ?_; rintro e wz ⟨rfl, hk⟩; have hk' : Below wq.heap.size wq wz := ⟨hk.os, hk.tape, hk.output, hk.size, hk.block⟩; have MZ := hide (MQ.out.below hk'); have BZ := hide (BQ.out.trans (hk'.mono BQ.out.size)); obtain ⟨f0, f1, f2, f3, g0, g1, g2, g3⟩ := MZ.out; simp only [] at f0 f1 f2 f3 g0 g1 g2 g3; clear hk hk'))
  go_wp2_with fail
  go_ret
  exact ⟨rfl, BZ.out⟩

theorem under_iff (n s : List Nat) : under n s = true ↔ s ≠ [] ∧ (n = s ∨ (46 :: s) <:+ n) := by
  unfold under
  simp
theorem under_trans {n x y : List Nat} (h1 : under n x = true) (h2 : under x y = true) : under n y = true := by
  rw [under_iff] at h1 h2 ⊢
  refine ⟨h2.1, ?_⟩
  rcases h1.2 with rfl | h1
  · exact h2.2
  · rcases h2.2 with rfl | h2
    · exact Or.inr h1
    · exact Or.inr (h2.trans ((List.suffix_cons 46 x).trans h1))
theorem under_cmp {n x y : List Nat} (h1 : under n x = true) (h2 : under n y = true) : under x y = true ∨ under y x = true := by
  have g1 := h1
  have g2 := h2
  rw [under_iff] at h1 h2
  rcases h1.2 with rfl | s1
  · exact Or.inl g2
  rcases h2.2 with rfl | s2
  · exact Or.inr g1
  rcases List.suffix_or_suffix_of_suffix s1 s2 with h | h
  · right
    rw [under_iff]
    refine ⟨h1.1, ?_⟩
    rcases List.suffix_cons_iff.1 h with e | e
    · left; simpa using e.symm
    · right; exact e
  · left
    rw [under_iff]
    refine ⟨h2.1, ?_⟩
    rcases List.suffix_cons_iff.1 h with e | e
    · left; simpa using e.symm
    · right; exact e
theorem inB_less (a b : Ad) (k f : Int) (h : inB a b k = true) (h0 : 0 ≤ f) (h1 : f ≤ k) : inB a b f = true := by
  unfold inB at h ⊢
  simp only [Bool.and_eq_true, decide_eq_true_eq] at h ⊢
  exact ⟨⟨h0, by omega⟩, inN_less a b k.toNat f.toNat (by omega) (by omega) h.2⟩

set_option maxRecDepth 100000 in
set_option maxHeartbeats 8000000 in
theorem wider_walk (a b : Ad) (k f : Int) (nm x y : ByteArray) (w : World) (hT : Tabs w) (ha : a.ok) (hb : b.ok) (hn : nm.size ≤ maxLen) (hx : x.size ≤ maxLen) (hy : y.size ≤ maxLen) : Calls Tryd.prog 8 #[adV a, adV b, .int .i64 k, .int .i64 f, .string nm, .string x, .string y] w fun e w' => e = .returned (.bool true) ∧ Below w.heap.size w w' := by
  obtain ⟨a0, a1, a2, a3⟩ := a
  obtain ⟨b0, b1, b2, b3⟩ := b
  have L1 : inB (a0, a1, a2, a3) (b0, b1, b2, b3) k = true → 0 ≤ f → f ≤ k → inB (a0, a1, a2, a3) (b0, b1, b2, b3) f = true := fun h h0 h1 => inB_less _ _ k f h h0 h1
  have L2 : under (byt nm) (byt x) = true → under (byt x) (byt y) = true → under (byt nm) (byt y) = true := under_trans
  have L3 : under (byt nm) (byt x) = true → under (byt nm) (byt y) = true → under (byt x) (byt y) = true ∨ under (byt y) (byt x) = true := under_cmp
  have H1 : ∀ W, Calls Tryd.prog 27 #[(Value.agg #[.int .u8 (a0 : Int), .int .u8 (a1 : Int), .int .u8 (a2 : Int), .int .u8 (a3 : Int)]), (Value.agg #[.int .u8 (b0 : Int), .int .u8 (b1 : Int), .int .u8 (b2 : Int), .int .u8 (b3 : Int)]), .int .i64 k] W fun e w' => e = .returned (.bool (inB (a0, a1, a2, a3) (b0, b1, b2, b3) k)) ∧ Below W.heap.size W w' := fun W => in_at (a0, a1, a2, a3) (b0, b1, b2, b3) k W ha hb
  have H2 : ∀ W, Calls Tryd.prog 27 #[(Value.agg #[.int .u8 (a0 : Int), .int .u8 (a1 : Int), .int .u8 (a2 : Int), .int .u8 (a3 : Int)]), (Value.agg #[.int .u8 (b0 : Int), .int .u8 (b1 : Int), .int .u8 (b2 : Int), .int .u8 (b3 : Int)]), .int .i64 f] W fun e w' => e = .returned (.bool (inB (a0, a1, a2, a3) (b0, b1, b2, b3) f)) ∧ Below W.heap.size W w' := fun W => in_at (a0, a1, a2, a3) (b0, b1, b2, b3) f W ha hb
  have U1 : ∀ W, Calls Tryd.prog 29 #[.string nm, .string x] W fun e w' => e = .returned (.bool (under (byt nm) (byt x))) ∧ W = w' := fun W => under_at nm x W hn hx
  have U2 : ∀ W, Calls Tryd.prog 29 #[.string x, .string y] W fun e w' => e = .returned (.bool (under (byt x) (byt y))) ∧ W = w' := fun W => under_at x y W hx hy
  have U3 : ∀ W, Calls Tryd.prog 29 #[.string nm, .string y] W fun e w' => e = .returned (.bool (under (byt nm) (byt y))) ∧ W = w' := fun W => under_at nm y W hn hy
  have U4 : ∀ W, Calls Tryd.prog 29 #[.string y, .string x] W fun e w' => e = .returned (.bool (under (byt y) (byt x))) ∧ W = w' := fun W => under_at y x W hy hx
  generalize inB (a0, a1, a2, a3) (b0, b1, b2, b3) k = i1 at L1 H1
  generalize inB (a0, a1, a2, a3) (b0, b1, b2, b3) f = i2 at L1 H2
  generalize under (byt nm) (byt x) = u1 at L2 L3 U1
  generalize under (byt x) (byt y) = u2 at L2 L3 U2
  generalize under (byt nm) (byt y) = u3 at L2 L3 U3
  generalize under (byt y) (byt x) = u4 at L3 U4
  have HH1 := hide H1
  have HH2 := hide H2
  have HU1 := hide U1
  have HU2 := hide U2
  have HU3 := hide U3
  have HU4 := hide U4
  have LL1 := hide L1
  have LL2 := hide L2
  have LL3 := hide L3
  have HT := hide hT
  simp only [adV]
  clear H1 H2 U1 U2 U3 U4 L1 L2 L3 hT ha hb hn hx hy
  go_enter Tryd.func8, Tryd.ntmps8
  go_wp2_with fail
  obtain ⟨W0, hW0⟩ : ∃ W0, W0 = (w.alloc (.cells #[.int .u8 (a0 : Nat), .int .u8 (a1 : Nat), .int .u8 (a2 : Nat), .int .u8 (a3 : Nat)] 23)).alloc (.cells #[.int .u8 (b0 : Nat), .int .u8 (b1 : Nat), .int .u8 (b2 : Nat), .int .u8 (b3 : Nat)] 23) := ⟨_, rfl⟩
  have T0 : Hid (Two W0 w.heap.size (a0, a1, a2, a3) (b0, b1, b2, b3)) := by
    rw [hW0]; constructor <;> simp
  have B0 : Hid (Below w.heap.size w W0) := by rw [hW0]; exact ((Below.refl _ _).alloc (Nat.le_refl _) _).alloc (by simp) _
  have HT0 := hide (HT.out.below B0.out)
  rw [← hW0]
  clear hW0
  refine (works_at _ HT0.out).mono ?_
  rintro e w1 ⟨rfl, hk⟩
  have T1 := hide (T0.out.below hk)
  have B1 := hide (B0.out.trans (hk.mono B0.out.size))
  obtain ⟨x0, x1, x2, x3, y0, y1, y2, y3⟩ := T1.out
  simp only [] at x0 x1 x2 x3 y0 y1 y2 y3
  clear hk T0 B0 HT0 HT
  go_wp2_with fail
  refine (HH1.out _).mono ?_
  rintro e w2 ⟨rfl, hk⟩
  have T2 := hide (T1.out.below hk)
  have B2 := hide (B1.out.trans (hk.mono B1.out.size))
  clear hk x0 x1 x2 x3 y0 y1 y2 y3
  obtain ⟨x0, x1, x2, x3, y0, y1, y2, y3⟩ := T2.out
  simp only [] at x0 x1 x2 x3 y0 y1 y2 y3
  cases i1 with
  | false =>
    cases u1 with
    | false =>
      go_wp2_with fail
      refine (HU1.out _).mono ?_
      rintro e wx ⟨rfl, rfl⟩
      go_wp2_with fail
      refine (HU1.out _).mono ?_
      rintro e wx ⟨rfl, rfl⟩
      go_wp2_with fail
      go_ret
      exact ⟨rfl, B2.out⟩
    | true =>
      cases u2 with
      | true =>
        obtain rfl : u3 = true := LL2.out rfl rfl
        go_wp2_with fail
        refine (HU1.out _).mono ?_
        rintro e wx ⟨rfl, rfl⟩
        go_wp2_with fail
        refine (HU2.out _).mono ?_
        rintro e wx ⟨rfl, rfl⟩
        go_wp2_with fail
        refine (HU3.out _).mono ?_
        rintro e wx ⟨rfl, rfl⟩
        go_wp2_with fail
        refine (HU1.out _).mono ?_
        rintro e wx ⟨rfl, rfl⟩
        go_wp2_with fail
        refine (HU3.out _).mono ?_
        rintro e wx ⟨rfl, rfl⟩
        go_wp2_with fail
        refine (HU2.out _).mono ?_
        rintro e wx ⟨rfl, rfl⟩
        go_wp2_with fail
        go_ret
        exact ⟨rfl, B2.out⟩
      | false =>
        cases u3 with
        | false =>
          go_wp2_with fail
          refine (HU1.out _).mono ?_
          rintro e wx ⟨rfl, rfl⟩
          go_wp2_with fail
          refine (HU2.out _).mono ?_
          rintro e wx ⟨rfl, rfl⟩
          go_wp2_with fail
          refine (HU1.out _).mono ?_
          rintro e wx ⟨rfl, rfl⟩
          go_wp2_with fail
          refine (HU3.out _).mono ?_
          rintro e wx ⟨rfl, rfl⟩
          go_wp2_with fail
          go_ret
          exact ⟨rfl, B2.out⟩
        | true =>
          obtain rfl : u4 = true := by
            rcases LL3.out rfl rfl with h | h
            · cases h
            · exact h
          go_wp2_with fail
          refine (HU1.out _).mono ?_
          rintro e wx ⟨rfl, rfl⟩
          go_wp2_with fail
          refine (HU2.out _).mono ?_
          rintro e wx ⟨rfl, rfl⟩
          go_wp2_with fail
          refine (HU1.out _).mono ?_
          rintro e wx ⟨rfl, rfl⟩
          go_wp2_with fail
          refine (HU3.out _).mono ?_
          rintro e wx ⟨rfl, rfl⟩
          go_wp2_with fail
          refine (HU2.out _).mono ?_
          rintro e wx ⟨rfl, rfl⟩
          go_wp2_with fail
          refine (HU4.out _).mono ?_
          rintro e wx ⟨rfl, rfl⟩
          go_wp2_with fail
          go_ret
          exact ⟨rfl, B2.out⟩

  | true =>
    by_cases h0 : 0 ≤ f
    · have d0 : decide (0 ≤ f) = true := decide_eq_true h0
      by_cases h1 : f ≤ k
      · have d1 : decide (f ≤ k) = true := decide_eq_true h1
        obtain rfl : i2 = true := LL1.out rfl h0 h1
        go_wp2_with fail
        refine (HH2.out _).mono ?_
        rintro e w3 ⟨rfl, hk⟩
        have B3 := hide (B2.out.trans (hk.mono B2.out.size))
        clear hk x0 x1 x2 x3 y0 y1 y2 y3
        cases u1 with
        | false =>
          go_wp2_with fail
          refine (HU1.out _).mono ?_
          rintro e wx ⟨rfl, rfl⟩
          go_wp2_with fail
          refine (HU1.out _).mono ?_
          rintro e wx ⟨rfl, rfl⟩
          go_wp2_with fail
          go_ret
          exact ⟨rfl, B3.out⟩
        | true =>
          cases u2 with
          | true =>
            obtain rfl : u3 = true := LL2.out rfl rfl
            go_wp2_with fail
            refine (HU1.out _).mono ?_
            rintro e wx ⟨rfl, rfl⟩
            go_wp2_with fail
            refine (HU2.out _).mono ?_
            rintro e wx ⟨rfl, rfl⟩
            go_wp2_with fail
            refine (HU3.out _).mono ?_
            rintro e wx ⟨rfl, rfl⟩
            go_wp2_with fail
            refine (HU1.out _).mono ?_
            rintro e wx ⟨rfl, rfl⟩
            go_wp2_with fail
            refine (HU3.out _).mono ?_
            rintro e wx ⟨rfl, rfl⟩
            go_wp2_with fail
            refine (HU2.out _).mono ?_
            rintro e wx ⟨rfl, rfl⟩
            go_wp2_with fail
            go_ret
            exact ⟨rfl, B3.out⟩
          | false =>
            cases u3 with
            | false =>
              go_wp2_with fail
              refine (HU1.out _).mono ?_
              rintro e wx ⟨rfl, rfl⟩
              go_wp2_with fail
              refine (HU2.out _).mono ?_
              rintro e wx ⟨rfl, rfl⟩
              go_wp2_with fail
              refine (HU1.out _).mono ?_
              rintro e wx ⟨rfl, rfl⟩
              go_wp2_with fail
              refine (HU3.out _).mono ?_
              rintro e wx ⟨rfl, rfl⟩
              go_wp2_with fail
              go_ret
              exact ⟨rfl, B3.out⟩
            | true =>
              obtain rfl : u4 = true := by
                rcases LL3.out rfl rfl with h | h
                · cases h
                · exact h
              go_wp2_with fail
              refine (HU1.out _).mono ?_
              rintro e wx ⟨rfl, rfl⟩
              go_wp2_with fail
              refine (HU2.out _).mono ?_
              rintro e wx ⟨rfl, rfl⟩
              go_wp2_with fail
              refine (HU1.out _).mono ?_
              rintro e wx ⟨rfl, rfl⟩
              go_wp2_with fail
              refine (HU3.out _).mono ?_
              rintro e wx ⟨rfl, rfl⟩
              go_wp2_with fail
              refine (HU2.out _).mono ?_
              rintro e wx ⟨rfl, rfl⟩
              go_wp2_with fail
              refine (HU4.out _).mono ?_
              rintro e wx ⟨rfl, rfl⟩
              go_wp2_with fail
              go_ret
              exact ⟨rfl, B3.out⟩

      · have d1 : decide (f ≤ k) = false := decide_eq_false h1
        cases u1 with
        | false =>
          go_wp2_with fail
          refine (HU1.out _).mono ?_
          rintro e wx ⟨rfl, rfl⟩
          go_wp2_with fail
          refine (HU1.out _).mono ?_
          rintro e wx ⟨rfl, rfl⟩
          go_wp2_with fail
          go_ret
          exact ⟨rfl, B2.out⟩
        | true =>
          cases u2 with
          | true =>
            obtain rfl : u3 = true := LL2.out rfl rfl
            go_wp2_with fail
            refine (HU1.out _).mono ?_
            rintro e wx ⟨rfl, rfl⟩
            go_wp2_with fail
            refine (HU2.out _).mono ?_
            rintro e wx ⟨rfl, rfl⟩
            go_wp2_with fail
            refine (HU3.out _).mono ?_
            rintro e wx ⟨rfl, rfl⟩
            go_wp2_with fail
            refine (HU1.out _).mono ?_
            rintro e wx ⟨rfl, rfl⟩
            go_wp2_with fail
            refine (HU3.out _).mono ?_
            rintro e wx ⟨rfl, rfl⟩
            go_wp2_with fail
            refine (HU2.out _).mono ?_
            rintro e wx ⟨rfl, rfl⟩
            go_wp2_with fail
            go_ret
            exact ⟨rfl, B2.out⟩
          | false =>
            cases u3 with
            | false =>
              go_wp2_with fail
              refine (HU1.out _).mono ?_
              rintro e wx ⟨rfl, rfl⟩
              go_wp2_with fail
              refine (HU2.out _).mono ?_
              rintro e wx ⟨rfl, rfl⟩
              go_wp2_with fail
              refine (HU1.out _).mono ?_
              rintro e wx ⟨rfl, rfl⟩
              go_wp2_with fail
              refine (HU3.out _).mono ?_
              rintro e wx ⟨rfl, rfl⟩
              go_wp2_with fail
              go_ret
              exact ⟨rfl, B2.out⟩
            | true =>
              obtain rfl : u4 = true := by
                rcases LL3.out rfl rfl with h | h
                · cases h
                · exact h
              go_wp2_with fail
              refine (HU1.out _).mono ?_
              rintro e wx ⟨rfl, rfl⟩
              go_wp2_with fail
              refine (HU2.out _).mono ?_
              rintro e wx ⟨rfl, rfl⟩
              go_wp2_with fail
              refine (HU1.out _).mono ?_
              rintro e wx ⟨rfl, rfl⟩
              go_wp2_with fail
              refine (HU3.out _).mono ?_
              rintro e wx ⟨rfl, rfl⟩
              go_wp2_with fail
              refine (HU2.out _).mono ?_
              rintro e wx ⟨rfl, rfl⟩
              go_wp2_with fail
              refine (HU4.out _).mono ?_
              rintro e wx ⟨rfl, rfl⟩
              go_wp2_with fail
              go_ret
              exact ⟨rfl, B2.out⟩

    · have d0 : decide (0 ≤ f) = false := decide_eq_false h0
      cases u1 with
      | false =>
        go_wp2_with fail
        refine (HU1.out _).mono ?_
        rintro e wx ⟨rfl, rfl⟩
        go_wp2_with fail
        refine (HU1.out _).mono ?_
        rintro e wx ⟨rfl, rfl⟩
        go_wp2_with fail
        go_ret
        exact ⟨rfl, B2.out⟩
      | true =>
        cases u2 with
        | true =>
          obtain rfl : u3 = true := LL2.out rfl rfl
          go_wp2_with fail
          refine (HU1.out _).mono ?_
          rintro e wx ⟨rfl, rfl⟩
          go_wp2_with fail
          refine (HU2.out _).mono ?_
          rintro e wx ⟨rfl, rfl⟩
          go_wp2_with fail
          refine (HU3.out _).mono ?_
          rintro e wx ⟨rfl, rfl⟩
          go_wp2_with fail
          refine (HU1.out _).mono ?_
          rintro e wx ⟨rfl, rfl⟩
          go_wp2_with fail
          refine (HU3.out _).mono ?_
          rintro e wx ⟨rfl, rfl⟩
          go_wp2_with fail
          refine (HU2.out _).mono ?_
          rintro e wx ⟨rfl, rfl⟩
          go_wp2_with fail
          go_ret
          exact ⟨rfl, B2.out⟩
        | false =>
          cases u3 with
          | false =>
            go_wp2_with fail
            refine (HU1.out _).mono ?_
            rintro e wx ⟨rfl, rfl⟩
            go_wp2_with fail
            refine (HU2.out _).mono ?_
            rintro e wx ⟨rfl, rfl⟩
            go_wp2_with fail
            refine (HU1.out _).mono ?_
            rintro e wx ⟨rfl, rfl⟩
            go_wp2_with fail
            refine (HU3.out _).mono ?_
            rintro e wx ⟨rfl, rfl⟩
            go_wp2_with fail
            go_ret
            exact ⟨rfl, B2.out⟩
          | true =>
            obtain rfl : u4 = true := by
              rcases LL3.out rfl rfl with h | h
              · cases h
              · exact h
            go_wp2_with fail
            refine (HU1.out _).mono ?_
            rintro e wx ⟨rfl, rfl⟩
            go_wp2_with fail
            refine (HU2.out _).mono ?_
            rintro e wx ⟨rfl, rfl⟩
            go_wp2_with fail
            refine (HU1.out _).mono ?_
            rintro e wx ⟨rfl, rfl⟩
            go_wp2_with fail
            refine (HU3.out _).mono ?_
            rintro e wx ⟨rfl, rfl⟩
            go_wp2_with fail
            refine (HU2.out _).mono ?_
            rintro e wx ⟨rfl, rfl⟩
            go_wp2_with fail
            refine (HU4.out _).mono ?_
            rintro e wx ⟨rfl, rfl⟩
            go_wp2_with fail
            go_ret
            exact ⟨rfl, B2.out⟩

end Go.Proofs.YtfjglcihlkmpnaaDoor
