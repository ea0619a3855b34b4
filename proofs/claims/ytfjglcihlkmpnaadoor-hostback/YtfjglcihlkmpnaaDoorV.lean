/-
  The examples that each statement begins with; conditions as each theorem has them.
-/
import Derived.Test.YtfjglcihlkmpnaaDoorS
import Derived.Test.YtfjglcihlkmpnaaDoorW
set_option linter.unusedSimpArgs false
set_option linter.unusedVariables false
namespace Go.Proofs.YtfjglcihlkmpnaaDoor
open Go.RowKit

theorem lab_of (p : List Nat) (h : 1 ≤ p.length ∧ p.length ≤ 63 ∧ ∀ i, i < p.length → lbAt (p.getD i 0) i p.length = true) : labB p = true := (labB_iff p).2 h
theorem ex1 : host (byt ⟨#[69, 120, 97, 109, 112, 108, 101, 46, 67, 79, 77]⟩) = (([0, 0, 0, 0], [101, 120, 97, 109, 112, 108, 101, 46, 99, 111, 109]), .ok) := by
  have hb : byt ⟨#[69, 120, 97, 109, 112, 108, 101, 46, 67, 79, 77]⟩ = [69, 120, 97, 109, 112, 108, 101, 46, 67, 79, 77] := by decide
  have hp : pcs [69, 120, 97, 109, 112, 108, 101, 46, 67, 79, 77] = [[69, 120, 97, 109, 112, 108, 101], [67, 79, 77]] := by decide
  have l1 : labB [69, 120, 97, 109, 112, 108, 101] = true := lab_of _ (by decide)
  have l2 : labB [67, 79, 77] = true := lab_of _ (by decide)
  have hn : name [69, 120, 97, 109, 112, 108, 101, 46, 67, 79, 77] = ([101, 120, 97, 109, 112, 108, 101, 46, 99, 111, 109], .ok) := by
    unfold name
    rw [if_neg (by decide), hp]
    simp only [labs, l1, l2, if_true]
    rfl
  rw [hb, host, if_neg (by decide), if_neg (by decide), hn]
theorem ex2 : host (byt ⟨#[49, 48, 46, 48, 46, 48, 46, 50, 53, 54]⟩) = (([0, 0, 0, 0], []), .one 7 60) := by
  have hb : byt ⟨#[49, 48, 46, 48, 46, 48, 46, 50, 53, 54]⟩ = [49, 48, 46, 48, 46, 48, 46, 50, 53, 54] := by decide
  have ha : addr [49, 48, 46, 48, 46, 48, 46, 50, 53, 54] = ([0, 0, 0, 0], .one 7 60) := by decide +kernel
  rw [hb, host, if_neg (by decide), if_pos (by decide), ha]
theorem ex3 : dest (byt ⟨#[97, 46, 98, 58, 48]⟩) = ((noH, 0), .two 4 0 62) := by
  have hb : byt ⟨#[97, 46, 98, 58, 48]⟩ = [97, 46, 98, 58, 48] := by decide
  have hp : pcs [97, 46, 98] = [[97], [98]] := by decide
  have l1 : labB [97] = true := lab_of _ (by decide)
  have l2 : labB [98] = true := lab_of _ (by decide)
  have hn : name [97, 46, 98] = ([97, 46, 98], .ok) := by
    unfold name
    rw [if_neg (by decide), hp]
    simp only [labs, l1, l2, if_true]
    rfl
  have hh : host [97, 46, 98] = (([0, 0, 0, 0], [97, 46, 98]), .ok) := by
    rw [host, if_neg (by decide), if_neg (by decide), hn]
  have hpt : port [48] = (0, .one 0 62) := by decide +kernel
  rw [hb, dest, if_neg (by decide), show colon 0 [97, 46, 98, 58, 48] = some 3 from rfl]
  simp only [show [97, 46, 98, 58, 48].take 3 = [97, 46, 98] from rfl, show [97, 46, 98, 58, 48].drop (3 + 1) = [48] from rfl, hh, hpt]

/-- What the statements ask of the package-level variables. -/
structure Tabs (w : World) : Prop where
  v : Vars w
  e : VarE w
theorem Tabs.below {w w' : World} (h : Tabs w) (k : Below w.heap.size w w') : Tabs w' := ⟨h.v.below k, h.e.below k⟩
set_option maxRecDepth 100000 in
set_option maxHeartbeats 4000000 in
theorem works_at (w : World) (hT : Tabs w) : Calls Tryd.prog 16 #[] w fun e w' => e = .returned (.bool true) ∧ Below w.heap.size w w' := by
  have HT := hide hT
  have HIN : Hid (∀ W, Calls Tryd.prog 27 #[.agg #[.int .u8 10, .int .u8 1, .int .u8 0, .int .u8 0], .agg #[.int .u8 10, .int .u8 0, .int .u8 0, .int .u8 0], .int .i64 8] W fun e w' => e = .returned (.bool true) ∧ Below W.heap.size W w') := fun W => by
    have := in_at (10, 1, 0, 0) (10, 0, 0, 0) 8 W (by unfold Ad.ok; decide) (by unfold Ad.ok; decide)
    rw [show inB (10, 1, 0, 0) (10, 0, 0, 0) 8 = true by decide +kernel] at this
    exact this
  have HUN : Hid (∀ W, Calls Tryd.prog 29 #[.string ⟨#[97, 98]⟩, .string ⟨#[98]⟩] W fun e w' => e = .returned (.bool false) ∧ W = w') := fun W => by
    have := under_at ⟨#[97, 98]⟩ ⟨#[98]⟩ W (by decide) (by decide)
    rw [show under (byt ⟨#[97, 98]⟩) (byt ⟨#[98]⟩) = false by decide +kernel] at this
    exact this
  clear hT
  go_enter Tryd.func16, Tryd.ntmps16
  go_wp2_with fail
  refine (parse_at ⟨#[69, 120, 97, 109, 112, 108, 101, 46, 67, 79, 77]⟩ _ (by decide) HT.out.v).mono ?_
  rintro e w1 ⟨v, rfl, her, hb1⟩
  rw [ex1] at her ⊢
  have hv : v = .nilIface := her
  subst hv
  have T1 := hide (HT.out.below hb1)
  have hs1 := hb1.size
  have B1 := hide hb1
  have hho : hoC (([0, 0, 0, 0], [101, 120, 97, 109, 112, 108, 101, 46, 99, 111, 109]) : Ho) = #[.int .u8 0, .int .u8 0, .int .u8 0, .int .u8 0, .string ⟨#[101, 120, 97, 109, 112, 108, 101, 46, 99, 111, 109]⟩] := rfl
  rw [hho]
  clear her hb1
  go_wp2_with fail
  obtain ⟨W1, hW1⟩ : ∃ W1, W1 = w1.alloc (.cells #[.int .u8 0, .int .u8 0, .int .u8 0, .int .u8 0, .string ⟨#[101, 120, 97, 109, 112, 108, 101, 46, 99, 111, 109]⟩] 40) := ⟨_, rfl⟩
  have b1 : Below w1.heap.size w1 W1 := by rw [hW1]; exact (Below.refl _ _).alloc (Nat.le_refl _) _
  have r1 : W1.heap[w1.heap.size]? = some (.cells #[.int .u8 0, .int .u8 0, .int .u8 0, .int .u8 0, .string ⟨#[101, 120, 97, 109, 112, 108, 101, 46, 99, 111, 109]⟩] 40) := by rw [hW1]; exact alloc_new _ _
  have T2 := hide (T1.out.below b1)
  have BW1 := hide (B1.out.trans (b1.mono B1.out.size))
  have RW1 := hide r1
  rw [← hW1]
  clear hW1 b1 r1
  refine (parse_at ⟨#[49, 48, 46, 48, 46, 48, 46, 50, 53, 54]⟩ _ (by decide) T2.out.v).mono ?_
  rintro e w2 ⟨f, rfl, her2, hb2⟩
  rw [ex2] at her2 ⊢
  have hho2 : hoC (([0, 0, 0, 0], []) : Ho) = #[.int .u8 0, .int .u8 0, .int .u8 0, .int .u8 0, .string ⟨#[]⟩] := rfl
  rw [hho2]
  have T3 := hide (T2.out.below hb2)
  have BW2 := hide (BW1.out.trans (hb2.mono BW1.out.size))
  have RW2 := hide ((hb2.block _ (lt_of_some RW1.out)).trans RW1.out)
  have EW2 := hide her2
  clear her2 hb2
  go_wp2_with fail
  obtain ⟨W2, hW2⟩ : ∃ W2, W2 = w2.alloc (.cells #[.int .u8 0, .int .u8 0, .int .u8 0, .int .u8 0, .string ⟨#[]⟩] 40) := ⟨_, rfl⟩
  have b2 : Below w2.heap.size w2 W2 := by rw [hW2]; exact (Below.refl _ _).alloc (Nat.le_refl _) _
  have T4 := hide (T3.out.below b2)
  have BW3 := hide (BW2.out.trans (b2.mono BW2.out.size))
  have RW3 := hide ((b2.block _ (lt_of_some RW2.out)).trans RW2.out)
  have EW3 := hide (EW2.out.below b2)
  rw [← hW2]
  clear hW2 b2
  refine (parseDest_at ⟨#[97, 46, 98, 58, 48]⟩ _ (by decide) T4.out.v T4.out.e).mono ?_
  rintro e w3 ⟨g, rfl, her3, hb3⟩
  rw [ex3] at her3 ⊢
  have hde : deC ((noH, 0) : De) = #[.int .u8 0, .int .u8 0, .int .u8 0, .int .u8 0, .string ⟨#[]⟩, .int .i64 0] := rfl
  rw [hde]
  have BW4 := hide (BW3.out.trans (hb3.mono BW3.out.size))
  have RW4 := hide ((hb3.block _ (lt_of_some RW3.out)).trans RW3.out)
  have EW4 := hide (EW3.out.below hb3)
  have GW4 := hide her3
  clear her3 hb3
  obtain ⟨W4, hW4⟩ : ∃ W4, W4 = w3.alloc (.cells #[.int .u8 0, .int .u8 0, .int .u8 0, .int .u8 0, .string ⟨#[]⟩, .int .i64 0] 53) := ⟨_, rfl⟩
  have b4 : Below w3.heap.size w3 W4 := by rw [hW4]; exact (Below.refl _ _).alloc (Nat.le_refl _) _
  have BW5 := hide (BW4.out.trans (b4.mono BW4.out.size))
  have r5 : W4.heap[w1.heap.size]? = some (.cells #[.int .u8 0, .int .u8 0, .int .u8 0, .int .u8 0, .string ⟨#[101, 120, 97, 109, 112, 108, 101, 46, 99, 111, 109]⟩] 40) := (b4.block _ (lt_of_some RW4.out)).trans RW4.out
  have EW5 := hide (EW4.out.below b4)
  have GW5 := hide (GW4.out.below b4)
  have HW4 : Hid (w3.alloc (.cells #[.int .u8 0, .int .u8 0, .int .u8 0, .int .u8 0, .string ⟨#[]⟩, .int .i64 0] 53) = W4) := hW4.symm
  have c0 : (w3.alloc (.cells #[.int .u8 0, .int .u8 0, .int .u8 0, .int .u8 0, .string ⟨#[]⟩, .int .i64 0] 53)).cell? ⟨w1.heap.size, 0, none⟩ = some (.int .u8 0) := by rw [← hW4]; simp [World.cell?, r5]
  have c1 : (w3.alloc (.cells #[.int .u8 0, .int .u8 0, .int .u8 0, .int .u8 0, .string ⟨#[]⟩, .int .i64 0] 53)).cell? ⟨w1.heap.size, 1, none⟩ = some (.int .u8 0) := by rw [← hW4]; simp [World.cell?, r5]
  have c2 : (w3.alloc (.cells #[.int .u8 0, .int .u8 0, .int .u8 0, .int .u8 0, .string ⟨#[]⟩, .int .i64 0] 53)).cell? ⟨w1.heap.size, 2, none⟩ = some (.int .u8 0) := by rw [← hW4]; simp [World.cell?, r5]
  have c3 : (w3.alloc (.cells #[.int .u8 0, .int .u8 0, .int .u8 0, .int .u8 0, .string ⟨#[]⟩, .int .i64 0] 53)).cell? ⟨w1.heap.size, 3, none⟩ = some (.int .u8 0) := by rw [← hW4]; simp [World.cell?, r5]
  have c4 : (w3.alloc (.cells #[.int .u8 0, .int .u8 0, .int .u8 0, .int .u8 0, .string ⟨#[]⟩, .int .i64 0] 53)).cell? ⟨w1.heap.size, 4, none⟩ = some (.string ⟨#[101, 120, 97, 109, 112, 108, 101, 46, 99, 111, 109]⟩) := by rw [← hW4]; simp [World.cell?, r5]
  clear hW4 b4 r5
  go_wp2_with fail
  rw [HW4.out]
  refine (fail_at 7 60 _).mono ?_
  rintro e w5 ⟨rfl, hb5⟩
  have BW6 := hide (BW5.out.trans (hb5.mono BW5.out.size))
  have EW6 := hide (EW5.out.below hb5)
  have GW6 := hide (GW5.out.below hb5)
  clear hb5 c0 c1 c2 c3 c4
  go_wp2_with fail
  refine (is_at (.one 7 60) f _ EW6.out).mono ?_
  rintro e w6 ⟨rfl, hb6⟩
  have BW7 := hide (BW6.out.trans (hb6.mono BW6.out.size))
  have GW7 := hide (GW6.out.below hb6)
  clear hb6
  go_wp2_with fail
  refine (fail_at 0 62 _).mono ?_
  rintro e w7 ⟨rfl, hb7⟩
  have BW8 := hide (BW7.out.trans (hb7.mono BW7.out.size))
  have GW8 := hide (GW7.out.below hb7)
  clear hb7
  go_wp2_with fail
  refine (wrapB_at 4 0 62 _).mono ?_
  rintro e w8 ⟨rfl, hb8⟩
  have BW9 := hide (BW8.out.trans (hb8.mono BW8.out.size))
  have GW9 := hide (GW8.out.below hb8)
  clear hb8
  go_wp2_with fail
  refine (is_at (.two 4 0 62) g _ GW9.out).mono ?_
  rintro e w9 ⟨rfl, hb9⟩
  have BWA := hide (BW9.out.trans (hb9.mono BW9.out.size))
  clear hb9
  go_wp2_with fail
  refine (HIN.out _).mono ?_
  rintro e wA ⟨rfl, hbA⟩
  have BWB := hide (BWA.out.trans (hbA.mono BWA.out.size))
  clear hbA
  go_wp2_with fail
  refine (HUN.out _).mono ?_
  rintro e wB ⟨rfl, rfl⟩
  go_wp2_with fail
  go_ret
  exact ⟨rfl, BWB.out⟩
end Go.Proofs.YtfjglcihlkmpnaaDoor
