/-
  HostBack's walk; conditions as each theorem has them.
-/
import Derived.Test.YtfjglcihlkmpnaaDoorBC
import Derived.Test.YtfjglcihlkmpnaaDoorT2
set_option linter.unusedSimpArgs false
set_option linter.unusedVariables false
namespace Go.Proofs.YtfjglcihlkmpnaaDoor
open Go.RowKit

theorem emp_of {T : ByteArray} {l : List Nat} (h : byt T = l) (h0 : l = []) : T.toList.isEmpty = true ∧ (T.toList == []) = true := by
  have he : T.toList.isEmpty = true := by rw [isEmpty_byt]; simp [h, h0]
  exact ⟨he, by simpa using he⟩
theorem nemp_of {T : ByteArray} {l : List Nat} (h : byt T = l) (h0 : l ≠ []) : T.toList.isEmpty = false ∧ (T.toList == []) = false := by
  have he : T.toList.isEmpty = false := by rw [isEmpty_byt]; simp [h, h0]
  refine ⟨he, ?_⟩
  cases hh : T.toList with
  | nil => rw [hh] at he; cases he
  | cons a b => rfl
/-- The tables, and what the world keeps. -/
structure KS (w0 W : World) : Prop where
  tabs : Tabs W
  pow : Pow W
  bel : Below w0.heap.size w0 W
theorem KS.below {w0 W W' : World} (h : KS w0 W) (k : Below W.heap.size W W') : KS w0 W' :=
  ⟨h.tabs.below k, h.pow.below k, h.bel.trans (k.mono h.bel.size)⟩
theorem Bx6.cells {W : World} {B : Nat} {a0 a1 a2 a3 : Nat} {n : ByteArray} {p : Int} (h : Bx6 W B (a0, a1, a2, a3) n p) :
    W.cell? ⟨B, 0, none⟩ = some (.int .u8 (a0 : Nat)) ∧ W.cell? ⟨B, 1, none⟩ = some (.int .u8 (a1 : Nat)) ∧ W.cell? ⟨B, 2, none⟩ = some (.int .u8 (a2 : Nat)) ∧ W.cell? ⟨B, 3, none⟩ = some (.int .u8 (a3 : Nat)) ∧ W.cell? ⟨B, 4, none⟩ = some (.string n) ∧ W.cell? ⟨B, 5, none⟩ = some (.int .i64 p) :=
  ⟨h.x0, h.x1, h.x2, h.x3, h.x4, h.x5⟩
set_option maxRecDepth 100000 in
set_option maxHeartbeats 8000000 in
theorem back_p0b (a : Ad) (n : ByteArray) (p : Int) (t : ByteArray) (w : World) (hTP : Tabs w ∧ Pow w) (ha : a.ok) (hm : n.size ≤ maxLen) (ht : t.size ≤ maxLen) (hz : t.size ≤ 140737488355328) (hd : det a (byt n) p = []) (hk : (dest (byt t)).2 ≠ .ok) : Calls Tryd.prog 7 #[deV a n p, .string t] w fun e w' => e = .returned (.bool true) ∧ Below w.heap.size w w' := by
  obtain ⟨a0, a1, a2, a3⟩ := a
  obtain ⟨W0, hW0⟩ : ∃ W0, W0 = w.alloc (.cells #[.int .u8 (a0 : Nat), .int .u8 (a1 : Nat), .int .u8 (a2 : Nat), .int .u8 (a3 : Nat), .string n, .int .i64 p] 53) := ⟨_, rfl⟩
  have hb0 : Below w.heap.size w W0 := by rw [hW0]; exact (Below.refl _ _).alloc (Nat.le_refl _) _
  have D0 : Hid (Bx6 W0 w.heap.size (a0, a1, a2, a3) n p) := by rw [hW0]; constructor <;> simp
  have K0 : Hid (KS w W0) := ⟨hTP.1.below hb0, hTP.2.below hb0, hb0⟩
  have HW0 : Hid (w.alloc (.cells #[.int .u8 (a0 : Nat), .int .u8 (a1 : Nat), .int .u8 (a2 : Nat), .int .u8 (a3 : Nat), .string n, .int .i64 p] 53) = W0) := hW0.symm
  obtain ⟨T, hT⟩ : ∃ T, T = strN (det (a0, a1, a2, a3) (byt n) p) := ⟨_, rfl⟩
  have hbT : byt T = det (a0, a1, a2, a3) (byt n) p := by rw [hT]; exact byt_strN _ (det_lt (byt_lt n))
  have PD : Hid (∀ W, Tabs W → Pow W → Calls Tryd.prog 25 #[.agg #[.int .u8 (a0 : Nat), .int .u8 (a1 : Nat), .int .u8 (a2 : Nat), .int .u8 (a3 : Nat), .string n, .int .i64 p]] W fun e w' => e = .returned (.string T) ∧ Below W.heap.size W w') := fun W h1 h2 => by rw [hT]; exact printDest_at (a0, a1, a2, a3) n p W ha hm h1.v h2
  have ea0 : ((a0 : Int) == (a0 : Int)) = true := by simp
  have ea1 : ((a1 : Int) == (a1 : Int)) = true := by simp
  have ea2 : ((a2 : Int) == (a2 : Int)) = true := by simp
  have ea3 : ((a3 : Int) == (a3 : Int)) = true := by simp
  have ea4 : (n.toList == n.toList) = true := by simp
  have ea5 : (p == p) = true := by simp
  obtain ⟨he1, he2⟩ := emp_of hbT hd
  have PB : Hid (∀ W, Tabs W → Calls Tryd.prog 19 #[.string t] W fun e w' => ∃ b, e = .returned (.tuple #[.agg #[.int .u8 0, .int .u8 0, .int .u8 0, .int .u8 0, .string ⟨#[]⟩, .int .i64 0], .iface 96 (.pointer (some ⟨b, 0, none⟩))]) ∧ Below W.heap.size W w') := fun W h => read_bad t W h ht hk
  simp only [deV]
  clear hTP ha hm hz ht hd hk hT hbT hb0 hW0
  go_enter Tryd.func7, Tryd.ntmps7
  go_wp2_with fail
  rw [HW0.out]
  refine (works_at _ K0.out.tabs).mono ?_
  rintro e w1 ⟨rfl, hb⟩
  have K1 := hide (K0.out.below hb)
  have D1 := hide (D0.out.below hb)
  obtain ⟨x0, x1, x2, x3, x4, x5⟩ := D1.out.cells
  clear hb HW0 K0 D0
  go_wp2_with fail
  refine (PD.out _ K1.out.tabs K1.out.pow).mono ?_
  rintro e w2 ⟨rfl, hb⟩
  have K2 := hide (K1.out.below hb)
  have D2 := hide (D1.out.below hb)
  clear hb K1 D1 x0 x1 x2 x3 x4 x5
  go_wp2_with fail
  -- the text
  refine (PB.out _ K2.out.tabs).mono ?_
  rintro e w5 ⟨bb, rfl, hb⟩
  have K5 := hide (K2.out.below hb)
  clear hb
  obtain ⟨W5, hW5⟩ : ∃ W5, W5 = w5.alloc (.cells #[.int .u8 0, .int .u8 0, .int .u8 0, .int .u8 0, .string ⟨#[]⟩, .int .i64 0] 53) := ⟨_, rfl⟩
  have hb : Below w5.heap.size w5 W5 := by rw [hW5]; exact (Below.refl _ _).alloc (Nat.le_refl _) _
  have K6 := hide (K5.out.below hb)
  have HW5 : Hid (w5.alloc (.cells #[.int .u8 0, .int .u8 0, .int .u8 0, .int .u8 0, .string ⟨#[]⟩, .int .i64 0] 53) = W5) := hW5.symm
  clear hb hW5 K5
  go_wp2_with fail
  rw [HW5.out]
  go_ret
  exact ⟨rfl, K6.out.bel⟩
set_option maxRecDepth 100000 in
set_option maxHeartbeats 8000000 in
theorem back_p0g (a : Ad) (n : ByteArray) (p : Int) (t : ByteArray) (w : World) (hTP : Tabs w ∧ Pow w) (ha : a.ok) (hm : n.size ≤ maxLen) (ht : t.size ≤ maxLen) (hz : t.size ≤ 140737488355328) (hd : det a (byt n) p = []) (hk : (dest (byt t)).2 = .ok) : Calls Tryd.prog 7 #[deV a n p, .string t] w fun e w' => e = .returned (.bool true) ∧ Below w.heap.size w w' := by
  obtain ⟨a0, a1, a2, a3⟩ := a
  obtain ⟨W0, hW0⟩ : ∃ W0, W0 = w.alloc (.cells #[.int .u8 (a0 : Nat), .int .u8 (a1 : Nat), .int .u8 (a2 : Nat), .int .u8 (a3 : Nat), .string n, .int .i64 p] 53) := ⟨_, rfl⟩
  have hb0 : Below w.heap.size w W0 := by rw [hW0]; exact (Below.refl _ _).alloc (Nat.le_refl _) _
  have D0 : Hid (Bx6 W0 w.heap.size (a0, a1, a2, a3) n p) := by rw [hW0]; constructor <;> simp
  have K0 : Hid (KS w W0) := ⟨hTP.1.below hb0, hTP.2.below hb0, hb0⟩
  have HW0 : Hid (w.alloc (.cells #[.int .u8 (a0 : Nat), .int .u8 (a1 : Nat), .int .u8 (a2 : Nat), .int .u8 (a3 : Nat), .string n, .int .i64 p] 53) = W0) := hW0.symm
  obtain ⟨T, hT⟩ : ∃ T, T = strN (det (a0, a1, a2, a3) (byt n) p) := ⟨_, rfl⟩
  have hbT : byt T = det (a0, a1, a2, a3) (byt n) p := by rw [hT]; exact byt_strN _ (det_lt (byt_lt n))
  have PD : Hid (∀ W, Tabs W → Pow W → Calls Tryd.prog 25 #[.agg #[.int .u8 (a0 : Nat), .int .u8 (a1 : Nat), .int .u8 (a2 : Nat), .int .u8 (a3 : Nat), .string n, .int .i64 p]] W fun e w' => e = .returned (.string T) ∧ Below W.heap.size W w') := fun W h1 h2 => by rw [hT]; exact printDest_at (a0, a1, a2, a3) n p W ha hm h1.v h2
  have ea0 : ((a0 : Int) == (a0 : Int)) = true := by simp
  have ea1 : ((a1 : Int) == (a1 : Int)) = true := by simp
  have ea2 : ((a2 : Int) == (a2 : Int)) = true := by simp
  have ea3 : ((a3 : Int) == (a3 : Int)) = true := by simp
  have ea4 : (n.toList == n.toList) = true := by simp
  have ea5 : (p == p) = true := by simp
  obtain ⟨he1, he2⟩ := emp_of hbT hd
  obtain ⟨b, m, q, kb, km, kd, kl, kr⟩ := read_good t ht hk
  obtain ⟨b0, b1, b2, b3⟩ := b
  obtain ⟨U, hU⟩ : ∃ U, U = strN (low (byt t)) := ⟨_, rfl⟩
  have PG : Hid (∀ W, Tabs W → Calls Tryd.prog 19 #[.string t] W fun e w' => e = .returned (.tuple #[.agg #[.int .u8 (b0 : Nat), .int .u8 (b1 : Nat), .int .u8 (b2 : Nat), .int .u8 (b3 : Nat), .string m, .int .i64 q], .nilIface]) ∧ Below W.heap.size W w') := fun W h => kr W h
  have PX : Hid (∀ W, Tabs W → Pow W → Calls Tryd.prog 25 #[.agg #[.int .u8 (b0 : Nat), .int .u8 (b1 : Nat), .int .u8 (b2 : Nat), .int .u8 (b3 : Nat), .string m, .int .i64 q]] W fun e w' => e = .returned (.string U) ∧ Below W.heap.size W w') := fun W h1 h2 => by rw [hU, ← kd]; exact printDest_at (b0, b1, b2, b3) m q W kb km h1.v h2
  have PU : Hid (∀ W, Tabs W → Calls Tryd.prog 19 #[.string U] W fun e w' => e = .returned (.tuple #[.agg #[.int .u8 (b0 : Nat), .int .u8 (b1 : Nat), .int .u8 (b2 : Nat), .int .u8 (b3 : Nat), .string m, .int .i64 q], .nilIface]) ∧ Below W.heap.size W w') := fun W h => by rw [hU, ← kd]; exact read_first (b0, b1, b2, b3) m q W h kb (by rw [kd]; exact kl)
  have PL : Hid (∀ W, Calls Tryd.prog 31 #[.string t] W fun e w' => e = .returned (.string U) ∧ Below W.heap.size W w') := fun W => by rw [hU]; exact lower_at t W hz
  have eb0 : ((b0 : Int) == (b0 : Int)) = true := by simp
  have eb1 : ((b1 : Int) == (b1 : Int)) = true := by simp
  have eb2 : ((b2 : Int) == (b2 : Int)) = true := by simp
  have eb3 : ((b3 : Int) == (b3 : Int)) = true := by simp
  have eb4 : (m.toList == m.toList) = true := by simp
  have eb5 : (q == q) = true := by simp
  have eU : (U.toList == U.toList) = true := by simp
  clear kb km kd kl kr hU
  simp only [deV]
  clear hTP ha hm hz ht hd hk hT hbT hb0 hW0
  go_enter Tryd.func7, Tryd.ntmps7
  go_wp2_with fail
  rw [HW0.out]
  refine (works_at _ K0.out.tabs).mono ?_
  rintro e w1 ⟨rfl, hb⟩
  have K1 := hide (K0.out.below hb)
  have D1 := hide (D0.out.below hb)
  obtain ⟨x0, x1, x2, x3, x4, x5⟩ := D1.out.cells
  clear hb HW0 K0 D0
  go_wp2_with fail
  refine (PD.out _ K1.out.tabs K1.out.pow).mono ?_
  rintro e w2 ⟨rfl, hb⟩
  have K2 := hide (K1.out.below hb)
  have D2 := hide (D1.out.below hb)
  clear hb K1 D1 x0 x1 x2 x3 x4 x5
  go_wp2_with fail
  -- the text
  refine (PG.out _ K2.out.tabs).mono ?_
  rintro e w5 ⟨rfl, hb⟩
  have K5 := hide (K2.out.below hb)
  clear hb
  obtain ⟨W5, hW5⟩ : ∃ W5, W5 = w5.alloc (.cells #[.int .u8 (b0 : Nat), .int .u8 (b1 : Nat), .int .u8 (b2 : Nat), .int .u8 (b3 : Nat), .string m, .int .i64 q] 53) := ⟨_, rfl⟩
  have hb : Below w5.heap.size w5 W5 := by rw [hW5]; exact (Below.refl _ _).alloc (Nat.le_refl _) _
  have K6 := hide (K5.out.below hb)
  have F6 : Hid (Bx6 W5 w5.heap.size (b0, b1, b2, b3) m q) := by rw [hW5]; constructor <;> simp
  have HW5 : Hid (w5.alloc (.cells #[.int .u8 (b0 : Nat), .int .u8 (b1 : Nat), .int .u8 (b2 : Nat), .int .u8 (b3 : Nat), .string m, .int .i64 q] 53) = W5) := hW5.symm
  clear hb hW5 K5
  go_wp2_with fail
  rw [HW5.out]
  refine (PX.out _ K6.out.tabs K6.out.pow).mono ?_
  rintro e w7 ⟨rfl, hb⟩
  have K7 := hide (K6.out.below hb)
  have F7 := hide (F6.out.below hb)
  clear hb K6 F6
  go_wp2_with fail
  refine (PU.out _ K7.out.tabs).mono ?_
  rintro e w8 ⟨rfl, hb⟩
  have K8 := hide (K7.out.below hb)
  have F8 := hide (F7.out.below hb)
  clear hb K7 F7
  obtain ⟨W8, hW8⟩ : ∃ W8, W8 = w8.alloc (.cells #[.int .u8 (b0 : Nat), .int .u8 (b1 : Nat), .int .u8 (b2 : Nat), .int .u8 (b3 : Nat), .string m, .int .i64 q] 53) := ⟨_, rfl⟩
  have hb : Below w8.heap.size w8 W8 := by rw [hW8]; exact (Below.refl _ _).alloc (Nat.le_refl _) _
  have K9 := hide (K8.out.below hb)
  have F9 := hide (F8.out.below hb)
  have G9 : Hid (Bx6 W8 w8.heap.size (b0, b1, b2, b3) m q) := by rw [hW8]; constructor <;> simp
  have HW8 : Hid (w8.alloc (.cells #[.int .u8 (b0 : Nat), .int .u8 (b1 : Nat), .int .u8 (b2 : Nat), .int .u8 (b3 : Nat), .string m, .int .i64 q] 53) = W8) := hW8.symm
  clear hb hW8 K8 F8
  go_wp2_with fail
  rw [HW8.out]
  refine (PL.out _).mono ?_
  rintro e wA ⟨rfl, hb⟩
  have KA := hide (K9.out.below hb)
  have FA := hide (F9.out.below hb)
  have GA := hide (G9.out.below hb)
  obtain ⟨z0, z1, z2, z3, z4, z5⟩ := FA.out.cells
  obtain ⟨y0, y1, y2, y3, y4, y5⟩ := GA.out.cells
  clear hb
  go_wp2_with fail
  go_ret
  exact ⟨rfl, KA.out.bel⟩
set_option maxRecDepth 100000 in
set_option maxHeartbeats 8000000 in
theorem back_p1b (a : Ad) (n : ByteArray) (p : Int) (t : ByteArray) (w : World) (hTP : Tabs w ∧ Pow w) (ha : a.ok) (hm : n.size ≤ maxLen) (ht : t.size ≤ maxLen) (hz : t.size ≤ 140737488355328) (hd : det a (byt n) p ≠ []) (hk : (dest (byt t)).2 ≠ .ok) : Calls Tryd.prog 7 #[deV a n p, .string t] w fun e w' => e = .returned (.bool true) ∧ Below w.heap.size w w' := by
  obtain ⟨a0, a1, a2, a3⟩ := a
  obtain ⟨W0, hW0⟩ : ∃ W0, W0 = w.alloc (.cells #[.int .u8 (a0 : Nat), .int .u8 (a1 : Nat), .int .u8 (a2 : Nat), .int .u8 (a3 : Nat), .string n, .int .i64 p] 53) := ⟨_, rfl⟩
  have hb0 : Below w.heap.size w W0 := by rw [hW0]; exact (Below.refl _ _).alloc (Nat.le_refl _) _
  have D0 : Hid (Bx6 W0 w.heap.size (a0, a1, a2, a3) n p) := by rw [hW0]; constructor <;> simp
  have K0 : Hid (KS w W0) := ⟨hTP.1.below hb0, hTP.2.below hb0, hb0⟩
  have HW0 : Hid (w.alloc (.cells #[.int .u8 (a0 : Nat), .int .u8 (a1 : Nat), .int .u8 (a2 : Nat), .int .u8 (a3 : Nat), .string n, .int .i64 p] 53) = W0) := hW0.symm
  obtain ⟨T, hT⟩ : ∃ T, T = strN (det (a0, a1, a2, a3) (byt n) p) := ⟨_, rfl⟩
  have hbT : byt T = det (a0, a1, a2, a3) (byt n) p := by rw [hT]; exact byt_strN _ (det_lt (byt_lt n))
  have PD : Hid (∀ W, Tabs W → Pow W → Calls Tryd.prog 25 #[.agg #[.int .u8 (a0 : Nat), .int .u8 (a1 : Nat), .int .u8 (a2 : Nat), .int .u8 (a3 : Nat), .string n, .int .i64 p]] W fun e w' => e = .returned (.string T) ∧ Below W.heap.size W w') := fun W h1 h2 => by rw [hT]; exact printDest_at (a0, a1, a2, a3) n p W ha hm h1.v h2
  have ea0 : ((a0 : Int) == (a0 : Int)) = true := by simp
  have ea1 : ((a1 : Int) == (a1 : Int)) = true := by simp
  have ea2 : ((a2 : Int) == (a2 : Int)) = true := by simp
  have ea3 : ((a3 : Int) == (a3 : Int)) = true := by simp
  have ea4 : (n.toList == n.toList) = true := by simp
  have ea5 : (p == p) = true := by simp
  have PT : Hid (∀ W, Tabs W → Calls Tryd.prog 19 #[.string T] W fun e w' => e = .returned (.tuple #[.agg #[.int .u8 (a0 : Nat), .int .u8 (a1 : Nat), .int .u8 (a2 : Nat), .int .u8 (a3 : Nat), .string n, .int .i64 p], .nilIface]) ∧ Below W.heap.size W w') := fun W h => by rw [hT]; exact read_first (a0, a1, a2, a3) n p W h ha hd
  obtain ⟨he1, he2⟩ := nemp_of hbT hd
  have PB : Hid (∀ W, Tabs W → Calls Tryd.prog 19 #[.string t] W fun e w' => ∃ b, e = .returned (.tuple #[.agg #[.int .u8 0, .int .u8 0, .int .u8 0, .int .u8 0, .string ⟨#[]⟩, .int .i64 0], .iface 96 (.pointer (some ⟨b, 0, none⟩))]) ∧ Below W.heap.size W w') := fun W h => read_bad t W h ht hk
  simp only [deV]
  clear hTP ha hm hz ht hd hk hT hbT hb0 hW0
  go_enter Tryd.func7, Tryd.ntmps7
  go_wp2_with fail
  rw [HW0.out]
  refine (works_at _ K0.out.tabs).mono ?_
  rintro e w1 ⟨rfl, hb⟩
  have K1 := hide (K0.out.below hb)
  have D1 := hide (D0.out.below hb)
  obtain ⟨x0, x1, x2, x3, x4, x5⟩ := D1.out.cells
  clear hb HW0 K0 D0
  go_wp2_with fail
  refine (PD.out _ K1.out.tabs K1.out.pow).mono ?_
  rintro e w2 ⟨rfl, hb⟩
  have K2 := hide (K1.out.below hb)
  have D2 := hide (D1.out.below hb)
  clear hb K1 D1 x0 x1 x2 x3 x4 x5
  go_wp2_with fail
  refine (PT.out _ K2.out.tabs).mono ?_
  rintro e w3 ⟨rfl, hb⟩
  have K3 := hide (K2.out.below hb)
  have D3 := hide (D2.out.below hb)
  clear hb K2 D2
  obtain ⟨W3, hW3⟩ : ∃ W3, W3 = w3.alloc (.cells #[.int .u8 (a0 : Nat), .int .u8 (a1 : Nat), .int .u8 (a2 : Nat), .int .u8 (a3 : Nat), .string n, .int .i64 p] 53) := ⟨_, rfl⟩
  have hb : Below w3.heap.size w3 W3 := by rw [hW3]; exact (Below.refl _ _).alloc (Nat.le_refl _) _
  have K4 := hide (K3.out.below hb)
  have D4 := hide (D3.out.below hb)
  have E4 : Hid (Bx6 W3 w3.heap.size (a0, a1, a2, a3) n p) := by rw [hW3]; constructor <;> simp
  have HW3 : Hid (w3.alloc (.cells #[.int .u8 (a0 : Nat), .int .u8 (a1 : Nat), .int .u8 (a2 : Nat), .int .u8 (a3 : Nat), .string n, .int .i64 p] 53) = W3) := hW3.symm
  have x0 : (w3.alloc (.cells #[.int .u8 (a0 : Nat), .int .u8 (a1 : Nat), .int .u8 (a2 : Nat), .int .u8 (a3 : Nat), .string n, .int .i64 p] 53)).cell? ⟨w.heap.size, 0, none⟩ = some (.int .u8 (a0 : Nat)) := by rw [HW3.out]; exact D4.out.x0
  have x1 : (w3.alloc (.cells #[.int .u8 (a0 : Nat), .int .u8 (a1 : Nat), .int .u8 (a2 : Nat), .int .u8 (a3 : Nat), .string n, .int .i64 p] 53)).cell? ⟨w.heap.size, 1, none⟩ = some (.int .u8 (a1 : Nat)) := by rw [HW3.out]; exact D4.out.x1
  have x2 : (w3.alloc (.cells #[.int .u8 (a0 : Nat), .int .u8 (a1 : Nat), .int .u8 (a2 : Nat), .int .u8 (a3 : Nat), .string n, .int .i64 p] 53)).cell? ⟨w.heap.size, 2, none⟩ = some (.int .u8 (a2 : Nat)) := by rw [HW3.out]; exact D4.out.x2
  have x3 : (w3.alloc (.cells #[.int .u8 (a0 : Nat), .int .u8 (a1 : Nat), .int .u8 (a2 : Nat), .int .u8 (a3 : Nat), .string n, .int .i64 p] 53)).cell? ⟨w.heap.size, 3, none⟩ = some (.int .u8 (a3 : Nat)) := by rw [HW3.out]; exact D4.out.x3
  have x4 : (w3.alloc (.cells #[.int .u8 (a0 : Nat), .int .u8 (a1 : Nat), .int .u8 (a2 : Nat), .int .u8 (a3 : Nat), .string n, .int .i64 p] 53)).cell? ⟨w.heap.size, 4, none⟩ = some (.string n) := by rw [HW3.out]; exact D4.out.x4
  have x5 : (w3.alloc (.cells #[.int .u8 (a0 : Nat), .int .u8 (a1 : Nat), .int .u8 (a2 : Nat), .int .u8 (a3 : Nat), .string n, .int .i64 p] 53)).cell? ⟨w.heap.size, 5, none⟩ = some (.int .i64 p) := by rw [HW3.out]; exact D4.out.x5
  clear hb hW3 K3 D3 E4
  go_wp2_with fail
  rw [HW3.out]
  -- the text
  refine (PB.out _ K4.out.tabs).mono ?_
  rintro e w5 ⟨bb, rfl, hb⟩
  have K5 := hide (K4.out.below hb)
  clear hb
  obtain ⟨W5, hW5⟩ : ∃ W5, W5 = w5.alloc (.cells #[.int .u8 0, .int .u8 0, .int .u8 0, .int .u8 0, .string ⟨#[]⟩, .int .i64 0] 53) := ⟨_, rfl⟩
  have hb : Below w5.heap.size w5 W5 := by rw [hW5]; exact (Below.refl _ _).alloc (Nat.le_refl _) _
  have K6 := hide (K5.out.below hb)
  have HW5 : Hid (w5.alloc (.cells #[.int .u8 0, .int .u8 0, .int .u8 0, .int .u8 0, .string ⟨#[]⟩, .int .i64 0] 53) = W5) := hW5.symm
  clear hb hW5 K5
  go_wp2_with fail
  rw [HW5.out]
  go_ret
  exact ⟨rfl, K6.out.bel⟩
set_option maxRecDepth 100000 in
set_option maxHeartbeats 8000000 in
theorem back_p1g (a : Ad) (n : ByteArray) (p : Int) (t : ByteArray) (w : World) (hTP : Tabs w ∧ Pow w) (ha : a.ok) (hm : n.size ≤ maxLen) (ht : t.size ≤ maxLen) (hz : t.size ≤ 140737488355328) (hd : det a (byt n) p ≠ []) (hk : (dest (byt t)).2 = .ok) : Calls Tryd.prog 7 #[deV a n p, .string t] w fun e w' => e = .returned (.bool true) ∧ Below w.heap.size w w' := by
  obtain ⟨a0, a1, a2, a3⟩ := a
  obtain ⟨W0, hW0⟩ : ∃ W0, W0 = w.alloc (.cells #[.int .u8 (a0 : Nat), .int .u8 (a1 : Nat), .int .u8 (a2 : Nat), .int .u8 (a3 : Nat), .string n, .int .i64 p] 53) := ⟨_, rfl⟩
  have hb0 : Below w.heap.size w W0 := by rw [hW0]; exact (Below.refl _ _).alloc (Nat.le_refl _) _
  have D0 : Hid (Bx6 W0 w.heap.size (a0, a1, a2, a3) n p) := by rw [hW0]; constructor <;> simp
  have K0 : Hid (KS w W0) := ⟨hTP.1.below hb0, hTP.2.below hb0, hb0⟩
  have HW0 : Hid (w.alloc (.cells #[.int .u8 (a0 : Nat), .int .u8 (a1 : Nat), .int .u8 (a2 : Nat), .int .u8 (a3 : Nat), .string n, .int .i64 p] 53) = W0) := hW0.symm
  obtain ⟨T, hT⟩ : ∃ T, T = strN (det (a0, a1, a2, a3) (byt n) p) := ⟨_, rfl⟩
  have hbT : byt T = det (a0, a1, a2, a3) (byt n) p := by rw [hT]; exact byt_strN _ (det_lt (byt_lt n))
  have PD : Hid (∀ W, Tabs W → Pow W → Calls Tryd.prog 25 #[.agg #[.int .u8 (a0 : Nat), .int .u8 (a1 : Nat), .int .u8 (a2 : Nat), .int .u8 (a3 : Nat), .string n, .int .i64 p]] W fun e w' => e = .returned (.string T) ∧ Below W.heap.size W w') := fun W h1 h2 => by rw [hT]; exact printDest_at (a0, a1, a2, a3) n p W ha hm h1.v h2
  have ea0 : ((a0 : Int) == (a0 : Int)) = true := by simp
  have ea1 : ((a1 : Int) == (a1 : Int)) = true := by simp
  have ea2 : ((a2 : Int) == (a2 : Int)) = true := by simp
  have ea3 : ((a3 : Int) == (a3 : Int)) = true := by simp
  have ea4 : (n.toList == n.toList) = true := by simp
  have ea5 : (p == p) = true := by simp
  have PT : Hid (∀ W, Tabs W → Calls Tryd.prog 19 #[.string T] W fun e w' => e = .returned (.tuple #[.agg #[.int .u8 (a0 : Nat), .int .u8 (a1 : Nat), .int .u8 (a2 : Nat), .int .u8 (a3 : Nat), .string n, .int .i64 p], .nilIface]) ∧ Below W.heap.size W w') := fun W h => by rw [hT]; exact read_first (a0, a1, a2, a3) n p W h ha hd
  obtain ⟨he1, he2⟩ := nemp_of hbT hd
  obtain ⟨b, m, q, kb, km, kd, kl, kr⟩ := read_good t ht hk
  obtain ⟨b0, b1, b2, b3⟩ := b
  obtain ⟨U, hU⟩ : ∃ U, U = strN (low (byt t)) := ⟨_, rfl⟩
  have PG : Hid (∀ W, Tabs W → Calls Tryd.prog 19 #[.string t] W fun e w' => e = .returned (.tuple #[.agg #[.int .u8 (b0 : Nat), .int .u8 (b1 : Nat), .int .u8 (b2 : Nat), .int .u8 (b3 : Nat), .string m, .int .i64 q], .nilIface]) ∧ Below W.heap.size W w') := fun W h => kr W h
  have PX : Hid (∀ W, Tabs W → Pow W → Calls Tryd.prog 25 #[.agg #[.int .u8 (b0 : Nat), .int .u8 (b1 : Nat), .int .u8 (b2 : Nat), .int .u8 (b3 : Nat), .string m, .int .i64 q]] W fun e w' => e = .returned (.string U) ∧ Below W.heap.size W w') := fun W h1 h2 => by rw [hU, ← kd]; exact printDest_at (b0, b1, b2, b3) m q W kb km h1.v h2
  have PU : Hid (∀ W, Tabs W → Calls Tryd.prog 19 #[.string U] W fun e w' => e = .returned (.tuple #[.agg #[.int .u8 (b0 : Nat), .int .u8 (b1 : Nat), .int .u8 (b2 : Nat), .int .u8 (b3 : Nat), .string m, .int .i64 q], .nilIface]) ∧ Below W.heap.size W w') := fun W h => by rw [hU, ← kd]; exact read_first (b0, b1, b2, b3) m q W h kb (by rw [kd]; exact kl)
  have PL : Hid (∀ W, Calls Tryd.prog 31 #[.string t] W fun e w' => e = .returned (.string U) ∧ Below W.heap.size W w') := fun W => by rw [hU]; exact lower_at t W hz
  have eb0 : ((b0 : Int) == (b0 : Int)) = true := by simp
  have eb1 : ((b1 : Int) == (b1 : Int)) = true := by simp
  have eb2 : ((b2 : Int) == (b2 : Int)) = true := by simp
  have eb3 : ((b3 : Int) == (b3 : Int)) = true := by simp
  have eb4 : (m.toList == m.toList) = true := by simp
  have eb5 : (q == q) = true := by simp
  have eU : (U.toList == U.toList) = true := by simp
  clear kb km kd kl kr hU
  simp only [deV]
  clear hTP ha hm hz ht hd hk hT hbT hb0 hW0
  go_enter Tryd.func7, Tryd.ntmps7
  go_wp2_with fail
  rw [HW0.out]
  refine (works_at _ K0.out.tabs).mono ?_
  rintro e w1 ⟨rfl, hb⟩
  have K1 := hide (K0.out.below hb)
  have D1 := hide (D0.out.below hb)
  obtain ⟨x0, x1, x2, x3, x4, x5⟩ := D1.out.cells
  clear hb HW0 K0 D0
  go_wp2_with fail
  refine (PD.out _ K1.out.tabs K1.out.pow).mono ?_
  rintro e w2 ⟨rfl, hb⟩
  have K2 := hide (K1.out.below hb)
  have D2 := hide (D1.out.below hb)
  clear hb K1 D1 x0 x1 x2 x3 x4 x5
  go_wp2_with fail
  refine (PT.out _ K2.out.tabs).mono ?_
  rintro e w3 ⟨rfl, hb⟩
  have K3 := hide (K2.out.below hb)
  have D3 := hide (D2.out.below hb)
  clear hb K2 D2
  obtain ⟨W3, hW3⟩ : ∃ W3, W3 = w3.alloc (.cells #[.int .u8 (a0 : Nat), .int .u8 (a1 : Nat), .int .u8 (a2 : Nat), .int .u8 (a3 : Nat), .string n, .int .i64 p] 53) := ⟨_, rfl⟩
  have hb : Below w3.heap.size w3 W3 := by rw [hW3]; exact (Below.refl _ _).alloc (Nat.le_refl _) _
  have K4 := hide (K3.out.below hb)
  have D4 := hide (D3.out.below hb)
  have E4 : Hid (Bx6 W3 w3.heap.size (a0, a1, a2, a3) n p) := by rw [hW3]; constructor <;> simp
  have HW3 : Hid (w3.alloc (.cells #[.int .u8 (a0 : Nat), .int .u8 (a1 : Nat), .int .u8 (a2 : Nat), .int .u8 (a3 : Nat), .string n, .int .i64 p] 53) = W3) := hW3.symm
  have x0 : (w3.alloc (.cells #[.int .u8 (a0 : Nat), .int .u8 (a1 : Nat), .int .u8 (a2 : Nat), .int .u8 (a3 : Nat), .string n, .int .i64 p] 53)).cell? ⟨w.heap.size, 0, none⟩ = some (.int .u8 (a0 : Nat)) := by rw [HW3.out]; exact D4.out.x0
  have x1 : (w3.alloc (.cells #[.int .u8 (a0 : Nat), .int .u8 (a1 : Nat), .int .u8 (a2 : Nat), .int .u8 (a3 : Nat), .string n, .int .i64 p] 53)).cell? ⟨w.heap.size, 1, none⟩ = some (.int .u8 (a1 : Nat)) := by rw [HW3.out]; exact D4.out.x1
  have x2 : (w3.alloc (.cells #[.int .u8 (a0 : Nat), .int .u8 (a1 : Nat), .int .u8 (a2 : Nat), .int .u8 (a3 : Nat), .string n, .int .i64 p] 53)).cell? ⟨w.heap.size, 2, none⟩ = some (.int .u8 (a2 : Nat)) := by rw [HW3.out]; exact D4.out.x2
  have x3 : (w3.alloc (.cells #[.int .u8 (a0 : Nat), .int .u8 (a1 : Nat), .int .u8 (a2 : Nat), .int .u8 (a3 : Nat), .string n, .int .i64 p] 53)).cell? ⟨w.heap.size, 3, none⟩ = some (.int .u8 (a3 : Nat)) := by rw [HW3.out]; exact D4.out.x3
  have x4 : (w3.alloc (.cells #[.int .u8 (a0 : Nat), .int .u8 (a1 : Nat), .int .u8 (a2 : Nat), .int .u8 (a3 : Nat), .string n, .int .i64 p] 53)).cell? ⟨w.heap.size, 4, none⟩ = some (.string n) := by rw [HW3.out]; exact D4.out.x4
  have x5 : (w3.alloc (.cells #[.int .u8 (a0 : Nat), .int .u8 (a1 : Nat), .int .u8 (a2 : Nat), .int .u8 (a3 : Nat), .string n, .int .i64 p] 53)).cell? ⟨w.heap.size, 5, none⟩ = some (.int .i64 p) := by rw [HW3.out]; exact D4.out.x5
  clear hb hW3 K3 D3 E4
  go_wp2_with fail
  rw [HW3.out]
  -- the text
  refine (PG.out _ K4.out.tabs).mono ?_
  rintro e w5 ⟨rfl, hb⟩
  have K5 := hide (K4.out.below hb)
  clear hb
  obtain ⟨W5, hW5⟩ : ∃ W5, W5 = w5.alloc (.cells #[.int .u8 (b0 : Nat), .int .u8 (b1 : Nat), .int .u8 (b2 : Nat), .int .u8 (b3 : Nat), .string m, .int .i64 q] 53) := ⟨_, rfl⟩
  have hb : Below w5.heap.size w5 W5 := by rw [hW5]; exact (Below.refl _ _).alloc (Nat.le_refl _) _
  have K6 := hide (K5.out.below hb)
  have F6 : Hid (Bx6 W5 w5.heap.size (b0, b1, b2, b3) m q) := by rw [hW5]; constructor <;> simp
  have HW5 : Hid (w5.alloc (.cells #[.int .u8 (b0 : Nat), .int .u8 (b1 : Nat), .int .u8 (b2 : Nat), .int .u8 (b3 : Nat), .string m, .int .i64 q] 53) = W5) := hW5.symm
  clear hb hW5 K5
  go_wp2_with fail
  rw [HW5.out]
  refine (PX.out _ K6.out.tabs K6.out.pow).mono ?_
  rintro e w7 ⟨rfl, hb⟩
  have K7 := hide (K6.out.below hb)
  have F7 := hide (F6.out.below hb)
  clear hb K6 F6
  go_wp2_with fail
  refine (PU.out _ K7.out.tabs).mono ?_
  rintro e w8 ⟨rfl, hb⟩
  have K8 := hide (K7.out.below hb)
  have F8 := hide (F7.out.below hb)
  clear hb K7 F7
  obtain ⟨W8, hW8⟩ : ∃ W8, W8 = w8.alloc (.cells #[.int .u8 (b0 : Nat), .int .u8 (b1 : Nat), .int .u8 (b2 : Nat), .int .u8 (b3 : Nat), .string m, .int .i64 q] 53) := ⟨_, rfl⟩
  have hb : Below w8.heap.size w8 W8 := by rw [hW8]; exact (Below.refl _ _).alloc (Nat.le_refl _) _
  have K9 := hide (K8.out.below hb)
  have F9 := hide (F8.out.below hb)
  have G9 : Hid (Bx6 W8 w8.heap.size (b0, b1, b2, b3) m q) := by rw [hW8]; constructor <;> simp
  have HW8 : Hid (w8.alloc (.cells #[.int .u8 (b0 : Nat), .int .u8 (b1 : Nat), .int .u8 (b2 : Nat), .int .u8 (b3 : Nat), .string m, .int .i64 q] 53) = W8) := hW8.symm
  clear hb hW8 K8 F8
  go_wp2_with fail
  rw [HW8.out]
  refine (PL.out _).mono ?_
  rintro e wA ⟨rfl, hb⟩
  have KA := hide (K9.out.below hb)
  have FA := hide (F9.out.below hb)
  have GA := hide (G9.out.below hb)
  obtain ⟨z0, z1, z2, z3, z4, z5⟩ := FA.out.cells
  obtain ⟨y0, y1, y2, y3, y4, y5⟩ := GA.out.cells
  clear hb
  go_wp2_with fail
  go_ret
  exact ⟨rfl, KA.out.bel⟩
theorem back_walk (a : Ad) (n : ByteArray) (p : Int) (t : ByteArray) (w : World) (hTP : Tabs w ∧ Pow w) (ha : a.ok) (hm : n.size ≤ maxLen) (_ : (Lit.int .i64 p).wf = true) (ht : t.size ≤ maxLen) (hz : t.size ≤ 140737488355328) : Calls Tryd.prog 7 #[deV a n p, .string t] w fun e w' => e = .returned (.bool true) ∧ Below w.heap.size w w' := by
  by_cases hd : det a (byt n) p = []
  · by_cases hk : (dest (byt t)).2 = .ok
    · exact back_p0g a n p t w hTP ha hm ht hz hd hk
    · exact back_p0b a n p t w hTP ha hm ht hz hd hk
  · by_cases hk : (dest (byt t)).2 = .ok
    · exact back_p1g a n p t w hTP ha hm ht hz hd hk
    · exact back_p1b a n p t w hTP ha hm ht hz hd hk
end Go.Proofs.YtfjglcihlkmpnaaDoor
