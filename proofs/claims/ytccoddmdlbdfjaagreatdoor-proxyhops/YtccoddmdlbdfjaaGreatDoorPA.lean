/-
  Addresses, hosts and destinations as texts: printAddr, Print and PrintDest of package host; conditions as each theorem has them.
-/
import Derived.Test.YtccoddmdlbdfjaaGreatDoorJoinedCK
set_option linter.unusedSimpArgs false
set_option linter.unusedVariables false
namespace Go.Proofs.YtccoddmdlbdfjaaGreatDoor
open Go.RowKit

def deV (a : Ad) (n : ByteArray) (p : Int) : Value := .agg #[.int .u8 (a.1 : Nat), .int .u8 (a.2.1 : Nat), .int .u8 (a.2.2.1 : Nat), .int .u8 (a.2.2.2 : Nat), .string n, .int .i64 p]

/-- The table of tens is laid. -/
def Pow (w : World) : Prop := Lib.TabIs Tryz.prog w "internal/strconv.uint64pow10" .u64 Lib.pow10Tab
theorem Pow.below {w w' : World} (h : Pow w) (hb : Below w.heap.size w w') : Pow w' := by
  unfold Pow Lib.TabIs World.var? at h ⊢
  cases hg : Tryz.prog.globalNamed "internal/strconv.uint64pow10" with
  | none => rw [hg] at h; cases h
  | some g =>
    rw [hg] at h
    simp only [Option.bind_some] at h ⊢
    have hlt : g < w.heap.size := by
      rcases Nat.lt_or_ge g w.heap.size with h' | h'
      · exact h'
      · rw [Array.getElem?_eq_none h'] at h; cases h
    rw [hb.block g hlt]
    exact h
/-- An address as a text: of its first so many numbers, and of all. -/
def adk (a0 a1 a2 a3 : Nat) : Nat → List Nat
  | 0 => dec a0
  | 1 => dec a0 ++ 46 :: dec a1
  | 2 => (dec a0 ++ 46 :: dec a1) ++ 46 :: dec a2
  | _ => ((dec a0 ++ 46 :: dec a1) ++ 46 :: dec a2) ++ 46 :: dec a3
def adt (a : Ad) : List Nat := adk a.1 a.2.1 a.2.2.1 a.2.2.2 3
theorem adk_len (a0 a1 a2 a3 : Nat) (h0 : a0 < 256) (h1 : a1 < 256) (h2 : a2 < 256) (h3 : a3 < 256) : ∀ k, (adk a0 a1 a2 a3 k).length ≤ 23
  | 0 => by have := dec_len (n := a0) (by omega); simp [adk]; omega
  | 1 => by have := dec_len (n := a0) (by omega); have := dec_len (n := a1) (by omega); simp [adk]; omega
  | 2 => by have := dec_len (n := a0) (by omega); have := dec_len (n := a1) (by omega); have := dec_len (n := a2) (by omega); simp [adk]; omega
  | _ + 3 => by have := dec_len (n := a0) (by omega); have := dec_len (n := a1) (by omega); have := dec_len (n := a2) (by omega); have := dec_len (n := a3) (by omega); simp [adk]; omega
theorem pt_strN (l : List Nat) : (⟨#[46]⟩ : ByteArray) ++ strN l = strN (46 :: l) := by
  rw [show (⟨#[46]⟩ : ByteArray) = strN [46] from rfl, ← strN_append]; rfl
/-- The k-th number behind the first. -/
def nth3 (a1 a2 a3 : Nat) : Nat → Nat
  | 0 => a1
  | 1 => a2
  | _ => a3
set_option maxRecDepth 100000 in
set_option maxHeartbeats 4000000 in
theorem printAddr_at (a : Ad) (w : World) (ha : a.ok) (hP : Pow w) : Calls Tryz.prog 181 #[adV a] w fun e w' => e = .returned (.string (strN (adt a))) ∧ Below w.heap.size w w' := by
  obtain ⟨a0, a1, a2, a3⟩ := a
  obtain ⟨l0, l1, l2, l3⟩ := ha
  simp only [] at l0 l1 l2 l3
  simp only [adV]
  obtain ⟨w0, hw0⟩ : ∃ w0, w0 = w.alloc (.cells #[.int .u8 (a0 : Nat), .int .u8 (a1 : Nat), .int .u8 (a2 : Nat), .int .u8 (a3 : Nat)] 27) := ⟨_, rfl⟩
  have hb0 : Below w.heap.size w w0 := by rw [hw0]; exact (Below.refl _ _).alloc (Nat.le_refl _) _
  have hr0 : w0.heap[w.heap.size]? = some (.cells #[.int .u8 (a0 : Nat), .int .u8 (a1 : Nat), .int .u8 (a2 : Nat), .int .u8 (a3 : Nat)] 27) := by rw [hw0]; exact alloc_new _ _
  have HP := hide (hP.below hb0)
  have HW0 : Hid (w.alloc (.cells #[.int .u8 (a0 : Nat), .int .u8 (a1 : Nat), .int .u8 (a2 : Nat), .int .u8 (a3 : Nat)] 27) = w0) := hw0.symm
  have c00 : w0.cell? ⟨w.heap.size, 0, none⟩ = some (.int .u8 (a0 : Nat)) := by simp [World.cell?, hr0]
  have B0 := hide hb0
  have R0 := hide hr0
  clear hw0 hb0 hr0 hP
  go_enter Tryz.func181, Tryz.ntmps181
  go_wp2_with fail
  rw [HW0.out]
  refine (itoa_at a0 w0 (by omega) HP.out).mono ?_
  rintro e w1 ⟨rfl, hb1⟩
  have s1 := keepB hb1 R0.out
  have c1 : w1.cell? ⟨w.heap.size, 1, none⟩ = some (.int .u8 (a1 : Nat)) := by simp [World.cell?, s1]
  have c2 : w1.cell? ⟨w.heap.size, 2, none⟩ = some (.int .u8 (a2 : Nat)) := by simp [World.cell?, s1]
  have c3 : w1.cell? ⟨w.heap.size, 3, none⟩ = some (.int .u8 (a3 : Nat)) := by simp [World.cell?, s1]
  have B1 := hide (B0.out.trans (hb1.mono B0.out.size))
  have P1 := hide (HP.out.below hb1)
  clear hb1 s1 B0 R0 HP c00 HW0
  go_wp2_with fail
  clear c1 c2 c3
  go_loopw [3, 17] (fun tv iv wr => ∃ (k : Nat) (T : ByteArray), iv = .int .i64 k ∧ tv = .string T ∧ k ≤ 3 ∧ Hid (T = strN (adk a0 a1 a2 a3 k) ∧ Below w.heap.size w wr ∧ Pow wr)) (fun _ iv _ => (3 - intOf iv).toNat)
  case atStart => exact ⟨0, strN (dec a0), rfl, rfl, by omega, rfl, B1.out, P1.out⟩
  case round =>
    obtain ⟨k, T, rfl, rfl, hk, HI⟩ := hrel
    by_cases hk3 : k = 3
    · subst hk3
      go_wp2_with fail
      go_ret
      exact ⟨by rw [HI.out.1]; rfl, HI.out.2.1⟩
    obtain ⟨x, hx⟩ : ∃ x, x = nth3 a1 a2 a3 k := ⟨_, rfl⟩
    have hxl : x < 256 := by
      rw [hx]; unfold nth3; split <;> omega
    have hdx := dec_len (n := x) (by omega)
    have hix : ∀ W, (Instr.index 258 (.agg #[.int .u8 (a1 : Nat), .int .u8 (a2 : Nat), .int .u8 (a3 : Nat)]) (.int .i64 (k : Nat))).run Tryz.prog W = .ok (.int .u8 (x : Nat)) W := by
      intro W
      rw [hx]
      rcases (show k = 0 ∨ k = 1 ∨ k = 2 by omega) with rfl | rfl | rfl <;> rfl
    have hq : decide ((k : Int) < 3) = true := decide_eq_true (by omega)
    have HK : Hid (adk a0 a1 a2 a3 (k + 1) = adk a0 a1 a2 a3 k ++ 46 :: dec x) := by
      show _ = _
      rw [hx]
      rcases (show k = 0 ∨ k = 1 ∨ k = 2 by omega) with rfl | rfl | rfl <;> rfl
    have hTl : T.size ≤ 23 := by rw [HI.out.1, strN_size]; exact adk_len a0 a1 a2 a3 l0 l1 l2 l3 k
    have hk3' : k ≤ 2 := by omega
    clear hx hk3 hk
    go_wp2_with fail
    obtain ⟨D, hD⟩ : ∃ D, D = strN (dec x) := ⟨_, rfl⟩
    refine (itoa_at x wr (by omega) HI.out.2.2).mono ?_
    rw [← hD]
    rintro e w2 ⟨rfl, hb2⟩
    have hDs : D.size ≤ 5 := by rw [hD, strN_size]; exact hdx
    have n1 : ¬ (9223372036854775807 < 1 + D.size) := by omega
    have n2 : ¬ (9223372036854775807 < T.size + (1 + D.size)) := by omega
    have HD := hide hD
    have B2 := hide (HI.out.2.1.trans (hb2.mono HI.out.2.1.size))
    have P2 := hide (HI.out.2.2.below hb2)
    have T2 := hide HI.out.1
    clear hD hDs hTl hb2 HI
    go_wp2_with fail
    go_roundw
    · refine ⟨k + 1, strN (adk a0 a1 a2 a3 (k + 1)), by rw [show ((k : Int) + 1) = ((k + 1 : Nat) : Int) by omega], ?_, by omega, rfl, B2.out, P2.out⟩
      rw [T2.out, HD.out, pt_strN, ← strN_append, HK.out]
    · show (3 - ((k : Int) + 1)).toNat < (3 - (k : Int)).toNat
      omega
/-- A host as a text. -/
def hot (a : Ad) (n : List Nat) : List Nat := if chk a n = true then (if n = [] then adt a else n) else []
/-- A box of a host, and of a destination. -/
structure Bx5 (w : World) (B : Nat) (a : Ad) (n : ByteArray) : Prop where
  x0 : w.cell? ⟨B, 0, none⟩ = some (.int .u8 (a.1 : Nat))
  x1 : w.cell? ⟨B, 1, none⟩ = some (.int .u8 (a.2.1 : Nat))
  x2 : w.cell? ⟨B, 2, none⟩ = some (.int .u8 (a.2.2.1 : Nat))
  x3 : w.cell? ⟨B, 3, none⟩ = some (.int .u8 (a.2.2.2 : Nat))
  x4 : w.cell? ⟨B, 4, none⟩ = some (.string n)
theorem Bx5.below {w w' : World} {B : Nat} {a : Ad} {n : ByteArray} (h : Bx5 w B a n) (k : Below w.heap.size w w') : Bx5 w' B a n :=
  ⟨(k.cell (lt_of_cell h.x0)).trans h.x0, (k.cell (lt_of_cell h.x1)).trans h.x1, (k.cell (lt_of_cell h.x2)).trans h.x2, (k.cell (lt_of_cell h.x3)).trans h.x3, (k.cell (lt_of_cell h.x4)).trans h.x4⟩
structure Bx6 (w : World) (B : Nat) (a : Ad) (n : ByteArray) (p : Int) : Prop where
  x0 : w.cell? ⟨B, 0, none⟩ = some (.int .u8 (a.1 : Nat))
  x1 : w.cell? ⟨B, 1, none⟩ = some (.int .u8 (a.2.1 : Nat))
  x2 : w.cell? ⟨B, 2, none⟩ = some (.int .u8 (a.2.2.1 : Nat))
  x3 : w.cell? ⟨B, 3, none⟩ = some (.int .u8 (a.2.2.2 : Nat))
  x4 : w.cell? ⟨B, 4, none⟩ = some (.string n)
  x5 : w.cell? ⟨B, 5, none⟩ = some (.int .i64 p)
theorem Bx6.below {w w' : World} {B : Nat} {a : Ad} {n : ByteArray} {p : Int} (h : Bx6 w B a n p) (k : Below w.heap.size w w') : Bx6 w' B a n p :=
  ⟨(k.cell (lt_of_cell h.x0)).trans h.x0, (k.cell (lt_of_cell h.x1)).trans h.x1, (k.cell (lt_of_cell h.x2)).trans h.x2, (k.cell (lt_of_cell h.x3)).trans h.x3, (k.cell (lt_of_cell h.x4)).trans h.x4, (k.cell (lt_of_cell h.x5)).trans h.x5⟩
set_option maxRecDepth 100000 in
set_option maxHeartbeats 4000000 in
theorem print_at (a : Ad) (n : ByteArray) (w : World) (ha : a.ok) (hm : n.size ≤ maxLen) (hV : Vars w) (hP : Pow w) : Calls Tryz.prog 151 #[hoV a n] w fun e w' => e = .returned (.string (strN (hot a (byt n)))) ∧ Below w.heap.size w w' := by
  obtain ⟨a0, a1, a2, a3⟩ := a
  obtain ⟨w0, hw0⟩ : ∃ w0, w0 = w.alloc (.cells #[.int .u8 (a0 : Nat), .int .u8 (a1 : Nat), .int .u8 (a2 : Nat), .int .u8 (a3 : Nat), .string n] 29) := ⟨_, rfl⟩
  have hb0 : Below w.heap.size w w0 := by rw [hw0]; exact (Below.refl _ _).alloc (Nat.le_refl _) _
  have X0 : Hid (Bx5 w0 w.heap.size (a0, a1, a2, a3) n) := by rw [hw0]; constructor <;> simp
  have HW0 : Hid (w.alloc (.cells #[.int .u8 (a0 : Nat), .int .u8 (a1 : Nat), .int .u8 (a2 : Nat), .int .u8 (a3 : Nat), .string n] 29) = w0) := hw0.symm
  have V0 := hide (hV.below hb0)
  have P0 := hide (hP.below hb0)
  have B0 := hide hb0
  obtain ⟨R, hR⟩ : ∃ R, R = chk (a0, a1, a2, a3) (byt n) := ⟨_, rfl⟩
  have HR := hide hR
  have HC : Hid (∀ W, Vars W → Calls Tryz.prog 180 #[.agg #[.int .u8 (a0 : Nat), .int .u8 (a1 : Nat), .int .u8 (a2 : Nat), .int .u8 (a3 : Nat), .string n]] W fun e w' => e = .returned (.bool R) ∧ Below W.heap.size W w') := fun W hW => by rw [hR]; exact check_at (a0, a1, a2, a3) n W hm hW
  have HA : Hid (∀ W, Pow W → Calls Tryz.prog 181 #[.agg #[.int .u8 (a0 : Nat), .int .u8 (a1 : Nat), .int .u8 (a2 : Nat), .int .u8 (a3 : Nat)]] W fun e w' => e = .returned (.string (strN (adt (a0, a1, a2, a3)))) ∧ Below W.heap.size W w') := fun W hW => printAddr_at (a0, a1, a2, a3) W ha hW
  simp only [hoV]
  clear hw0 hb0 hV hP ha hm hR
  go_enter Tryz.func151, Tryz.ntmps151
  go_wp2_with fail
  rw [HW0.out]
  refine (HC.out w0 V0.out).mono ?_
  rintro e w1 ⟨rfl, hk⟩
  have X1 := hide (X0.out.below hk)
  have P1 := hide (P0.out.below hk)
  have B1 := hide (B0.out.trans (hk.mono B0.out.size))
  obtain ⟨x0, x1, x2, x3, x4⟩ := X1.out
  simp only [] at x0 x1 x2 x3 x4
  clear hk X0 P0 V0 B0 HC HW0
  cases R with
  | false =>
    have HF : Hid (hot (a0, a1, a2, a3) (byt n) = []) := by show _ = _; unfold hot; rw [← HR.out]; rfl
    go_wp2_with fail
    go_ret
    exact ⟨by rw [HF.out]; rfl, B1.out⟩
  | true =>
    by_cases h0 : byt n = []
    · have he : n.toList.isEmpty = true := by rw [isEmpty_byt]; simp [h0]
      have he2 : (n.toList == []) = true := by simpa using he
      have HF : Hid (hot (a0, a1, a2, a3) (byt n) = adt (a0, a1, a2, a3)) := by show _ = _; unfold hot; rw [← HR.out, if_pos rfl, if_pos h0]
      clear h0
      go_wp2_with fail
      refine (HA.out _ P1.out).mono ?_
      rintro e w2 ⟨rfl, hk⟩
      have B2 := hide (B1.out.trans (hk.mono B1.out.size))
      clear hk
      go_wp2_with fail
      go_ret
      exact ⟨by rw [HF.out]; rfl, B2.out⟩
    · have he : n.toList.isEmpty = false := by rw [isEmpty_byt]; simp [h0]
      have he2 : (n.toList == []) = false := by
        cases hh : n.toList with
        | nil => rw [hh] at he; cases he
        | cons a b => rfl
      have HF : Hid (hot (a0, a1, a2, a3) (byt n) = byt n) := by show _ = _; unfold hot; rw [← HR.out, if_pos rfl, if_neg h0]
      clear h0
      go_wp2_with fail
      go_ret
      exact ⟨by rw [HF.out, strN_byt]; rfl, B1.out⟩
/-- A destination as a text. -/
def det (a : Ad) (n : List Nat) (p : Int) : List Nat := if chk a n = true ∧ 1 ≤ p ∧ p ≤ 65535 then hot a n ++ 58 :: dec p.toNat else []
theorem name_ok_len {l q : List Nat} (h : name l = (q, .ok)) : l.length ≤ 253 := by
  unfold name at h
  by_cases hl : 253 < l.length
  · rw [if_pos hl] at h; cases h
  · omega
theorem hot_len (a : Ad) (n : List Nat) (ha : a.ok) : (hot a n).length ≤ 253 := by
  unfold hot
  by_cases hc : chk a n = true
  · rw [if_pos hc]
    by_cases h0 : n = []
    · rw [if_pos h0]
      have := adk_len a.1 a.2.1 a.2.2.1 a.2.2.2 ha.1 ha.2.1 ha.2.2.1 ha.2.2.2 3
      unfold adt; omega
    · rw [if_neg h0]
      simp [chk, h0] at hc
      exact name_ok_len hc.1
  · rw [if_neg hc]; simp
set_option maxRecDepth 100000 in
set_option maxHeartbeats 4000000 in
theorem printDest_at (a : Ad) (n : ByteArray) (p : Int) (w : World) (ha : a.ok) (hm : n.size ≤ maxLen) (hV : Vars w) (hP : Pow w) : Calls Tryz.prog 152 #[deV a n p] w fun e w' => e = .returned (.string (strN (det a (byt n) p))) ∧ Below w.heap.size w w' := by
  have hol := hot_len a (byt n) ha
  obtain ⟨a0, a1, a2, a3⟩ := a
  obtain ⟨w0, hw0⟩ : ∃ w0, w0 = w.alloc (.cells #[.int .u8 (a0 : Nat), .int .u8 (a1 : Nat), .int .u8 (a2 : Nat), .int .u8 (a3 : Nat), .string n, .int .i64 p] 31) := ⟨_, rfl⟩
  have hb0 : Below w.heap.size w w0 := by rw [hw0]; exact (Below.refl _ _).alloc (Nat.le_refl _) _
  have X0 : Hid (Bx6 w0 w.heap.size (a0, a1, a2, a3) n p) := by rw [hw0]; constructor <;> simp
  have HW0 : Hid (w.alloc (.cells #[.int .u8 (a0 : Nat), .int .u8 (a1 : Nat), .int .u8 (a2 : Nat), .int .u8 (a3 : Nat), .string n, .int .i64 p] 31) = w0) := hw0.symm
  have V0 := hide (hV.below hb0)
  have P0 := hide (hP.below hb0)
  have B0 := hide hb0
  obtain ⟨R, hR⟩ : ∃ R, R = chk (a0, a1, a2, a3) (byt n) := ⟨_, rfl⟩
  have HR := hide hR
  have HC : Hid (∀ W, Vars W → Calls Tryz.prog 180 #[.agg #[.int .u8 (a0 : Nat), .int .u8 (a1 : Nat), .int .u8 (a2 : Nat), .int .u8 (a3 : Nat), .string n]] W fun e w' => e = .returned (.bool R) ∧ Below W.heap.size W w') := fun W hW => by rw [hR]; exact check_at (a0, a1, a2, a3) n W hm hW
  obtain ⟨T, hT⟩ : ∃ T, T = strN (hot (a0, a1, a2, a3) (byt n)) := ⟨_, rfl⟩
  have hTs : T.size ≤ 253 := by rw [hT, strN_size]; exact hol
  have HTT := hide hT
  have HA : Hid (∀ W, Vars W → Pow W → Calls Tryz.prog 151 #[.agg #[.int .u8 (a0 : Nat), .int .u8 (a1 : Nat), .int .u8 (a2 : Nat), .int .u8 (a3 : Nat), .string n]] W fun e w' => e = .returned (.string T) ∧ Below W.heap.size W w') := fun W hW hW2 => by rw [hT]; exact print_at (a0, a1, a2, a3) n W ha hm hW hW2
  simp only [deV]
  clear hw0 hb0 hV hP ha hm hR hT hol
  go_enter Tryz.func152, Tryz.ntmps152
  go_wp2_with fail
  rw [HW0.out]
  refine (HC.out w0 V0.out).mono ?_
  rintro e w1 ⟨rfl, hk⟩
  have X1 := hide (X0.out.below hk)
  have P1 := hide (P0.out.below hk)
  have V1 := hide (V0.out.below hk)
  have B1 := hide (B0.out.trans (hk.mono B0.out.size))
  obtain ⟨x0, x1, x2, x3, x4, x5⟩ := X1.out
  simp only [] at x0 x1 x2 x3 x4 x5
  clear hk X0 P0 V0 B0 HC HW0
  cases R with
  | false =>
    have HF : Hid (det (a0, a1, a2, a3) (byt n) p = []) := by show _ = _; unfold det; rw [← HR.out]; simp
    go_wp2_with fail
    go_ret
    exact ⟨by rw [HF.out]; rfl, B1.out⟩
  | true =>
    by_cases hp : 1 ≤ p ∧ p ≤ 65535
    · obtain ⟨m, rfl⟩ : ∃ m : Nat, p = m := ⟨p.toNat, by omega⟩
      have hm5 : m ≤ 65535 := by omega
      have hdx := dec_len (n := m) (by omega)
      obtain ⟨D, hD⟩ : ∃ D, D = strN (dec m) := ⟨_, rfl⟩
      have hDs : D.size ≤ 5 := by rw [hD, strN_size]; exact hdx
      have n1 : ¬ (9223372036854775807 < T.size + 1) := by omega
      have n2 : ¬ (9223372036854775807 < T.size + 1 + D.size) := by omega
      have HI : Hid (∀ W, Pow W → Calls Tryz.prog 79 #[.int .i64 (m : Int)] W fun e w' => e = .returned (.string D) ∧ Below W.heap.size W w') := fun W hW => by rw [hD]; exact itoa_at m W (by omega) hW
      have HF : Hid (strN (det (a0, a1, a2, a3) (byt n) (m : Int)) = (T ++ ⟨#[58]⟩) ++ D) := by
        show _ = _
        unfold det
        rw [← HR.out, if_pos ⟨rfl, hp⟩, HTT.out, hD, show (⟨#[58]⟩ : ByteArray) = strN [58] from rfl, ← strN_append, ← strN_append]
        simp
      have HPO : Hid (true = decide (1 ≤ (m : Int) ∧ (m : Int) ≤ 65535)) := (decide_eq_true hp).symm
      clear hp hdx hD hDs hTs hm5
      go_wp2_with fail
      refine (isPort_at (m : Int) _ true HPO.out).mono ?_
      rintro e w2 ⟨rfl, rfl⟩
      go_wp2_with fail
      go_region_held3 (fun w' => w'.cell? ⟨w.heap.size, 0, none⟩ = some (.int .u8 (a0 : Nat)) ∧ w'.cell? ⟨w.heap.size, 1, none⟩ = some (.int .u8 (a1 : Nat)) ∧ w'.cell? ⟨w.heap.size, 2, none⟩ = some (.int .u8 (a2 : Nat)) ∧ w'.cell? ⟨w.heap.size, 3, none⟩ = some (.int .u8 (a3 : Nat)) ∧ w'.cell? ⟨w.heap.size, 4, none⟩ = some (.string n) ∧ w'.cell? ⟨w.heap.size, 5, none⟩ = some (.int .i64 (m : Int))) (go_keep) (first
        | (go_at_call 151; refine (HA.out _ (by exact V1.out) (by exact P1.out)).mono ?_; rintro e wp ⟨rfl, hk⟩; have hk' : Below w1.heap.size w1 wp := ⟨hk.os, hk.tape, hk.output, hk.size, hk.block⟩; have MP := hide (X1.out.below hk'); have PP := hide (P1.out.below hk'); have BP := hide (B1.out.trans (hk'.mono B1.out.size)); obtain ⟨p0, p1, p2, p3, p4, p5⟩ := MP.out; simp only [] at p0 p1 p2 p3 p4 p5; clear hk hk')
        | (go_at_call 79; refine (HI.out _ (by exact PP.out)).mono ?_; rintro e wq ⟨rfl, hk⟩; have hk' : Below wp.heap.size wp wq := ⟨hk.os, hk.tape, hk.output, hk.size, hk.block⟩; have MQ := hide (MP.out.below hk'); have BQ := hide (BP.out.trans (hk'.mono BP.out.size)); obtain ⟨r0, r1, r2, r3, r4, r5⟩ := MQ.out; simp only [] at r0 r1 r2 r3 r4 r5; clear hk hk'))
      go_wp2_with fail
      go_ret
      exact ⟨by rw [HF.out]; rfl, BQ.out⟩
    · have HF : Hid (det (a0, a1, a2, a3) (byt n) p = []) := by show _ = _; unfold det; rw [if_neg (fun h => hp h.2)]
      have HPO : Hid (false = decide (1 ≤ p ∧ p ≤ 65535)) := (decide_eq_false hp).symm
      clear hp
      go_wp2_with fail
      refine (isPort_at p _ false HPO.out).mono ?_
      rintro e w2 ⟨rfl, rfl⟩
      go_wp2_with fail
      go_ret
      exact ⟨by rw [HF.out]; rfl, B1.out⟩
end Go.Proofs.YtccoddmdlbdfjaaGreatDoor
