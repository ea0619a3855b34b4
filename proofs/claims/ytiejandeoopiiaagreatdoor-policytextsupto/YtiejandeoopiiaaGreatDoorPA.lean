/-
  Addresses, hosts and destinations as texts: printAddr, Print and PrintDest of package host; conditions as each theorem has them.
-/
import Derived.Test.YtiejandeoopiiaaGreatDoorIT
set_option linter.unusedSimpArgs false
set_option linter.unusedVariables false
namespace Go.Proofs.YtiejandeoopiiaaGreatDoor
open Go.RowKit

/-- The table of tens is laid. -/
def Pow (w : World) : Prop := Lib.TabIs Tryz.prog w "internal/strconv.uint64pow10" .u64 Lib.pow10Tab
theorem Pow.below {w w' : World} (h : Pow w) (hb : Below w.heap.size w w') : Pow w' := by
  unfold Pow Lib.TabIs World.var? at h ⊢
  cases hg : Tryz.prog.globalNamed "internal/strconv.uint64pow10" with
  | none => rw [hg] at h; cases h
  | some g =>
    rw [hg] at h
    simp only [Option.bind_some] at h ⊢
    have hlt : g < w.heap.size := by
      rcases Nat.lt_or_ge g w.heap.size with h' | h'
      · exact h'
      · rw [Array.getElem?_eq_none h'] at h; cases h
    rw [hb.block g hlt]
    exact h
theorem pt_strN (l : List Nat) : (⟨#[46]⟩ : ByteArray) ++ strN l = strN (46 :: l) := by
  rw [show (⟨#[46]⟩ : ByteArray) = strN [46] from rfl, ← strN_append]; rfl
/-- The k-th number behind the first. -/
def nth3 (a1 a2 a3 : Nat) : Nat → Nat
  | 0 => a1
  | 1 => a2
  | _ => a3
set_option maxRecDepth 100000 in
set_option maxHeartbeats 4000000 in
theorem printAddr_at (a : Ad) (w : World) (ha : a.ok) (hP : Pow w) : Calls Tryz.prog 64 #[adV a] w fun e w' => e = .returned (.string (strN (adt a))) ∧ Below w.heap.size w w' := by
  obtain ⟨a0, a1, a2, a3⟩ := a
  obtain ⟨l0, l1, l2, l3⟩ := ha
  simp only [] at l0 l1 l2 l3
  simp only [adV]
  obtain ⟨w0, hw0⟩ : ∃ w0, w0 = w.alloc (.cells #[.int .u8 (a0 : Nat), .int .u8 (a1 : Nat), .int .u8 (a2 : Nat), .int .u8 (a3 : Nat)] 24) := ⟨_, rfl⟩
  have hb0 : Below w.heap.size w w0 := by rw [hw0]; exact (Below.refl _ _).alloc (Nat.le_refl _) _
  have hr0 : w0.heap[w.heap.size]? = some (.cells #[.int .u8 (a0 : Nat), .int .u8 (a1 : Nat), .int .u8 (a2 : Nat), .int .u8 (a3 : Nat)] 24) := by rw [hw0]; exact alloc_new _ _
  have HP := hide (hP.below hb0)
  have HW0 : Hid (w.alloc (.cells #[.int .u8 (a0 : Nat), .int .u8 (a1 : Nat), .int .u8 (a2 : Nat), .int .u8 (a3 : Nat)] 24) = w0) := hw0.symm
  have c00 : w0.cell? ⟨w.heap.size, 0, none⟩ = some (.int .u8 (a0 : Nat)) := by simp [World.cell?, hr0]
  have B0 := hide hb0
  have R0 := hide hr0
  clear hw0 hb0 hr0 hP
  go_enter Tryz.func64, Tryz.ntmps64
  go_wp2_with fail
  rw [HW0.out]
  refine (itoa_at a0 w0 (by omega) HP.out).mono ?_
  rintro e w1 ⟨rfl, hb1⟩
  have s1 := keepB hb1 R0.out
  have c1 : w1.cell? ⟨w.heap.size, 1, none⟩ = some (.int .u8 (a1 : Nat)) := by simp [World.cell?, s1]
  have c2 : w1.cell? ⟨w.heap.size, 2, none⟩ = some (.int .u8 (a2 : Nat)) := by simp [World.cell?, s1]
  have c3 : w1.cell? ⟨w.heap.size, 3, none⟩ = some (.int .u8 (a3 : Nat)) := by simp [World.cell?, s1]
  have B1 := hide (B0.out.trans (hb1.mono B0.out.size))
  have P1 := hide (HP.out.below hb1)
  clear hb1 s1 B0 R0 HP c00 HW0
  go_wp2_with fail
  clear c1 c2 c3
  go_loopw [3, 17] (fun tv iv wr => ∃ (k : Nat) (T : ByteArray), iv = .int .i64 k ∧ tv = .string T ∧ k ≤ 3 ∧ Hid (T = strN (adk a0 a1 a2 a3 k) ∧ Below w.heap.size w wr ∧ Pow wr)) (fun _ iv _ => (3 - intOf iv).toNat)
  case atStart => exact ⟨0, strN (dec a0), rfl, rfl, by omega, rfl, B1.out, P1.out⟩
  case round =>
    obtain ⟨k, T, rfl, rfl, hk, HI⟩ := hrel
    by_cases hk3 : k = 3
    · subst hk3
      go_wp2_with fail
      go_ret
      exact ⟨by rw [HI.out.1]; rfl, HI.out.2.1⟩
    obtain ⟨x, hx⟩ : ∃ x, x = nth3 a1 a2 a3 k := ⟨_, rfl⟩
    have hxl : x < 256 := by
      rw [hx]; unfold nth3; split <;> omega
    have hdx := dec_len (n := x) (by omega)
    have hix : ∀ W, (Instr.index 113 (.agg #[.int .u8 (a1 : Nat), .int .u8 (a2 : Nat), .int .u8 (a3 : Nat)]) (.int .i64 (k : Nat))).run Tryz.prog W = .ok (.int .u8 (x : Nat)) W := by
      intro W
      rw [hx]
      rcases (show k = 0 ∨ k = 1 ∨ k = 2 by omega) with rfl | rfl | rfl <;> rfl
    have hq : decide ((k : Int) < 3) = true := decide_eq_true (by omega)
    have HK : Hid (adk a0 a1 a2 a3 (k + 1) = adk a0 a1 a2 a3 k ++ 46 :: dec x) := by
      show _ = _
      rw [hx]
      rcases (show k = 0 ∨ k = 1 ∨ k = 2 by omega) with rfl | rfl | rfl <;> rfl
    have hTl : T.size ≤ 23 := by rw [HI.out.1, strN_size]; exact adk_len a0 a1 a2 a3 l0 l1 l2 l3 k
    have hk3' : k ≤ 2 := by omega
    clear hx hk3 hk
    go_wp2_with fail
    obtain ⟨D, hD⟩ : ∃ D, D = strN (dec x) := ⟨_, rfl⟩
    refine (itoa_at x wr (by omega) HI.out.2.2).mono ?_
    rw [← hD]
    rintro e w2 ⟨rfl, hb2⟩
    have hDs : D.size ≤ 5 := by rw [hD, strN_size]; exact hdx
    have n1 : ¬ (9223372036854775807 < 1 + D.size) := by omega
    have n2 : ¬ (9223372036854775807 < T.size + (1 + D.size)) := by omega
    have HD := hide hD
    have B2 := hide (HI.out.2.1.trans (hb2.mono HI.out.2.1.size))
    have P2 := hide (HI.out.2.2.below hb2)
    have T2 := hide HI.out.1
    clear hD hDs hTl hb2 HI
    go_wp2_with fail
    go_roundw
    · refine ⟨k + 1, strN (adk a0 a1 a2 a3 (k + 1)), by rw [show ((k : Int) + 1) = ((k + 1 : Nat) : Int) by omega], ?_, by omega, rfl, B2.out, P2.out⟩
      rw [T2.out, HD.out, pt_strN, ← strN_append, HK.out]
    · show (3 - ((k : Int) + 1)).toNat < (3 - (k : Int)).toNat
      omega
/-- A box of a host, and of a destination. -/
structure Bx5 (w : World) (B : Nat) (a : Ad) (n : ByteArray) : Prop where
  x0 : w.cell? ⟨B, 0, none⟩ = some (.int .u8 (a.1 : Nat))
  x1 : w.cell? ⟨B, 1, none⟩ = some (.int .u8 (a.2.1 : Nat))
  x2 : w.cell? ⟨B, 2, none⟩ = some (.int .u8 (a.2.2.1 : Nat))
  x3 : w.cell? ⟨B, 3, none⟩ = some (.int .u8 (a.2.2.2 : Nat))
  x4 : w.cell? ⟨B, 4, none⟩ = some (.string n)
theorem Bx5.below {w w' : World} {B : Nat} {a : Ad} {n : ByteArray} (h : Bx5 w B a n) (k : Below w.heap.size w w') : Bx5 w' B a n :=
  ⟨(k.cell (lt_of_cell h.x0)).trans h.x0, (k.cell (lt_of_cell h.x1)).trans h.x1, (k.cell (lt_of_cell h.x2)).trans h.x2, (k.cell (lt_of_cell h.x3)).trans h.x3, (k.cell (lt_of_cell h.x4)).trans h.x4⟩
structure Bx6 (w : World) (B : Nat) (a : Ad) (n : ByteArray) (p : Int) : Prop where
  x0 : w.cell? ⟨B, 0, none⟩ = some (.int .u8 (a.1 : Nat))
  x1 : w.cell? ⟨B, 1, none⟩ = some (.int .u8 (a.2.1 : Nat))
  x2 : w.cell? ⟨B, 2, none⟩ = some (.int .u8 (a.2.2.1 : Nat))
  x3 : w.cell? ⟨B, 3, none⟩ = some (.int .u8 (a.2.2.2 : Nat))
  x4 : w.cell? ⟨B, 4, none⟩ = some (.string n)
  x5 : w.cell? ⟨B, 5, none⟩ = some (.int .i64 p)
theorem Bx6.below {w w' : World} {B : Nat} {a : Ad} {n : ByteArray} {p : Int} (h : Bx6 w B a n p) (k : Below w.heap.size w w') : Bx6 w' B a n p :=
  ⟨(k.cell (lt_of_cell h.x0)).trans h.x0, (k.cell (lt_of_cell h.x1)).trans h.x1, (k.cell (lt_of_cell h.x2)).trans h.x2, (k.cell (lt_of_cell h.x3)).trans h.x3, (k.cell (lt_of_cell h.x4)).trans h.x4, (k.cell (lt_of_cell h.x5)).trans h.x5⟩
set_option maxRecDepth 100000 in
set_option maxHeartbeats 4000000 in
theorem print_at (a : Ad) (n : ByteArray) (w : World) (ha : a.ok) (hm : n.size ≤ maxLen) (hV : Vars w) (hP : Pow w) : Calls Tryz.prog 46 #[hoV a n] w fun e w' => e = .returned (.string (strN (hot a (byt n)))) ∧ Below w.heap.size w w' := by
  obtain ⟨a0, a1, a2, a3⟩ := a
  obtain ⟨w0, hw0⟩ : ∃ w0, w0 = w.alloc (.cells #[.int .u8 (a0 : Nat), .int .u8 (a1 : Nat), .int .u8 (a2 : Nat), .int .u8 (a3 : Nat), .string n] 26) := ⟨_, rfl⟩
  have hb0 : Below w.heap.size w w0 := by rw [hw0]; exact (Below.refl _ _).alloc (Nat.le_refl _) _
  have X0 : Hid (Bx5 w0 w.heap.size (a0, a1, a2, a3) n) := by rw [hw0]; constructor <;> simp
  have HW0 : Hid (w.alloc (.cells #[.int .u8 (a0 : Nat), .int .u8 (a1 : Nat), .int .u8 (a2 : Nat), .int .u8 (a3 : Nat), .string n] 26) = w0) := hw0.symm
  have V0 := hide (hV.below hb0)
  have P0 := hide (hP.below hb0)
  have B0 := hide hb0
  obtain ⟨R, hR⟩ : ∃ R, R = chk (a0, a1, a2, a3) (byt n) := ⟨_, rfl⟩
  have HR := hide hR
  have HC : Hid (∀ W, Vars W → Calls Tryz.prog 23 #[.agg #[.int .u8 (a0 : Nat), .int .u8 (a1 : Nat), .int .u8 (a2 : Nat), .int .u8 (a3 : Nat), .string n]] W fun e w' => e = .returned (.bool R) ∧ Below W.heap.size W w') := fun W hW => by rw [hR]; exact check_at (a0, a1, a2, a3) n W hm hW
  have HA : Hid (∀ W, Pow W → Calls Tryz.prog 64 #[.agg #[.int .u8 (a0 : Nat), .int .u8 (a1 : Nat), .int .u8 (a2 : Nat), .int .u8 (a3 : Nat)]] W fun e w' => e = .returned (.string (strN (adt (a0, a1, a2, a3)))) ∧ Below W.heap.size W w') := fun W hW => printAddr_at (a0, a1, a2, a3) W ha hW
  simp only [hoV]
  clear hw0 hb0 hV hP ha hm hR
  go_enter Tryz.func46, Tryz.ntmps46
  go_wp2_with fail
  rw [HW0.out]
  refine (HC.out w0 V0.out).mono ?_
  rintro e w1 ⟨rfl, hk⟩
  have X1 := hide (X0.out.below hk)
  have P1 := hide (P0.out.below hk)
  have B1 := hide (B0.out.trans (hk.mono B0.out.size))
  obtain ⟨x0, x1, x2, x3, x4⟩ := X1.out
  simp only [] at x0 x1 x2 x3 x4
  clear hk X0 P0 V0 B0 HC HW0
  cases R with
  | false =>
    have HF : Hid (hot (a0, a1, a2, a3) (byt n) = []) := by show _ = _; unfold hot; rw [← HR.out]; rfl
    go_wp2_with fail
    go_ret
    exact ⟨by rw [HF.out]; rfl, B1.out⟩
  | true =>
    by_cases h0 : byt n = []
    · have he : n.toList.isEmpty = true := by rw [isEmpty_byt]; simp [h0]
      have he2 : (n.toList == []) = true := by simpa using he
      have HF : Hid (hot (a0, a1, a2, a3) (byt n) = adt (a0, a1, a2, a3)) := by show _ = _; unfold hot; rw [← HR.out, if_pos rfl, if_pos h0]
      clear h0
      go_wp2_with fail
      refine (HA.out _ P1.out).mono ?_
      rintro e w2 ⟨rfl, hk⟩
      have B2 := hide (B1.out.trans (hk.mono B1.out.size))
      clear hk
      go_wp2_with fail
      go_ret
      exact ⟨by rw [HF.out]; rfl, B2.out⟩
    · have he : n.toList.isEmpty = false := by rw [isEmpty_byt]; simp [h0]
      have he2 : (n.toList == []) = false := by
        cases hh : n.toList with
        | nil => rw [hh] at he; cases he
        | cons a b => rfl
      have HF : Hid (hot (a0, a1, a2, a3) (byt n) = byt n) := by show _ = _; unfold hot; rw [← HR.out, if_pos rfl, if_neg h0]
      clear h0
      go_wp2_with fail
      go_ret
      exact ⟨by rw [HF.out, strN_byt]; rfl, B1.out⟩
end Go.Proofs.YtiejandeoopiiaaGreatDoor
