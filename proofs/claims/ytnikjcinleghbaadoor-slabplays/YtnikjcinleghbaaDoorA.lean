/-
  The leaf functions of package slab and of math/bits that it calls; conditions as each theorem has them.
-/
import Derived.Test.YtnikjcinleghbaaDoorM
import Derived.WalkKit
import Derived.WalkSpells
import Derived.WalkLawsBesides
import Derived.BigQuiet
import Derived.Deep.RegionHeld3
set_option linter.unusedSimpArgs false
set_option linter.unusedVariables false
namespace Go.Proofs.YtnikjcinleghbaaDoor
open Go.RowKit

theorem hide {p : Prop} (h : p) : Hid p := h

set_option maxHeartbeats 400000 in
theorem mask_at (b : Nat) (hb : b < 4096) (w : World) : Calls Tryd.prog 35 #[.int .i64 b] w fun e w' => e = .returned (.int .u64 ((2 ^ (b % 64) : Nat) : Int)) ∧ w = w' := by
  go_enter Tryd.func35, Tryd.ntmps35
  go_wp2
  go_ret
  refine ⟨?_, rfl⟩
  have h := pow_lt64 b
  have e : IntKind.u64.wrap (2 ^ (b % 64)) = ((2 ^ (b % 64) : Nat) : Int) := by
    rw [IntKind.wrap_u64]
    have e2 : (2 ^ (b % 64) : Int) = ((2 ^ (b % 64) : Nat) : Int) := by simp
    rw [e2]
    exact Int.emod_eq_of_lt (Int.natCast_nonneg _) (Int.ofNat_lt.2 h)
  simp [e]

set_option maxHeartbeats 400000 in
theorem ones_core (x y1 y2 y3 y4 y5 y6 r : Nat) (w : World) (h1 : IntKind.u64.wrap (bits .and .u64 ((x : Int) / 2) 6148914691236517205 + bits .and .u64 (x : Int) 6148914691236517205) = y1)
    (h2 : IntKind.u64.wrap (bits .and .u64 ((y1 : Int) / 4) 3689348814741910323 + bits .and .u64 (y1 : Int) 3689348814741910323) = y2)
    (h3 : bits .and .u64 (IntKind.u64.wrap ((y2 : Int) / 16 + y2)) 1085102592571150095 = y3)
    (h4 : IntKind.u64.wrap ((y3 : Int) + y3 / 256) = y4) (h5 : IntKind.u64.wrap ((y4 : Int) + y4 / 65536) = y5) (h6 : IntKind.u64.wrap ((y5 : Int) + y5 / 4294967296) = y6)
    (h7 : bits .and .i64 (wrap64 y6) 127 = r) : Calls Tryd.prog 38 #[.int .u64 x] w fun e w' => e = .returned (.int .i64 r) ∧ w = w' := by
  go_enter Tryd.func38, Tryd.ntmps38
  go_wp2
  go_ret
  exact ⟨rfl, rfl⟩

theorem and_le_r (a b : Nat) : a &&& b ≤ b := Nat.and_le_right

theorem ones_at (x : Nat) (hx : x < 18446744073709551616) (w : World) : Calls Tryd.prog 38 #[.int .u64 x] w fun e w' => e = .returned (.int .i64 (Lib.onesCount x)) ∧ w = w' := by
  obtain ⟨y, hy, hlt, hs⟩ := swar x hx
  obtain ⟨h6, hr⟩ := hs _ _ _ rfl rfl rfl
  have a1 : S1 8 x < 18446744073709551616 := by
    unfold S1
    rw [rep55]
    have := and_le_r (x / 2) 6148914691236517205
    have := and_le_r x 6148914691236517205
    omega
  have a2 : S2 8 (S1 8 x) < 8000000000000000000 := by
    unfold S2
    rw [rep33]
    have := and_le_r (S1 8 x / 4) 3689348814741910323
    have := and_le_r (S1 8 x) 3689348814741910323
    omega
  refine ones_core x (S1 8 x) (S2 8 (S1 8 x)) y (y + y / 256) (y + y / 256 + (y + y / 256) / 65536) (y + y / 256 + (y + y / 256) / 65536 + (y + y / 256 + (y + y / 256) / 65536) / 4294967296) (Lib.onesCount x) w ?_ ?_ ?_ ?_ ?_ ?_ ?_
  · have e1 := bits_and_u64_nat (x / 2) 6148914691236517205 (by omega) (by omega)
    have e2 := bits_and_u64_nat x 6148914691236517205 (by omega) (by omega)
    have e3 : ((x : Int) / 2) = ((x / 2 : Nat) : Int) := by omega
    rw [e3, show (6148914691236517205 : Int) = ((6148914691236517205 : Nat) : Int) from rfl, e1, e2, IntKind.wrap_u64]
    unfold S1 at a1 ⊢
    rw [rep55] at a1 ⊢
    omega
  · have e1 := bits_and_u64_nat (S1 8 x / 4) 3689348814741910323 (by omega) (by omega)
    have e2 := bits_and_u64_nat (S1 8 x) 3689348814741910323 (by omega) (by omega)
    have e3 : ((S1 8 x : Int) / 4) = ((S1 8 x / 4 : Nat) : Int) := by omega
    rw [e3, show (3689348814741910323 : Int) = ((3689348814741910323 : Nat) : Int) from rfl, e1, e2, IntKind.wrap_u64]
    unfold S2 at a2 ⊢
    rw [rep33] at a2 ⊢
    omega
  · have e0 : IntKind.u64.wrap ((S2 8 (S1 8 x) : Int) / 16 + (S2 8 (S1 8 x) : Nat)) = ((S2 8 (S1 8 x) / 16 + S2 8 (S1 8 x) : Nat) : Int) := by
      rw [IntKind.wrap_u64]; omega
    rw [e0, show (1085102592571150095 : Int) = ((1085102592571150095 : Nat) : Int) from rfl, bits_and_u64_nat _ _ (by omega) (by omega), ← hy]
    unfold S S3
    rw [rep0f]
  · rw [IntKind.wrap_u64]; omega
  · rw [IntKind.wrap_u64]; omega
  · rw [IntKind.wrap_u64]; omega
  · generalize y + y / 256 + (y + y / 256) / 65536 + (y + y / 256 + (y + y / 256) / 65536) / 4294967296 = y6 at h6 hr
    have e0 : wrap64 (y6 : Int) = y6 := by unfold wrap64; omega
    rw [e0, show (127 : Int) = ((127 : Nat) : Int) from rfl, bits_and_i64_nat _ _ h6 (by omega), ← hr, show (127 : Nat) = 2 ^ 7 - 1 from rfl, Nat.and_two_pow_sub_one_eq_mod]

set_option maxHeartbeats 1000000 in
theorem tz_core (x k idx : Nat) (w : World) (hx0 : ((x : Int) == 0) = false)
    (key : IntKind.u64.wrap (bits BinOp.and IntKind.u64 (x : Int) (IntKind.u64.wrap (-(x : Int))) * 285870213051353865) / 288230376151711744 = (idx : Int))
    (hi : idx < 64) (hk : k < 64) (hcell : w.cell? ⟨0, idx, none⟩ = some (.int .u8 k)) :
    Calls Tryd.prog 36 #[.int .u64 x] w fun e w' => e = .returned (.int .i64 k) ∧ w = w' := by
  go_enter Tryd.func36, Tryd.ntmps36
  go_wp2_with (simp only [key])
  go_ret
  exact ⟨rfl, rfl⟩

theorem tz_key (x a : Nat) (hx : x < 18446744073709551616) (hx0 : x ≠ 0) (hlow : x &&& (18446744073709551616 - x) = a) :
    IntKind.u64.wrap (bits BinOp.and IntKind.u64 (x : Int) (IntKind.u64.wrap (-(x : Int))) * 285870213051353865) / 288230376151711744 = ((a * 285870213051353865 % 18446744073709551616 / 288230376151711744 : Nat) : Int) := by
  have e1 : IntKind.u64.wrap (-(x : Int)) = ((18446744073709551616 - x : Nat) : Int) := by rw [IntKind.wrap_u64]; omega
  rw [e1, bits_and_u64_nat x _ hx (by omega), hlow, IntKind.wrap_u64]
  omega

/-- The table of math/bits lies in its variable. -/
def Tab (w : World) : Prop := ∀ j, j < 64 → w.cell? ⟨0, j, none⟩ = some (.int .u8 (Lib.deBruijn64tab.getD j 0 : Nat))

theorem Tab.keep {w w' : World} (h : Tab w) (e : w'.heap[0]? = w.heap[0]?) : Tab w' := fun j hj => by
  rw [World.cell?_of_block (w := w) e]
  exact h j hj

theorem Tab.pos {w : World} (h : Tab w) : 0 < w.heap.size := by
  have := h 0 (by omega)
  unfold World.cell? at this
  cases e : w.heap[0]? with
  | none => simp [e] at this
  | some x => exact (Array.getElem?_eq_some_iff.1 e).1

theorem tz_at (x : Nat) (hx : x < 18446744073709551616) (hx0 : x ≠ 0) (w : World) (hT : Tab w) : Calls Tryd.prog 36 #[.int .u64 x] w fun e w' => e = .returned (.int .i64 (Lib.ctz 64 x)) ∧ w = w' := by
  obtain ⟨hlow, hk⟩ := Lib.lowest_bit 64 x hx0 hx
  obtain ⟨hi, htab⟩ := Lib.deBruijn64_at _ hk
  have hcell := hT _ hi
  rw [htab] at hcell
  exact tz_core x _ _ w (by simp; omega) (tz_key x _ hx hx0 hlow) hi hk hcell

set_option maxHeartbeats 1000000 in
theorem has_core (r o b q m x z : Nat) (w : World) (hb : b < 4096) (hq0 : 64 * q ≤ b) (hq1 : b < 64 * q + 64) (hc : w.cell? ⟨r, o + q, none⟩ = some (.int .u64 x)) (hm : 2 ^ (b % 64) = m) (hz : bits .and .u64 (x : Int) (m : Int) = z) :
    Calls Tryd.prog 37 #[.pointer (some ⟨r, o, none⟩), .int .i64 b] w fun e w' => e = .returned (.bool (!(z == 0))) ∧ ∃ n, w' = w.drewN n := by
  have hd : (b : Int) / 64 = q := by omega
  have hq : q < 64 := by omega
  have hwq : IntKind.i64.wrap (q : Int) = q := by simp [IntKind.wrap, IntKind.signed, IntKind.bits]; omega
  have hmk : ∀ w, Calls Tryd.prog 35 #[.int .i64 b] w fun e w' => e = .returned (.int .u64 (m : Int)) ∧ w = w' := by rw [← hm]; exact mask_at b hb
  clear hm
  go_enter Tryd.func37, Tryd.ntmps37
  go_wp2_with fail
  go_quiet (first | (go_at_call 35; refine (hmk _).mono ?_; rintro e w1 ⟨rfl, rfl⟩; exact ⟨rfl, _, rfl⟩))
  go_wp2
  go_ret
  refine ⟨?_, _, rfl⟩
  have e : ((z : Int) != 0) = !(z == 0) := by cases z <;> simp <;> omega
  simp [e]

set_option maxHeartbeats 1000000 in
theorem add_core (r o b q m x z : Nat) (w : World) (hb : b < 4096) (hq0 : 64 * q ≤ b) (hq1 : b < 64 * q + 64) (hc : w.cell? ⟨r, o + q, none⟩ = some (.int .u64 x)) (hf : w.frozen? ⟨r, o + q, none⟩ = false) (hm : 2 ^ (b % 64) = m) (hz : bits .or .u64 (x : Int) (m : Int) = z) :
    Calls Tryd.prog 26 #[.pointer (some ⟨r, o, none⟩), .int .i64 b] w fun e w' => e = .returned (.tuple #[]) ∧ ∃ n, w' = (w.setCell ⟨r, o + q, none⟩ (.int .u64 z)).drewN n := by
  have hd : (b : Int) / 64 = q := by omega
  have hq : q < 64 := by omega
  have hwq : IntKind.i64.wrap (q : Int) = q := by simp [IntKind.wrap, IntKind.signed, IntKind.bits]; omega
  have hmk : ∀ w, Calls Tryd.prog 35 #[.int .i64 b] w fun e w' => e = .returned (.int .u64 (m : Int)) ∧ w = w' := by rw [← hm]; exact mask_at b hb
  clear hm
  go_enter Tryd.func26, Tryd.ntmps26
  go_wp2_with fail
  go_region_with (go_at_call 35; refine (hmk _).mono ?_; rintro e w1 ⟨rfl, rfl⟩)
  all_goals
    go_wp2_with fail
    go_end0
    exact ⟨rfl, 1, rfl⟩

set_option maxHeartbeats 1000000 in
theorem remove_core (r o b q m x z : Nat) (w : World) (hb : b < 4096) (hq0 : 64 * q ≤ b) (hq1 : b < 64 * q + 64) (hc : w.cell? ⟨r, o + q, none⟩ = some (.int .u64 x)) (hf : w.frozen? ⟨r, o + q, none⟩ = false) (hm : 2 ^ (b % 64) = m) (hz : bits .andNot .u64 (x : Int) (m : Int) = z) :
    Calls Tryd.prog 29 #[.pointer (some ⟨r, o, none⟩), .int .i64 b] w fun e w' => e = .returned (.tuple #[]) ∧ ∃ n, w' = (w.setCell ⟨r, o + q, none⟩ (.int .u64 z)).drewN n := by
  have hd : (b : Int) / 64 = q := by omega
  have hq : q < 64 := by omega
  have hwq : IntKind.i64.wrap (q : Int) = q := by simp [IntKind.wrap, IntKind.signed, IntKind.bits]; omega
  have hmk : ∀ w, Calls Tryd.prog 35 #[.int .i64 b] w fun e w' => e = .returned (.int .u64 (m : Int)) ∧ w = w' := by rw [← hm]; exact mask_at b hb
  clear hm
  go_enter Tryd.func29, Tryd.ntmps29
  go_wp2_with fail
  go_region_with (go_at_call 35; refine (hmk _).mono ?_; rintro e w1 ⟨rfl, rfl⟩)
  all_goals
    go_wp2_with fail
    go_end0
    exact ⟨rfl, 1, rfl⟩

/-- The words of a slab's free set lie from a cell on. -/
structure WordsAt (w : World) (r o : Nat) (ws : List Nat) : Prop where
  cell : ∀ i, i < 64 → w.cell? ⟨r, o + i, none⟩ = some (.int .u64 (ws.getD i 0 : Nat))

theorem and_bit (x k : Nat) : (!(x &&& 2 ^ k == 0)) = x.testBit k := by
  cases h : x.testBit k with
  | true =>
    have h1 : (x &&& 2 ^ k).testBit k = true := by rw [Nat.testBit_and, h, Nat.testBit_two_pow]; simp
    have h2 : x &&& 2 ^ k ≠ 0 := by intro e; rw [e] at h1; simp at h1
    simp [h2]
  | false =>
    have h2 : x &&& 2 ^ k = 0 := by
      apply Nat.eq_of_testBit_eq
      intro i
      rw [Nat.testBit_and, Nat.testBit_two_pow]
      by_cases e : k = i
      · subst e; simp [h]
      · simp [e]
    simp [h2]

theorem has_at (r o b : Nat) (ws : List Nat) (w : World) (hb : b < 4096) (hw : WordsAt w r o ws) (hlt : ∀ i, ws.getD i 0 < 18446744073709551616) :
    Calls Tryd.prog 37 #[.pointer (some ⟨r, o, none⟩), .int .i64 b] w fun e w' => e = .returned (.bool (bit ws b)) ∧ ∃ n, w' = w.drewN n := by
  refine (has_core r o b (b / 64) (2 ^ (b % 64)) _ _ w hb (by omega) (by omega) (hw.cell _ (by omega)) rfl (bits_and_u64_nat _ _ (hlt _) (pow_lt64 b))).mono ?_
  rintro e w' ⟨rfl, hn⟩
  exact ⟨by rw [and_bit]; rfl, hn⟩

set_option maxHeartbeats 1000000 in
theorem least_at (r o : Nat) (ws : List Nat) (hs : List Bool) (k0 : Int) (f0 : Bool) (hR : (lst hs < hs.length ∧ k0 = lst hs ∧ f0 = true) ∨ (lst hs = hs.length ∧ k0 = 0 ∧ f0 = false)) (w : World) (hw : WordsAt w r o ws) (hF : Frees ws hs) (hT : Tab w) (hl : hs.length ≤ 4096) :
    Calls Tryd.prog 28 #[.pointer (some ⟨r, o, none⟩)] w fun e w' => e = .returned (.tuple #[.int .i64 k0, .bool f0]) ∧ ∃ n, w' = w.drewN n := by
  have HR := hide hR
  clear hR
  have HW := hide hw
  have HF := hide hF
  have HT := hide hT
  clear hw hF hT
  go_enter Tryd.func28, Tryd.ntmps28
  go_wp2_with fail
  go_loopw [7] (fun i wr => ∃ j : Nat, j ≤ 64 ∧ i = .int .i64 j ∧ Hid (∀ k, k < j → ws.getD k 0 = 0) ∧ Hid (∃ n, wr = w.drewN n)) (fun i _ => 64 - (intOf i).toNat)
  case atStart => exact ⟨0, by omega, rfl, fun k hk => by omega, 0, rfl⟩
  case round =>
    obtain ⟨j, hj, rfl, HZ, HN⟩ := hrel
    obtain ⟨n0, hn0⟩ := HN.out
    subst hn0
    clear HN
    by_cases h1 : j < 64
    · have hc : w.cell? ⟨r, o + j, none⟩ = some (.int .u64 (ws.getD j 0 : Nat)) := HW.out.cell j h1
      obtain ⟨x, hx⟩ : ∃ x, x = ws.getD j 0 := ⟨_, rfl⟩
      rw [← hx] at hc
      have HX := hide hx
      clear hx
      by_cases h2 : x = 0
      · subst h2
        go_wp2_with fail
        go_quiet (fail)
        go_wp2_with fail
        go_roundw
        case rel => exact ⟨j + 1, by omega, by go_num, (fun k hk => by
          rcases Nat.lt_or_ge k j with h | h
          · exact HZ.out k h
          · obtain rfl : k = j := by omega
            exact HX.out.symm), _, rfl⟩
        case measure => simp [intOf]; omega
      · have hx0 : ((x : Int) == 0) = false := by simp; omega
        have hlt : x < 18446744073709551616 := by rw [HX.out]; exact HF.out.lt j
        obtain ⟨f1, f2⟩ := least_found HF.out j h1 HZ.out (by rw [← HX.out]; exact h2)
        rw [← HX.out] at f1 f2
        obtain ⟨c, hc2⟩ : ∃ c, c = Lib.ctz 64 x := ⟨_, rfl⟩
        rw [← hc2] at f1 f2
        have F1 := hide f1
        have F2 := hide f2
        have HC2 := hide hc2
        have hcl : c < 4096 := by omega
        clear f1 f2 hc2
        go_wp2_with fail
        go_quiet (fail)
        go_wp2_with fail
        refine (tz_at x hlt h2 (w.drewN _) (HT.out.keep rfl)).mono ?_
        rintro e w1 ⟨rfl, rfl⟩
        rw [← HC2.out]
        go_wp2_with fail
        go_ret2
        refine ⟨?_, _, rfl⟩
        have f1 := F1.out
        have f2 := F2.out
        rcases HR.out with ⟨_, rfl, rfl⟩ | ⟨h, _⟩
        · rw [f2]
          rfl
        · omega
    · obtain rfl : j = 64 := by omega
      go_wp2_with fail
      go_ret2
      refine ⟨?_, _, rfl⟩
      have hn := least_none HF.out hl HZ.out
      rcases HR.out with ⟨h, _⟩ | ⟨_, rfl, rfl⟩
      · omega
      · rfl

set_option maxHeartbeats 1000000 in
theorem count_at (r o : Nat) (ws : List Nat) (hs : List Bool) (w : World) (hw : WordsAt w r o ws) (hF : Frees ws hs) (hl : hs.length ≤ 4096) :
    Calls Tryd.prog 34 #[.pointer (some ⟨r, o, none⟩)] w fun e w' => e = .returned (.int .i64 (hs.count false)) ∧ ∃ n, w' = w.drewN n := by
  have HW := hide hw
  have HF := hide hF
  clear hw hF
  go_enter Tryd.func34, Tryd.ntmps34
  go_wp2_with fail
  go_loopw [3, 7] (fun n i wr => ∃ j : Nat, j ≤ 64 ∧ i = .int .i64 j ∧ n = .int .i64 (cnt ws j) ∧ Hid (∃ n, wr = w.drewN n)) (fun _ i _ => 64 - (intOf i).toNat)
  case atStart => exact ⟨0, by omega, rfl, rfl, 0, rfl⟩
  case round =>
    obtain ⟨j, hj, rfl, rfl, HN⟩ := hrel
    obtain ⟨n0, hn0⟩ := HN.out
    subst hn0
    clear HN
    have hle := cnt_le ws j
    by_cases h1 : j < 64
    · have hc : w.cell? ⟨r, o + j, none⟩ = some (.int .u64 (ws.getD j 0 : Nat)) := HW.out.cell j h1
      have hlt := HF.out.lt j
      have hle2 := cnt_le ws (j + 1)
      rw [cnt] at hle2
      obtain ⟨c, hc0⟩ : ∃ c, c = cnt ws j := ⟨_, rfl⟩
      rw [← hc0] at hle hle2 ⊢
      have HC0 := hide hc0
      clear hc0
      obtain ⟨x, hx⟩ : ∃ x, x = ws.getD j 0 := ⟨_, rfl⟩
      rw [← hx] at hc hlt hle2
      have hone : ∀ w, Calls Tryd.prog 38 #[.int .u64 x] w fun e w' => e = .returned (.int .i64 (Lib.onesCount x)) ∧ w = w' := fun w => ones_at x hlt w
      obtain ⟨y, hy⟩ : ∃ y, y = Lib.onesCount x := ⟨_, rfl⟩
      rw [← hy] at hone hle2
      have HY : Hid (y = Lib.onesCount (ws.getD j 0)) := by rw [← hx]; exact hy
      clear hx hy
      go_wp2_with fail
      refine (hone _).mono ?_
      rintro e w1 ⟨rfl, rfl⟩
      clear hone
      go_wp2_with fail
      go_roundw
      case rel => exact ⟨j + 1, by omega, by go_num, by rw [cnt, ← HC0.out, ← HY.out]; go_num, _, rfl⟩
      case measure => simp [intOf]; omega
    · obtain rfl : j = 64 := by omega
      go_wp2_with fail
      go_ret
      refine ⟨?_, _, rfl⟩
      rw [← HF.out.count hl]
      rfl

end Go.Proofs.YtnikjcinleghbaaDoor
