/-
  The reader of messages: seconds; conditions as each theorem has them.
-/
import Derived.Test.YtelfikbahcckaaaDoorMA
set_option linter.unusedSimpArgs false
set_option linter.unusedVariables false
namespace Go.Proofs.YtelfikbahcckaaaDoor
open Go.RowKit
theorem or16_i64 (a b : Nat) (ha : a < 65536) (hb : b < 65536) : bits .or .i64 ((a : Int) * 65536) (b : Int) = ((a * 65536 + b : Nat) : Int) := by
  have e : (a : Int) * 65536 = ((a * 65536 : Nat) : Int) := by omega
  rw [e]
  have ho : (a * 65536) ||| b = a * 65536 + b := by
    have := Nat.two_pow_add_eq_or_of_lt (i := 16) (b := b) hb a
    rw [show (2 : Nat) ^ 16 * a = a * 65536 by omega] at this
    exact this.symm
  have h1 : (BitVec.ofInt 64 ((a * 65536 : Nat) : Int)).toNat = a * 65536 := by
    rw [BitVec.ofInt_natCast, BitVec.toNat_ofNat]; exact Nat.mod_eq_of_lt (by omega)
  have h2 : (BitVec.ofInt 64 (b : Int)).toNat = b := by
    rw [BitVec.ofInt_natCast, BitVec.toNat_ofNat]; exact Nat.mod_eq_of_lt (by omega)
  show IntKind.i64.wrap ((BitVec.ofInt 64 ((a * 65536 : Nat) : Int) ||| BitVec.ofInt 64 (b : Int)).toNat : Int) = _
  rw [BitVec.toNat_or, h1, h2, IntKind.wrap_i64, ho]
  omega
theorem and15 (h : Nat) (hh : h < 65536) : h &&& 32768 = if 32768 ≤ h then 32768 else 0 := by
  have t : h.testBit 15 = decide (32768 ≤ h) := by
    rw [Nat.testBit_eq_decide_div_mod_eq, show (2 : Nat) ^ 15 = 32768 from rfl]
    apply decide_eq_decide.2
    omega
  apply Nat.eq_of_testBit_eq
  intro i
  rw [Nat.testBit_and, show (32768 : Nat) = 2 ^ 15 from rfl, Nat.testBit_two_pow]
  by_cases hi : 15 = i
  · subst hi
    rw [t]
    split
    · rename_i hb
      rw [show (2 : Nat) ^ 15 = 32768 from rfl] at hb
      simp [hb]
      decide
    · rename_i hb
      rw [show (2 : Nat) ^ 15 = 32768 from rfl] at hb
      simp [hb]
  · have e : Nat.testBit (2 ^ 15) i = false := by rw [Nat.testBit_two_pow]; simp [hi]
    split
    · rw [e]; simp [hi]
    · simp [hi]
set_option maxRecDepth 100000 in
set_option maxHeartbeats 2000000 in
theorem seconds_at (g : Nat) (a : Option Addr) (n c : Nat) (b : List Nat) (s : Sr) (w : World) (h : Rdr w g 79 [] a n c b s) :
    Calls Tryd.prog 69 #[.pointer (some ⟨g, 0, none⟩)] w fun e w' => e = .returned (.int .i64 (secs (nu b s) (nu b (tk b 2 s)) : Nat)) ∧ Rdr w' g 79 [] a n c b (tk b 2 (tk b 2 s)) ∧ Kept g g w w' := by
  have HBY := h.src.byte
  have hgs := h.block
  have hH := nu_lt HBY s
  have hL := nu_lt HBY (tk b 2 s)
  have HN := hide (number_at g 79 [] a n c b s w.drew h.drew)
  obtain ⟨H, hHH⟩ : ∃ H, H = nu b s := ⟨_, rfl⟩
  obtain ⟨L, hLL⟩ : ∃ L, L = nu b (tk b 2 s) := ⟨_, rfl⟩
  rw [← hHH] at HN hH ⊢
  have HLL : Hid (nu b (tk b 2 s) = L) := hLL.symm
  rw [← hLL] at hL ⊢
  have hor := or16_i64 H L hH hL
  have han := and_i64 H 32768 hH (by omega)
  rw [and15 H hH, show ((32768 : Nat) : Int) = 32768 from rfl] at han
  clear h HBY hHH hLL
  by_cases hb : 32768 ≤ H
  · rw [if_pos hb, show ((32768 : Nat) : Int) = 32768 from rfl] at han
    have HS : Hid (secs H L = 0) := by show _ = _; unfold secs; rw [if_pos hb]
    clear hb
    go_enter Tryd.func69, Tryd.ntmps69
    go_wp2_with fail
    go_region_with (first
      | (go_at_call 45; refine HN2.out.mono ?_; rintro e w2 ⟨rfl, r2, k2⟩; have R2 := hide r2; have K2 := hide (K1.out.trans k2); clear r2 k2)
      | (go_at_call 45; refine HN.out.mono ?_; rintro e w1 ⟨rfl, r1, k1⟩; have HN2 := hide (number_at g 79 [] a n c b (tk b 2 s) w1 r1); rw [HLL.out] at HN2; have K1 := hide k1.of_drew; clear r1 k1))
    all_goals (try go_wp2_with fail)
    all_goals go_ret
    all_goals exact ⟨by rw [HS.out]; rfl, R2.out, K2.out⟩
  · rw [if_neg hb, show ((0 : Nat) : Int) = 0 from rfl] at han
    have HS : Hid (secs H L = H * 65536 + L) := by show _ = _; unfold secs; rw [if_neg hb]
    clear hb
    go_enter Tryd.func69, Tryd.ntmps69
    go_wp2_with fail
    go_region_with (first
      | (go_at_call 45; refine HN2.out.mono ?_; rintro e w2 ⟨rfl, r2, k2⟩; have R2 := hide r2; have K2 := hide (K1.out.trans k2); clear r2 k2)
      | (go_at_call 45; refine HN.out.mono ?_; rintro e w1 ⟨rfl, r1, k1⟩; have HN2 := hide (number_at g 79 [] a n c b (tk b 2 s) w1 r1); rw [HLL.out] at HN2; have K1 := hide k1.of_drew; clear r1 k1))
    all_goals (try go_wp2_with fail)
    all_goals go_ret
    all_goals exact ⟨by rw [HS.out]; simp, R2.out, K2.out⟩
end Go.Proofs.YtelfikbahcckaaaDoor
