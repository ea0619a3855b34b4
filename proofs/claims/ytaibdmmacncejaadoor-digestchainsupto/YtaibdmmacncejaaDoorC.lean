/-
  One round of package digest: the words where they stand in memory; conditions as each theorem has them.
-/
import Derived.Test.YtaibdmmacncejaaDoorB
set_option linter.unusedSimpArgs false
set_option linter.unusedVariables false
namespace Go.Proofs.YtaibdmmacncejaaDoor
open Go.RowKit

theorem u32max : IntKind.u32.max = ((4294967295 : Nat) : Int) := by decide
theorem not_nat (e : Nat) (he : e < 4294967296) : bits .xor .u32 IntKind.u32.max (e : Int) = ((4294967295 - e : Nat) : Int) := by
  rw [u32max, u32_xor_nat _ _ (by omega) he]
  congr 1
  apply Nat.eq_of_testBit_eq
  intro i
  have h2 : (4294967295 - e).testBit i = (decide (i < 32) && !e.testBit i) := by
    have := Nat.testBit_two_pow_sub_succ (x := e) (n := 32) he i
    rw [show 2 ^ 32 - (e + 1) = 4294967295 - e by omega] at this
    exact this
  rw [Nat.testBit_xor, h2, show (4294967295 : Nat) = 2 ^ 32 - 1 from rfl, Nat.testBit_two_pow_sub_one]
  by_cases hi : i < 32
  · simp [hi]
  · have : e.testBit i = false := Nat.testBit_lt_two_pow (Nat.lt_of_lt_of_le he (by
      have : 2 ^ 32 ≤ 2 ^ i := Nat.pow_le_pow_right (by omega) (by omega)
      simpa using this))
    simp [hi, this]
theorem fold_bs1 (e : Nat) (he : e < 4294967296) : bits .xor .u32 (bits .xor .u32 (rr e 6 : Nat) (rr e 11 : Nat)) (rr e 25 : Nat) = (bs1 e : Nat) := by
  rw [u32_xor_nat _ _ (rr_lt _ he) (rr_lt _ he), u32_xor_nat _ _ (xor_lt (rr_lt _ he) (rr_lt _ he)) (rr_lt _ he)]; rfl
theorem fold_bs0 (e : Nat) (he : e < 4294967296) : bits .xor .u32 (bits .xor .u32 (rr e 2 : Nat) (rr e 13 : Nat)) (rr e 22 : Nat) = (bs0 e : Nat) := by
  rw [u32_xor_nat _ _ (rr_lt _ he) (rr_lt _ he), u32_xor_nat _ _ (xor_lt (rr_lt _ he) (rr_lt _ he)) (rr_lt _ he)]; rfl
theorem fold_ch (e f g : Nat) (he : e < 4294967296) (hf : f < 4294967296) (hg : g < 4294967296) :
    bits .xor .u32 (bits .and .u32 (e : Int) f) (bits .and .u32 (bits .xor .u32 IntKind.u32.max (e : Int)) g) = (ch e f g : Nat) := by
  rw [not_nat e he, u32_and_nat _ _ he hf, u32_and_nat _ _ (by omega) hg, u32_xor_nat _ _ (and_ltl he) (and_ltr hg)]; rfl
theorem fold_maj (a b c : Nat) (ha : a < 4294967296) (hb : b < 4294967296) (hc : c < 4294967296) :
    bits .xor .u32 (bits .xor .u32 (bits .and .u32 (a : Int) b) (bits .and .u32 (a : Int) c)) (bits .and .u32 (b : Int) c) = (maj a b c : Nat) := by
  rw [u32_and_nat _ _ ha hb, u32_and_nat _ _ ha hc, u32_and_nat _ _ hb hc, u32_xor_nat _ _ (and_ltl ha) (and_ltl ha), u32_xor_nat _ _ (xor_lt (and_ltl ha) (and_ltl ha)) (and_ltl hb)]; rfl

theorem two_sets (w : World) (k : Nat) (a b : Addr) (u v : Value) : (((w.drewN k).setCell a u).setCell b v).drew = ((w.setCell a u).setCell b v).drewN (k + 1) := rfl

set_option maxHeartbeats 4000000 in
theorem round_core (r o t a b c d e f g h x p0 p1 p2 p3 p4 p5 p6 p7 O T D H : Nat) (w : World) (ht : t < 64)
    (ha : a < 4294967296) (hb : b < 4294967296) (hc : c < 4294967296) (hd : d < 4294967296) (he : e < 4294967296) (hf : f < 4294967296) (hg : g < 4294967296) (hh : h < 4294967296) (hx : x < 4294967296)
    (q0 : pl 0 t = p0) (q1 : pl 1 t = p1) (q2 : pl 2 t = p2) (q3 : pl 3 t = p3) (q4 : pl 4 t = p4) (q5 : pl 5 t = p5) (q6 : pl 6 t = p6) (q7 : pl 7 t = p7)
    (l0 : (p0 : Int) < 8) (l1 : (p1 : Int) < 8) (l2 : (p2 : Int) < 8) (l3 : (p3 : Int) < 8) (l4 : (p4 : Int) < 8) (l5 : (p5 : Int) < 8) (l6 : (p6 : Int) < 8) (l7 : (p7 : Int) < 8) (n37 : p3 ≠ p7)
    (c0 : w.cell? ⟨r, o + p0, none⟩ = some (.int .u32 a)) (c1 : w.cell? ⟨r, o + p1, none⟩ = some (.int .u32 b)) (c2 : w.cell? ⟨r, o + p2, none⟩ = some (.int .u32 c)) (c3 : w.cell? ⟨r, o + p3, none⟩ = some (.int .u32 d))
    (c4 : w.cell? ⟨r, o + p4, none⟩ = some (.int .u32 e)) (c5 : w.cell? ⟨r, o + p5, none⟩ = some (.int .u32 f)) (c6 : w.cell? ⟨r, o + p6, none⟩ = some (.int .u32 g)) (c7 : w.cell? ⟨r, o + p7, none⟩ = some (.int .u32 h))
    (f3 : w.frozen? ⟨r, o + p3, none⟩ = false) (f7 : w.frozen? ⟨r, o + p7, none⟩ = false)
    (hO : ((h : Int) + (bs1 e : Nat) + (ch e f g : Nat) + x) % 4294967296 = O) (hT : ((bs0 a : Nat) + (maj a b c : Nat) : Int) % 4294967296 = T)
    (hD : ((d : Int) + O) % 4294967296 = D) (hH : ((O : Int) + T) % 4294967296 = H) :
    Calls Tryd.prog 35 #[.pointer (some ⟨r, o, none⟩), .int .i64 t, .int .u32 x] w fun e w' => e = .returned (.tuple #[]) ∧ ∃ n, w' = ((w.setCell ⟨r, o + p3, none⟩ (.int .u32 D)).setCell ⟨r, o + p7, none⟩ (.int .u32 H)).drewN n := by
  have g1 := fold_bs1 e he
  have g0 := fold_bs0 a ha
  have gc := fold_ch e f g he hf hg
  have gm := fold_maj a b c ha hb hc
  have sg : IntKind.u32.signed = false := rfl
  go_enter Tryd.func35, Tryd.ntmps35
  go_wp2_with fail
  go_quiet (first | (go_at_call 37; refine (place_at _ _ _ (by omega) (by omega) ht).mono ?_; rintro e w1 ⟨rfl, rfl⟩; exact ⟨rfl, _, rfl⟩))
  go_wp2_with fail
  go_quiet (first | (go_at_call 37; refine (place_at _ _ _ (by omega) (by omega) ht).mono ?_; rintro e w1 ⟨rfl, rfl⟩; exact ⟨rfl, _, rfl⟩))
  go_wp2_with (go_at_call 36; refine (right_at _ _ _ (by omega) (by omega) (by omega)).mono ?_; rintro e w1 ⟨rfl, rfl⟩)
  go_region_with (go_at_call 37; refine (place_at _ _ _ (by omega) (by omega) ht).mono ?_; rintro e w1 ⟨rfl, rfl⟩)
  all_goals
    go_wp2_with fail
    go_region_with (go_at_call 37; refine (place_at _ _ _ (by omega) (by omega) ht).mono ?_; rintro e w1 ⟨rfl, rfl⟩)
    all_goals
      go_wp2_with fail
      go_end0
      rw [IntKind.wrap_u32, IntKind.wrap_u32, hD, hH]
      exact ⟨rfl, _, two_sets _ _ _ _ _ _⟩

/-- The words of s, as they stand ahead of round t. -/
def perm (s : St) (t : Nat) : List Nat := (List.range 8).map fun j => s.list.getD ((j + t) % 8) 0
theorem perm_length (s : St) (t : Nat) : (perm s t).length = 8 := by simp [perm]
theorem perm_mod (s : St) (t : Nat) : perm s t = perm s (t % 8) := by
  unfold perm
  apply List.map_congr_left
  intro j _
  rw [Nat.add_mod_mod]
theorem pl_mod (i t : Nat) : pl i t = pl i (t % 8) := by unfold pl; omega
theorem perm_zero (s : St) : perm s 0 = s.list := rfl
theorem perm_all (s : St) (t : Nat) (h : t % 8 = 0) : perm s t = s.list := by rw [perm_mod, h]; rfl
theorem perm_at (s : St) (i t : Nat) (hi : i < 8) : (perm s t).getD (pl i t) 0 = s.list.getD i 0 := by
  have h := pl_lt i t
  have e : (pl i t + t) % 8 = i := by unfold pl; omega
  unfold perm
  rw [List.getD, List.getElem?_map, List.getElem?_range h]
  simp [e]
theorem perm_step (s : St) (x t : Nat) : ((perm s t).set (pl 3 t) ((s.d + one s x) % 4294967296)).set (pl 7 t) ((one s x + two s) % 4294967296) = perm (step s x) (t + 1) := by
  rw [perm_mod s t, pl_mod 3 t, pl_mod 7 t, perm_mod (step s x) (t + 1), show (t + 1) % 8 = (t % 8 + 1) % 8 by omega, ← perm_mod (step s x) (t % 8 + 1)]
  have h : t % 8 < 8 := Nat.mod_lt _ (by omega)
  generalize t % 8 = u at h
  match u, h with
  | 0, _ => rfl
  | 1, _ => rfl
  | 2, _ => rfl
  | 3, _ => rfl
  | 4, _ => rfl
  | 5, _ => rfl
  | 6, _ => rfl
  | 7, _ => rfl

theorem round_at (r o t x : Nat) (ty : TypeId) (pre post : List Value) (s : St) (w : World) (hs : s.Ok) (hx : x < 4294967296) (ht : t < 64) (ho : o = pre.length) (h : Row w r ty (pre ++ nums .u32 (perm s t) ++ post)) :
    Calls Tryd.prog 35 #[.pointer (some ⟨r, o, none⟩), .int .i64 t, .int .u32 x] w fun e w' => e = .returned (.tuple #[]) ∧ Row w' r ty (pre ++ nums .u32 (perm (step s x) (t + 1)) ++ post) ∧ Kept r r w w' := by
  have hc : ∀ i, i < 8 → w.cell? ⟨r, o + pl i t, none⟩ = some (.int .u32 (s.list.getD i 0 : Nat)) := fun i hi => by
    have := h.num (o := o + pl i t) (j := pl i t) (by omega) (by rw [perm_length]; exact pl_lt i t)
    rwa [perm_at s i t hi] at this
  have hl : ∀ i, (pl i t : Int) < 8 := fun i => by have := pl_lt i t; omega
  refine (round_core r o t s.a s.b s.c s.d s.e s.f s.g s.h x (pl 0 t) (pl 1 t) (pl 2 t) (pl 3 t) (pl 4 t) (pl 5 t) (pl 6 t) (pl 7 t) (one s x) (two s) ((s.d + one s x) % 4294967296) ((one s x + two s) % 4294967296) w ht
    hs.a hs.b hs.c hs.d hs.e hs.f hs.g hs.h hx rfl rfl rfl rfl rfl rfl rfl rfl (hl 0) (hl 1) (hl 2) (hl 3) (hl 4) (hl 5) (hl 6) (hl 7) (by unfold pl; omega)
    (hc 0 (by omega)) (hc 1 (by omega)) (hc 2 (by omega)) (hc 3 (by omega)) (hc 4 (by omega)) (hc 5 (by omega)) (hc 6 (by omega)) (hc 7 (by omega)) (h.frozen _) (h.frozen _)
    (by unfold one; simp) (by unfold two; simp) (by simp) (by simp)).mono ?_
  rintro e w' ⟨rfl, n, rfl⟩
  have h1 := h.setNum (o := o + pl 3 t) (j := pl 3 t) (by omega) (by rw [perm_length]; exact pl_lt 3 t) ((s.d + one s x) % 4294967296)
  have h2 := h1.setNum (o := o + pl 7 t) (j := pl 7 t) (by omega) (by rw [List.length_set, perm_length]; exact pl_lt 7 t) ((one s x + two s) % 4294967296)
  rw [perm_step] at h2
  exact ⟨rfl, h2.drewN n, (((Kept.refl r r w).set _ _).set _ _).drewN n⟩

end Go.Proofs.YtaibdmmacncejaaDoor
