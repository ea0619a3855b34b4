/-
  Own, When and Gap of the reference; conditions as each theorem has them.
-/
import Derived.Test.YtidalhdhaagpaaaJ
set_option linter.unusedSimpArgs false
set_option linter.unusedVariables false
namespace Go.Proofs.Ytidalhdhaagpaaa
open Go.RowKit

theorem Tab.same {w w' : World} {a : Option Addr} {b o n : Nat} {T : List (Int × Int)} (h : Tab w a b o n T) (e : w'.heap = w.heap) : Tab w' a b o n T :=
  ⟨h.len, fun h0 => ⟨(h.ptr h0).1, by rw [e]; exact (h.ptr h0).2⟩, fun i p hp => by
    obtain ⟨c0, c1⟩ := h.cells i p hp
    have e2 : w'.heap[b]? = w.heap[b]? := by rw [e]
    exact ⟨(World.cell?_of_block (a := ⟨b, o + i * 2, none⟩) e2).trans c0, (World.cell?_of_block (a := ⟨b, o + i * 2 + 1, none⟩) e2).trans c1⟩, h.max⟩

set_option maxHeartbeats 2000000 in
theorem rown_ok (a : Option Addr) (b o n cap : Nat) (T : List (Int × Int)) (t : Int) (k : Nat) (w : World) (h : Tab w a b o n T) (hg : Good T) (hk : k ≤ 1099511627776) (ht : 0 ≤ t) (ht2 : t < 8) :
    Calls Try.prog 18 #[.slice a n cap, .int .i64 t, .int .i64 k] w fun e w' => e = .returned (.tuple #[.int .i64 (C T t k), .int .i64 0]) ∧ Below w.heap.size w w' := by
  have HC := hide (rlook_at a b o n cap T k w h)
  rw [errK_ok hg (by omega)] at HC
  have hn0 := hg.posn h
  have hn1 := hg.maxn h
  obtain ⟨rfl, hb⟩ := h.ptr hn0
  have hnz : ¬ ((n : Int) = 0) := by omega
  have e1 : decide (t < 0) = false := decide_eq_false (by omega)
  have e2 : decide (8 ≤ t) = false := decide_eq_false (by omega)
  obtain ⟨q, hq⟩ : ∃ q, q = k / n := ⟨_, rfl⟩
  obtain ⟨r, hr⟩ : ∃ r, r = k % n := ⟨_, rfl⟩
  have hrem : (k : Int).tmod (n : Int) = (r : Int) := by rw [hr]; exact rem_nat k n
  have hquo : (k : Int).tdiv (n : Int) = (q : Int) := by rw [hq]; exact quo_nat k n
  have hrn : r < n := by rw [hr]; exact Nat.mod_lt _ hn0
  have hqk : q ≤ k := by rw [hq]; exact Nat.div_le_self _ _
  obtain ⟨c, hc⟩ : ∃ c, c = C T t n := ⟨_, rfl⟩
  obtain ⟨d, hd⟩ : ∃ d, d = C T t r := ⟨_, rfl⟩
  obtain ⟨P, hP⟩ : ∃ P, P = q * c := ⟨_, rfl⟩
  have hmul : (q : Int) * (c : Int) = (P : Int) := by rw [hP]; rfl
  have hsum : C T t k = P + d := by
    rw [C_div T t k, h.len, ← hq, ← hr, ← hc, ← hd, ← hP]
  have hsum2 : P + d ≤ 1099511627776 := by
    rw [← hsum]
    exact Nat.le_trans (C_le T t k) hk
  rw [hsum]
  have hwq : IntKind.i64.wrap (q : Int) = q := wrap_i _ (by omega) (by omega)
  have hwP : IntKind.i64.wrap (P : Int) = P := wrap_i _ (by omega) (by omega)
  have hwd : IntKind.i64.wrap ((P : Int) + (d : Int)) = (P : Int) + (d : Int) := wrap_i _ (by omega) (by omega)
  have hwr : IntKind.i64.wrap (r : Int) = r := wrap_i _ (by omega) (by omega)
  have H := hide h
  clear h hg hq hr hP hsum
  have HCC := hide hc
  have HD := hide hd
  clear hc hd
  go_enter Try.func18, Try.ntmps18
  go_wp2_with fail
  refine HC.out.mono ?_
  rintro e w2 ⟨rfl, hb2⟩
  have HB := hide hb2
  have HT := hide (H.out.below hb2)
  clear hb2 HC
  have V1 : Hid (∀ w', w'.heap = w2.heap → Calls Try.prog 32 #[.slice (some ⟨b, o, none⟩) n cap, .int .i64 t, .int .i64 n] w' fun e w'' => e = .returned (.int .i64 c) ∧ w'' = w') := fun w' e => by
    rw [HCC.out]
    refine (among_at T t b o n cap n w' (HT.out.same e) hn1 (Nat.le_refl _)).mono ?_
    rintro e' w'' ⟨h, h'⟩
    exact ⟨h, h'.symm⟩
  have V2 : Hid (∀ w', w'.heap = w2.heap → Calls Try.prog 32 #[.slice (some ⟨b, o, none⟩) n cap, .int .i64 t, .int .i64 r] w' fun e w'' => e = .returned (.int .i64 d) ∧ w'' = w') := fun w' e => by
    rw [HD.out]
    refine (among_at T t b o n cap r w' (HT.out.same e) hn1 (by omega)).mono ?_
    rintro e' w'' ⟨h, h'⟩
    exact ⟨h, h'.symm⟩
  clear hb
  go_wp2_with fail
  go_quiet (first
    | (go_at_call_of 32 (Value.int .i64 (n : Int)); exact Calls.quiet_of_same (V1.out _ rfl))
    | (go_at_call_of 32 (Value.int .i64 (r : Int)); exact Calls.quiet_of_same (V2.out _ rfl)))
  go_wp2_with fail
  go_ret2
  exact ⟨rfl, below_drewN HB.out _⟩

end Go.Proofs.Ytidalhdhaagpaaa
