/-
  A copy of a table by the statement's own function, and SchedRuns' walk; conditions as each theorem has them.
-/
import Derived.Test.YtidalhdhaagpaaaX
set_option linter.unusedSimpArgs false
set_option linter.unusedVariables false
namespace Go.Proofs.Ytidalhdhaagpaaa
open Go.RowKit

theorem tab_none (w : World) (a : Option Addr) : Tab w a 0 0 0 [] := ⟨rfl, fun h => by omega, fun i p hp => by simp at hp, by decide⟩

theorem run_copied (w0 : World) (a : Option Addr) (b o n cap : Nat) (T : List (Int × Int)) (h : Tab w0 a b o n T) (hnil : a = none → cap = 0) :
    ∃ a' b' o' c' w', (Builtin.append_ #[22, 22] 22 #[.slice (some ⟨w0.heap.size, 0, none⟩) 0 0, .slice a n cap]).run Try.prog (w0.alloc (.cells #[] 25)) = .ok (.slice a' n c') w' ∧ Tab w' a' b' o' n T ∧ Below w0.heap.size w0 w' := by
  rcases Nat.eq_zero_or_pos n with h0 | hpos
  · subst h0
    have hT : T = [] := List.eq_nil_of_length_eq_zero h.len
    subst hT
    obtain ⟨i, hi, hz, hsz, hby⟩ := info25p
    have hown : (w0.alloc (.cells #[] 25)).ownsRow w0.heap.size 25 2 (.slice (some ⟨w0.heap.size, 0, none⟩) 0 0) 0 [] :=
      ⟨rfl, Or.inr ⟨w0.heap.size, 0, #[], rfl, Nat.le_refl _, alloc_new _ _, Nat.le_refl _, Nat.zero_le _, rfl, rfl⟩⟩
    cases a with
    | none =>
      obtain rfl := hnil rfl
      exact ⟨_, 0, 0, _, _, run_append_owned_none (P := Try.prog) (w0.alloc (.cells #[] 25)) w0.heap.size 22 22 25 i 2 Try.underlying22 hi (.slice (some ⟨w0.heap.size, 0, none⟩) 0 0) 0 [] hown, tab_none _ _, Below.alw (Below.refl _ _) _⟩
    | some x =>
      obtain ⟨v', w', hr, hw, hg, _⟩ := run_append_own_at (P := Try.prog) (w0.alloc (.cells #[] 25)) w0.heap.size 22 22 25 i (.agg #[.int .i64 0, .int .i64 0]) 2 16 Try.underlying22 hi hz hsz hby rfl (by omega) (.slice (some ⟨w0.heap.size, 0, none⟩) 0 0) 0 [] hown x 0 cap [] rfl
        (fun j u hu => by simp at hu) (fun u hu => by simp at hu) (by unfold maxLen; omega) (by omega) (by simp)
      have hb : Below w0.heap.size w0 w' := (Below.alw (Below.refl _ _) _).grown hg (by simp) (fun k hk => by simp [Value.ownBlock] at hk; omega)
      rcases hw.2 with ⟨hv, _⟩ | ⟨h', cap', cur', hv, _⟩
      · subst hv
        exact ⟨_, 0, 0, _, _, hr, tab_none _ _, hb⟩
      · subst hv
        exact ⟨_, 0, 0, _, _, hr, tab_none _ _, hb⟩
  · obtain ⟨g, c, w', h1, h2, h3⟩ := run_copy w0 a b o n cap T h hpos
    exact ⟨_, _, _, _, _, h1, h2, h3⟩

set_option maxHeartbeats 1000000 in
theorem copied_at (a : Option Addr) (b o n cap : Nat) (T : List (Int × Int)) (w : World) (h : Tab w a b o n T) (hnil : a = none → cap = 0) :
    Calls Try.prog 8 #[.slice a n cap] w fun e w' => ∃ a' b' o' c', e = .returned (.slice a' n c') ∧ Tab w' a' b' o' n T ∧ Below w.heap.size w w' := by
  obtain ⟨a', b', o', c', w', hr, ht, hb⟩ := run_copied w a b o n cap T h hnil
  have HR := hide hr
  have HT := hide ht
  have HB := hide hb
  clear h hr ht hb hnil
  go_enter Try.func8, Try.ntmps8
  go_wp2_with (at_builtin; refine wpList_app_run _ rfl _ _ 22 22 rfl _ _ rfl rfl HR.out ?_)
  go_ret
  exact ⟨_, _, _, _, rfl, HT.out, HB.out⟩

/-- What the calls about a tick answer. -/
structure TickSays (T : List (Int × Int)) (n : Nat) (k x y c F : Int) (bb : Bool) : Prop where
  run : ∀ a b o cap w, Tab w a b o n T → Calls Try.prog 9 #[.slice a n cap, .int .i64 k] w fun e w' => e = .returned (.tuple #[slt x y, .int .i64 c]) ∧ Below w.heap.size w w'
  rrun : ∀ a b o cap w, Tab w a b o n T → Calls Try.prog 10 #[.slice a n cap, .int .i64 k] w fun e w' => e = .returned (.tuple #[slt x y, .int .i64 c]) ∧ Below w.heap.size w w'
  frame : ∀ a b o cap w, Tab w a b o n T → Calls Try.prog 11 #[.slice a n cap, .int .i64 k] w fun e w' => e = .returned (.tuple #[.int .i64 F, .int .i64 c]) ∧ Below w.heap.size w w'
  rframe : ∀ a b o cap w, Tab w a b o n T → Calls Try.prog 12 #[.slice a n cap, .int .i64 k] w fun e w' => e = .returned (.tuple #[.int .i64 F, .int .i64 c]) ∧ Below w.heap.size w w'
  bound : ∀ a b o cap w, Tab w a b o n T → Calls Try.prog 13 #[.slice a n cap, .int .i64 k] w fun e w' => e = .returned (.tuple #[.bool bb, .int .i64 c]) ∧ Below w.heap.size w w'
  want : (¬ c = 0 ∧ bb = false) ∨ (c = 0 ∧ ¬ (n : Int) = 0 ∧ ∃ r : Nat, k.tmod (n : Int) = (r : Int) ∧ ((r = 0 ∧ bb = true) ∨ (0 < r ∧ bb = false)))

theorem tick_says (T : List (Int × Int)) (n : Nat) (hlen : T.length = n) (k : Int) : ∃ x y c F bb, TickSays T n k x y c F bb := by
  by_cases hk : errK T k = 0
  · have hg : Good T ∧ (0 ≤ k ∧ k ≤ 1099511627776) := by
      by_cases hg : Good T
      · refine ⟨hg, ?_⟩
        by_cases h2 : 0 ≤ k ∧ k ≤ 1099511627776
        · exact h2
        · rw [errK_arg hg h2] at hk; omega
      · rw [errK_bad hg] at hk; omega
    obtain ⟨hg, hk1, hk2⟩ := hg
    obtain ⟨K, rfl⟩ := Int.eq_ofNat_of_zero_le hk1
    have hn0 : 0 < n := by rw [← hlen]; exact hg.pos
    obtain ⟨p, hp⟩ := get_lt (T := T) (k := K % n) (by rw [hlen]; exact Nat.mod_lt _ hn0)
    refine ⟨p.1, p.2, 0, (K / n : Nat), decide (K % n = 0), fun a b o cap w h => run_ok a b o n cap T K p w h hg (by omega) hp, fun a b o cap w h => rrun_ok a b o n cap T K p w h hg (by omega) hp,
      fun a b o cap w h => frame_ok a b o n cap T K w h hg (by omega), fun a b o cap w h => rframe_ok a b o n cap T K w h hg (by omega), fun a b o cap w h => bound_ok a b o n cap T K w h hg (by omega),
      Or.inr ⟨rfl, by omega, K % n, rem_nat K n, ?_⟩⟩
    rcases Nat.eq_zero_or_pos (K % n) with h0 | h0
    · exact Or.inl ⟨h0, by simp [h0]⟩
    · exact Or.inr ⟨h0, by simp; omega⟩
  · obtain ⟨c, hc⟩ : ∃ c, errK T k = c := ⟨_, rfl⟩
    have hc0 : c = 50 ∨ c = 2 := by
      rw [← hc] at *
      unfold errK at hk ⊢
      split
      · rename_i hg
        rw [if_pos hg] at hk
        split
        · rename_i h2
          rw [if_pos h2] at hk
          omega
        · right; rfl
      · left; rfl
    exact ⟨0, 0, c, 0, false, fun a b o cap w h => run_bad a b o n cap T k c w h hc hc0, fun a b o cap w h => rrun_bad a b o n cap T k c w h hc hc0, fun a b o cap w h => frame_bad a b o n cap T k c w h hc hc0,
      fun a b o cap w h => rframe_bad a b o n cap T k c w h hc hc0, fun a b o cap w h => bound_bad a b o n cap T k c w h hc hc0, Or.inl ⟨by omega, rfl⟩⟩

end Go.Proofs.Ytidalhdhaagpaaa
