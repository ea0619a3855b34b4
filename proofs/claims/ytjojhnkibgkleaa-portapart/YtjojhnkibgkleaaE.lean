/-
  What refuses an event and what it is for; what lets outputs in; conditions as each theorem has them.
-/
import Derived.Test.YtjojhnkibgkleaaS
set_option linter.unusedSimpArgs false
set_option linter.unusedVariables false
set_option maxRecDepth 8000
namespace Go.Proofs.Ytjojhnkibgkleaa
open Go.RowKit Go.Lib

theorem quietS {P : Program} {f : FuncId} {args : Array Value} {w : World} {n : Nat} {v : Value} (h : Calls P f args (w.drewN n) fun e w' => e = .returned v ∧ w.drewN n = w') : Calls P f args (w.drewN n) fun e w'' => e = .returned v ∧ ∃ m, w'' = w.drewN m :=
  h.mono fun _ _ ⟨he, hm⟩ => ⟨he, n, hm.symm⟩
theorem refuses_at (b o : Nat) (p : Value) (x : En) (k : Int) (w : World) (h : EnAt w b o p x) : Calls Try.prog 47 #[.pointer (some ⟨b, o, none⟩), .int .i64 k] w fun e w' => e = .returned (.int .i64 (refu x k)) ∧ w = w' := by
  obtain ⟨c0, c1, c2, c3, c4, c5⟩ := h
  unfold refu
  by_cases k1 : k = 1
  · subst k1
    by_cases hs : x.st = 0
    · go_enter Try.func47, Try.ntmps47
      go_wp2
      go_ret
      simp [hs]
    · go_enter Try.func47, Try.ntmps47
      go_wp2
      go_ret
      simp [hs]
  · by_cases k2 : k = 2 ∨ k = 3
    · cases ho : x.oth
      · rw [ho] at c4
        rcases k2 with k2 | k2
        · subst k2
          by_cases hs : x.st = 1
          · go_enter Try.func47, Try.ntmps47
            go_wp2
            go_ret
            simp [hs]
          · have hb : (x.st == 1) = false := by simp [hs]
            go_enter Try.func47, Try.ntmps47
            go_wp2
            go_ret
            simp [hs]
        · subst k2
          by_cases hs : x.st = 1
          · go_enter Try.func47, Try.ntmps47
            go_wp2
            go_ret
            simp [hs]
          · have hb : (x.st == 1) = false := by simp [hs]
            go_enter Try.func47, Try.ntmps47
            go_wp2
            go_ret
            simp [hs]
      · rw [ho] at c4
        rcases k2 with k2 | k2
        · subst k2
          go_enter Try.func47, Try.ntmps47
          go_wp2
          go_ret
          simp
        · subst k2
          go_enter Try.func47, Try.ntmps47
          go_wp2
          go_ret
          simp
    · by_cases k5 : k = 5
      · subst k5
        by_cases hs : x.st = 1
        · go_enter Try.func47, Try.ntmps47
          go_wp2
          go_ret
          simp [hs]
        · have hb : (x.st == 1) = false := by simp [hs]
          go_enter Try.func47, Try.ntmps47
          go_wp2
          go_ret
          simp [hs]
      · by_cases k4 : k = 4
        · subst k4
          by_cases hs : x.st = 1
          · go_enter Try.func47, Try.ntmps47
            go_wp2
            go_ret
            simp [hs]
          · have hb1 : (x.st == 1) = false := by simp [hs]
            by_cases hs2 : x.st = 2
            · go_enter Try.func47, Try.ntmps47
              go_wp2
              go_ret
              simp [hs, hs2]
            · have hb : (x.st == 2) = false := by simp [hs2]
              go_enter Try.func47, Try.ntmps47
              go_wp2
              go_ret
              simp [hs, hs2]
        · by_cases k6 : k = 6 ∨ k = 7
          · rcases k6 with k6 | k6
            · subst k6
              by_cases hs : x.st = 2
              · go_enter Try.func47, Try.ntmps47
                go_wp2
                go_ret
                simp [hs]
              · have hb : (x.st == 2) = false := by simp [hs]
                go_enter Try.func47, Try.ntmps47
                go_wp2
                go_ret
                simp [hs]
            · subst k6
              by_cases hs : x.st = 2
              · go_enter Try.func47, Try.ntmps47
                go_wp2
                go_ret
                simp [hs]
              · have hb : (x.st == 2) = false := by simp [hs]
                go_enter Try.func47, Try.ntmps47
                go_wp2
                go_ret
                simp [hs]
          · have h2 : ¬ k = 2 := by omega
            have h3 : ¬ k = 3 := by omega
            have h6 : ¬ k = 6 := by omega
            have h7 : ¬ k = 7 := by omega
            go_enter Try.func47, Try.ntmps47
            go_wp2
            go_ret
            simp [k1, k2, k4, k5, k6]


end Go.Proofs.Ytjojhnkibgkleaa
