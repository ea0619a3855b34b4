/-
  goRound of package sched: what holds from visit to visit holds at its end; conditions as each theorem has them.
-/
import Derived.Test.YtidalhdhaagpaaaE
import Derived.Deep.LoopGhost
import Derived.WalkMore
set_option linter.unusedSimpArgs false
set_option linter.unusedVariables false
namespace Go.Proofs.Ytidalhdhaagpaaa
open Go.RowKit

/-- What is known from visit to visit (I), and what then (Q). -/
structure Visits (T : List (Int × Int)) (t : Int) (b o n f : Nat) (cs : Array Value) (I : Nat → World → Prop) (Q : World → Prop) : Prop where
  len : T.length = n
  pos : 0 < n
  max : n ≤ 64
  tab : ∀ j w, I j w → Tab w (some ⟨b, o, none⟩) b o n T
  alloc : ∀ j w x, I j w → I j (w.alloc x)
  skip : ∀ j w, ¬ own T t j → I j w → I (j + 1) w
  visit : ∀ j w, j < 2 * n → own T t j → I j w → Calls Try.prog f (#[.int .i64 (j : Nat)] ++ cs) w fun e w' => (e = .returned (.bool true) ∧ I (j + 1) w') ∨ (e = .returned (.bool false) ∧ Q w')
  fin : ∀ w, I (2 * n) w → Q w

set_option maxRecDepth 100000 in
set_option maxHeartbeats 2000000 in
theorem round_at (T : List (Int × Int)) (t : Int) (b o n cp f : Nat) (cs : Array Value) (I : Nat → World → Prop) (Q : World → Prop) (h : Visits T t b o n f cs I Q) (w : World) (h0 : I 0 w)
    (hf : ∀ (args : Array Value) (w : World), (callFunc f args).run Try.prog w = .ok (.enter f args) w) :
    Calls Try.prog 37 #[.slice (some ⟨b, o, none⟩) n cp, .int .i64 t, .func (.func f) #[] cs] w fun e w' => e = .returned (.tuple #[]) ∧ Q w' := by
  have hpos := h.pos
  have hmax := h.max
  have H := hide h
  have HI := hide h0
  clear h h0
  go_enter Try.func37, Try.ntmps37
  go_wp2_with fail
  go_step3
  go_wp2_with fail
  go_step3
  go_wp2_with fail
  go_loopg [9] 2 (fun g s wx => ∃ fr : Nat, fr + g = 2 ∧ s = .int .i64 fr ∧ Hid (I (fr * n) wx))
  case atStart => exact ⟨0, rfl, rfl, by rw [Nat.zero_mul]; exact HI.out⟩
  case round =>
    obtain ⟨fr, hfr, rfl, HX⟩ := hrel
    cases gk with
    | zero =>
      obtain rfl : fr = 2 := by omega
      go_wp2_with fail
      first | go_end0 | refine bodyPost_ret (results_none rfl _ _ _) rfl ?_
      exact ⟨rfl, H.out.fin _ HX.out⟩
    | succ g =>
      have e1 : decide ((fr : Int) < 2) = true := by simp; omega
      have e1' : decide (fr < 2) = true := by simp; omega
      have hfr2 : fr < 2 := by omega
      obtain ⟨M, hM⟩ : ∃ M, M = fr * n := ⟨_, rfl⟩
      have hMn : M + n ≤ 2 * n := by
        have : fr = 0 ∨ fr = 1 := by omega
        rcases this with rfl | rfl <;> omega
      have hmul : (fr : Int) * (n : Int) = (M : Int) := by rw [hM]; rfl
      have hM2 : M ≤ 64 := by omega
      rw [← hM] at HX
      have HM : Hid ((fr + 1) * n = M + n) := by show (fr + 1) * n = M + n; rw [hM, Nat.add_mul, Nat.one_mul]
      clear hM
      go_wp2_with fail
      go_loopg [14] n (fun g2 s wy => ∃ k : Nat, k + g2 = n ∧ s = .int .i64 k ∧ Hid (I (M + k) wy))
      case atStart => exact ⟨0, by omega, rfl, HX.out⟩
      case round =>
        obtain ⟨k, hk, rfl, HY⟩ := hrel
        cases gk with
        | zero =>
          obtain rfl : k = n := by omega
          go_wp2_with fail
          go_roundg g
          case measure => omega
          case rel => exact ⟨fr + 1, by omega, by go_num, by rw [HM.out]; exact HY.out⟩
        | succ g2 =>
          have hkn : k < n := by omega
          have e2 : decide ((k : Int) < n) = true := by simp; omega
          have e2' : decide (k < n) = true := by simp; omega
          obtain ⟨p, hp⟩ := get_lt (show k < T.length by rw [H.out.len]; exact hkn)
          obtain ⟨x, y⟩ := p
          have ht := H.out.tab _ _ HY.out
          obtain ⟨c0, c1⟩ := ht.cells k _ hp
          simp only at c0 c1
          have hbr := (ht.ptr hpos).2
          have hown : own T t (M + k) ↔ x = t := own_at (by
            have h2 : (M + k) % T.length = k := by
              rw [H.out.len]
              have : fr = 0 ∨ fr = 1 := by omega
              have h3 := HM.out
              rcases this with rfl | rfl
              · have : M = 0 := by omega
                rw [this, Nat.zero_add]; exact Nat.mod_eq_of_lt hkn
              · have : M = n := by omega
                rw [this, Nat.add_mod_left]; exact Nat.mod_eq_of_lt hkn
            rw [h2]; exact hp)
          clear hp ht
          by_cases hx : x = t
          · subst hx
            have HV := hide (H.out.visit (M + k) _ (by omega) (hown.2 rfl) (H.out.alloc _ _ (boxS x y) HY.out))
            have hcast : ((M + k : Nat) : Int) = (M : Int) + (k : Int) := rfl
            rw [hcast] at HV
            clear hown hcast
            go_wp2_with fail
            refine HV.out.mono ?_
            rintro e w2 (⟨rfl, hi⟩ | ⟨rfl, hq⟩)
            · have HI2 := hide hi
              clear hi HV
              go_wp2_with fail
              go_roundg g2
              case measure => omega
              case rel => exact ⟨k + 1, by omega, by go_num, HI2.out⟩
            · have HQ := hide hq
              clear hq HV
              go_wp2_with fail
              unfold Exit.noGoto
              first | go_end0 | refine bodyPost_ret (results_none rfl _ _ _) rfl ?_
              exact ⟨rfl, HQ.out⟩
          · have HN := hide (fun e => hx (hown.1 e))
            have hx2 : (x != t) = true := by simp [hx]
            clear hown
            go_wp2_with fail
            go_roundg g2
            case measure => omega
            case rel => exact ⟨k + 1, by omega, by go_num, H.out.skip _ _ HN.out (H.out.alloc _ _ _ HY.out)⟩

end Go.Proofs.Ytidalhdhaagpaaa
