/-
  A rule that denies each address put first, one that allows each put last, in numbers; lists put together; conditions as each theorem has them.
-/
import Derived.Test.YtiejandeoopiiaaDoorRK
import Derived.Test.YtiejandeoopiiaaDoorWK
set_option linter.unusedSimpArgs false
set_option linter.unusedVariables false
namespace Go.Proofs.YtiejandeoopiiaaDoor
open Go.RowKit
def allD : Ru := ⟨false, (0, 0, 0, 0), 0, ⟨#[]⟩, 1, 65535⟩
def allA : Ru := ⟨true, (0, 0, 0, 0), 0, ⟨#[]⟩, 1, 65535⟩
theorem allD_ok : allD.ok := ⟨⟨by decide, by decide, by decide, by decide⟩, by unfold maxLen; decide, by unfold in64; decide, by unfold in64; decide, by unfold in64; decide⟩
theorem allA_ok : allA.ok := ⟨⟨by decide, by decide, by decide, by decide⟩, by unfold maxLen; decide, by unfold in64; decide, by unfold in64; decide, by unfold in64; decide⟩
theorem allD_right : allD.right = true := by decide +kernel
theorem allA_right : allA.right = true := by decide +kernel
theorem among_at (n : Int) (w : World) : Calls Tryd.prog 12 #[.int .i64 n, .int .i64 65535] w fun e w' => ∃ m : Nat, m < 65535 ∧ e = .returned (.int .i64 (m : Int)) ∧ w = w' := by
  go_enter Tryd.func12, Tryd.ntmps12
  go_wp2
  go_ret
  have h0 : 0 ≤ IntKind.u64.wrap n := by rw [IntKind.wrap_u64]; omega
  have h1 : (IntKind.u64.wrap n).tmod 65535 = (IntKind.u64.wrap n) % 65535 := Int.tmod_eq_emod_of_nonneg h0
  refine ⟨((IntKind.u64.wrap n) % 65535).toNat, by omega, ?_, rfl⟩
  have e : wrap64 ((IntKind.u64.wrap n).tmod 65535) = (((IntKind.u64.wrap n) % 65535).toNat : Int) := by
    rw [h1]
    unfold wrap64
    omega
  show Ending.returned (Value.int IntKind.i64 (wrap64 ((IntKind.u64.wrap n).tmod 65535))) = _
  rw [e]
theorem fit_all (a : Ad) (ha : a.ok) (p : Int) (h1 : 1 ≤ p) (h2 : p ≤ 65535) : fit a [] p allD = true ∧ fit a [] p allA = true := by
  have h0 : inB a (0, 0, 0, 0) 0 = true := by
    unfold inB
    rw [show (0 : Int).toNat = 0 from rfl, inN_zero ha ⟨by decide, by decide, by decide, by decide⟩]
    simp
  refine ⟨?_, ?_⟩
  · unfold fit
    rw [show byt allD.suf = [] from rfl, if_pos rfl]
    show (decide (1 ≤ p) && decide (p ≤ 65535) && (decide (([] : List Nat) = []) && inB a (0, 0, 0, 0) 0)) = true
    rw [h0]
    simp [h1, h2]
  · unfold fit
    rw [show byt allA.suf = [] from rfl, if_pos rfl]
    show (decide (1 ≤ p) && decide (p ≤ 65535) && (decide (([] : List Nat) = []) && inB a (0, 0, 0, 0) 0)) = true
    rw [h0]
    simp [h1, h2]
theorem chkL_zero {l : List Ru} : chkL l = 0 ↔ l.length ≤ 64 ∧ ∀ r ∈ l, r.right = true := by
  unfold chkL
  constructor
  · intro h
    split at h
    · cases h
    · split at h
      · rename_i h1 h2
        exact ⟨by omega, List.all_eq_true.1 h2⟩
      · cases h
  · rintro ⟨h1, h2⟩
    rw [if_neg (by omega), if_pos (List.all_eq_true.2 h2)]
theorem okD_ad (a : Ad) (p : Int) (h1 : 1 ≤ p) (h2 : p ≤ 65535) : okD a [] p = true := by simp [okD, chk, h1, h2]
theorem putE_zero {l rs : List Ru} {t : Int} : putE l t rs = 0 ↔ chkL l = 0 ∧ chkL rs = 0 ∧ 0 ≤ t ∧ t ≤ l.length ∧ l.length + rs.length ≤ 64 := by
  unfold putE
  by_cases h1 : chkL l = 0
  · rw [if_neg (fun h => h h1)]
    by_cases h2 : chkL rs = 0
    · rw [if_neg (fun h => h h2)]
      by_cases h3 : t < 0 ∨ (l.length : Int) < t
      · rw [if_pos h3]
        constructor
        · intro h; cases h
        · rintro ⟨_, _, h4, h5, _⟩; omega
      · rw [if_neg h3]
        by_cases h4 : 64 < l.length + rs.length
        · rw [if_pos h4]
          constructor
          · intro h; cases h
          · rintro ⟨_, _, _, _, h5⟩; omega
        · rw [if_neg h4]
          exact ⟨fun _ => ⟨h1, h2, by omega, by omega, by omega⟩, fun _ => rfl⟩
    · rw [if_pos h2]
      exact ⟨fun h => absurd h h2, fun h => absurd h.2.1 h2⟩
  · rw [if_pos h1]
    exact ⟨fun h => absurd h h1, fun h => absurd h.1 h1⟩
theorem first_cons (f : Ru → Bool) (i : Nat) (r : Ru) (l : List Ru) : first f i (r :: l) = if f r = true then (i : Int) else first f (i + 1) l := rfl
theorem first_app {f : Ru → Bool} : ∀ (l m : List Ru) (i : Nat), first f i (l ++ m) = if first f i l < 0 then first f (i + l.length) m else first f i l
  | [], m, i => by
    show first f i m = _
    rw [show first f i [] = -1 from rfl, if_pos (by decide)]
    rfl
  | r :: l, m, i => by
    show first f i (r :: (l ++ m)) = _
    rw [first_cons, first_cons]
    by_cases h : f r = true
    · rw [if_pos h, if_pos h, if_neg (by omega)]
    · rw [if_neg h, if_neg h, first_app l m (i + 1), show i + 1 + l.length = i + (r :: l).length by simp; omega]
theorem which_of {l : List Ru} {a : Ad} {n : List Nat} {p : Int} (h1 : chkL l = 0) (h2 : okD a n p = true) : which l a n p = first (fit a n p) 0 l := by
  unfold which
  rw [if_pos ⟨h1, h2⟩]
theorem may_of {l : List Ru} {a : Ad} {n : List Nat} {p : Int} : may l a n p = (if which l a n p < 0 then false else (l.getD (which l a n p).toNat noRu).al) := rfl
/-- A rule that denies each address, put first. -/
theorem all_first {l : List Ru} {a : Ad} {p : Int} (ha : a.ok) (h1 : 1 ≤ p) (h2 : p ≤ 65535) (hp : putE l 0 [allD] = 0) : which (putL l 0 [allD]) a [] p = 0 ∧ may (putL l 0 [allD]) a [] p = false := by
  obtain ⟨c1, _, _, _, c5⟩ := putE_zero.1 hp
  have e : putL l 0 [allD] = allD :: l := by unfold putL; rw [if_pos hp]; simp
  obtain ⟨_, hr⟩ := chkL_zero.1 c1
  have hc : chkL (allD :: l) = 0 := chkL_zero.2 ⟨by simp at c5 ⊢; omega, fun r hr' => by
    rcases List.mem_cons.1 hr' with rfl | h
    · exact allD_right
    · exact hr r h⟩
  have hw : which (allD :: l) a [] p = 0 := by
    rw [which_of hc (okD_ad a p h1 h2)]
    unfold first
    rw [if_pos (fit_all a ha p h1 h2).1]
    rfl
  rw [e]
  refine ⟨hw, ?_⟩
  rw [may_of, hw]
  rfl
/-- One that allows each, put last. -/
theorem all_last {l : List Ru} {a : Ad} {p : Int} (ha : a.ok) (h1 : 1 ≤ p) (h2 : p ≤ 65535) (hp : putE l 0 [allD] = 0) : putE l l.length [allA] = 0 ∧ may (putL l l.length [allA]) a [] p = (if which l a [] p < 0 then true else (l.getD (which l a [] p).toNat noRu).al) := by
  obtain ⟨c1, _, _, _, c5⟩ := putE_zero.1 hp
  obtain ⟨_, hr⟩ := chkL_zero.1 c1
  have hq : putE l l.length [allA] = 0 := putE_zero.2 ⟨c1, by decide +kernel, by omega, by omega, c5⟩
  refine ⟨hq, ?_⟩
  have e : putL l l.length [allA] = l ++ [allA] := by unfold putL; rw [if_pos hq]; simp
  have hc : chkL (l ++ [allA]) = 0 := chkL_zero.2 ⟨by simp at c5 ⊢; omega, fun r hr' => by
    rcases List.mem_append.1 hr' with h | h
    · exact hr r h
    · simp at h; subst h; exact allA_right⟩
  rw [e, may_of, which_of hc (okD_ad a p h1 h2), which_of c1 (okD_ad a p h1 h2), first_app]
  rcases first_bound (fit a [] p) l 0 with h0 | ⟨k, hk, h0, _⟩
  · have e2 : (if (-1 : Int) < 0 then first (fit a [] p) (0 + l.length) [allA] else -1) = (l.length : Int) := by
      rw [if_pos (by decide), first_cons, if_pos (fit_all a ha p h1 h2).2]
      simp
    rw [h0, e2, if_neg (by omega), if_pos (by decide)]
    simp [allA]
  · have e2 : (if ((0 + k : Nat) : Int) < 0 then first (fit a [] p) (0 + l.length) [allA] else ((0 + k : Nat) : Int)) = (k : Int) := by
      rw [if_neg (by omega)]
      simp
    rw [h0, e2, if_neg (by omega), if_neg (by omega)]
    simp [List.getElem?_append_left hk]

end Go.Proofs.YtiejandeoopiiaaDoor
