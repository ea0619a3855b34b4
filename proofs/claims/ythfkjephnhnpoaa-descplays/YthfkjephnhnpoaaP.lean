/-
  Each call of a table and of the reference, with one ending whatever its arguments; conditions as each theorem has them.
-/
import Derived.Test.YthfkjephnhnpoaaZ
import Derived.Test.YthfkjephnhnpoaaZ2
set_option linter.unusedSimpArgs false
set_option linter.unusedVariables false
namespace Go.Proofs.Ythfkjephnhnpoaa
open Go.RowKit

def closeE (es : List En) (x z : Int) : List En := if code es x z = 0 then (match es[x.toNat]? with | some e => es.set x.toNat (closed e) | none => es) else es
def setE (es : List En) (x z k n : Int) : List En := if code es x z = 0 then (match es[x.toNat]? with | some e => es.set x.toNat { e with k := k, n := n } | none => es) else es
def lookK (es : List En) (x z : Int) : Int := if code es x z = 0 then (match es[x.toNat]? with | some e => e.k | none => 0) else 0
def lookN (es : List En) (x z : Int) : Int := if code es x z = 0 then (match es[x.toNat]? with | some e => e.n | none => 0) else 0
def openE (es : List En) (k n : Int) : List En := match es[lst es]? with | some e => es.set (lst es) { e with st := 1, k := k, n := n } | none => es
def openI (es : List En) : Nat := match es[lst es]? with | some _ => lst es | none => 0
def openG (es : List En) : Nat := match es[lst es]? with | some e => e.gen | none => 0
def openC (es : List En) : Int := match es[lst es]? with | some _ => 0 | none => 4
def ageC (es : List En) (x z : Int) : Int := match (if 0 ≤ x then es[x.toNat]? else none) with
  | none => 5
  | some e => if e.st ≠ 0 then 5 else if z < e.gen ∨ 1048576 < z then 2 else 0
def ageE (es : List En) (x z : Int) : List En := match (if 0 ≤ x then es[x.toNat]? else none) with
  | none => es
  | some e => if e.st ≠ 0 then es else if z < e.gen ∨ 1048576 < z then es else es.set x.toNat { e with gen := z.toNat }

theorem kept_of {g : Nat} {w w' : World} (h : Below w.heap.size w w') : Kept g g w w' := Kept.of_below h

theorem lst_none {es : List En} (h : es[lst es]? = none) : lst es = es.length := by
  have := lst_le es
  have := List.getElem?_eq_none_iff.1 h
  omega

theorem close_any (r g : Nat) (es : List En) (x z : Int) (w : World) (h : IsTab w r g es) :
    Calls Try.prog 12 #[.pointer (some ⟨r, 0, none⟩), hnd x z] w fun e w' => e = .returned (.int .i64 (code es x z)) ∧ IsTab w' r g (closeE es x z) ∧ Kept g g w w' := by
  by_cases hc : code es x z = 0
  · obtain ⟨i, e, rfl, he, hs, rfl⟩ := code_ok hc
    have e1 : closeE es i e.gen = es.set i (closed e) := by unfold closeE; rw [if_pos hc, Int.toNat_natCast, he]
    rw [e1, hc]
    exact close_ok r g es i e w h he hs
  · have e1 : closeE es x z = es := by unfold closeE; rw [if_neg hc]
    rw [e1]
    refine (close_bad r g es x z w h hc).mono ?_
    rintro e w' ⟨rfl, hb⟩
    exact ⟨rfl, h.below hb h.lt.1 h.lt.2, kept_of hb⟩

theorem rclose_any (y b : Nat) (es : List En) (x z : Int) (w : World) (h : RT w y b es) :
    Calls Try.prog 29 #[.pointer (some ⟨y, 0, none⟩), hnd x z] w fun e w' => e = .returned (.int .i64 (code es x z)) ∧ RT w' y b (closeE es x z) ∧ Kept b b w w' := by
  by_cases hc : code es x z = 0
  · obtain ⟨i, e, rfl, he, hs, rfl⟩ := code_ok hc
    have e1 : closeE es i e.gen = es.set i (closed e) := by unfold closeE; rw [if_pos hc, Int.toNat_natCast, he]
    rw [e1, hc]
    exact rclose_ok y b es i e w h he hs
  · have e1 : closeE es x z = es := by unfold closeE; rw [if_neg hc]
    rw [e1]
    refine (rclose_bad y b es x z w h hc).mono ?_
    rintro e w' ⟨rfl, hb⟩
    exact ⟨rfl, h.below hb h.lt.1 h.lt.2, kept_of hb⟩

theorem set_any (r g : Nat) (es : List En) (x z k n : Int) (w : World) (h : IsTab w r g es) :
    Calls Try.prog 21 #[.pointer (some ⟨r, 0, none⟩), hnd x z, .int .i64 k, .int .i64 n] w fun e w' => e = .returned (.int .i64 (code es x z)) ∧ IsTab w' r g (setE es x z k n) ∧ Kept g g w w' := by
  by_cases hc : code es x z = 0
  · obtain ⟨i, e, rfl, he, hs, rfl⟩ := code_ok hc
    have e1 : setE es i e.gen k n = es.set i { e with k := k, n := n } := by unfold setE; rw [if_pos hc, Int.toNat_natCast, he]
    rw [e1, hc]
    exact set_ok r g es i e k n w h he hs
  · have e1 : setE es x z k n = es := by unfold setE; rw [if_neg hc]
    rw [e1]
    refine (set_bad r g es x z k n w h hc).mono ?_
    rintro e w' ⟨rfl, hb⟩
    exact ⟨rfl, h.below hb h.lt.1 h.lt.2, kept_of hb⟩

theorem rset_any (y b : Nat) (es : List En) (x z k n : Int) (w : World) (h : RT w y b es) :
    Calls Try.prog 31 #[.pointer (some ⟨y, 0, none⟩), hnd x z, .int .i64 k, .int .i64 n] w fun e w' => e = .returned (.int .i64 (code es x z)) ∧ RT w' y b (setE es x z k n) ∧ Kept b b w w' := by
  by_cases hc : code es x z = 0
  · obtain ⟨i, e, rfl, he, hs, rfl⟩ := code_ok hc
    have e1 : setE es i e.gen k n = es.set i { e with k := k, n := n } := by unfold setE; rw [if_pos hc, Int.toNat_natCast, he]
    rw [e1, hc]
    exact rset_ok y b es i e k n w h he hs
  · have e1 : setE es x z k n = es := by unfold setE; rw [if_neg hc]
    rw [e1]
    refine (rset_bad y b es x z k n w h hc).mono ?_
    rintro e w' ⟨rfl, hb⟩
    exact ⟨rfl, h.below hb h.lt.1 h.lt.2, kept_of hb⟩

theorem lookup_any (r g : Nat) (es : List En) (x z : Int) (w : World) (h : IsTab w r g es) :
    Calls Try.prog 20 #[.pointer (some ⟨r, 0, none⟩), hnd x z] w fun e w' => e = .returned (.tuple #[.int .i64 (lookK es x z), .int .i64 (lookN es x z), .int .i64 (code es x z)]) ∧ Below w.heap.size w w' := by
  by_cases hc : code es x z = 0
  · obtain ⟨i, e, rfl, he, hs, rfl⟩ := code_ok hc
    have e1 : lookK es i e.gen = e.k := by unfold lookK; rw [if_pos hc, Int.toNat_natCast, he]
    have e2 : lookN es i e.gen = e.n := by unfold lookN; rw [if_pos hc, Int.toNat_natCast, he]
    rw [e1, e2, hc]
    exact lookup_ok r g es i e w h he hs
  · have e1 : lookK es x z = 0 := by unfold lookK; rw [if_neg hc]
    have e2 : lookN es x z = 0 := by unfold lookN; rw [if_neg hc]
    rw [e1, e2]
    exact lookup_bad r g es x z w h hc

theorem rlookup_any (y b : Nat) (es : List En) (x z : Int) (w : World) (h : RT w y b es) :
    Calls Try.prog 30 #[.pointer (some ⟨y, 0, none⟩), hnd x z] w fun e w' => e = .returned (.tuple #[.int .i64 (lookK es x z), .int .i64 (lookN es x z), .int .i64 (code es x z)]) ∧ Below w.heap.size w w' := by
  by_cases hc : code es x z = 0
  · obtain ⟨i, e, rfl, he, hs, rfl⟩ := code_ok hc
    have e1 : lookK es i e.gen = e.k := by unfold lookK; rw [if_pos hc, Int.toNat_natCast, he]
    have e2 : lookN es i e.gen = e.n := by unfold lookN; rw [if_pos hc, Int.toNat_natCast, he]
    rw [e1, e2, hc]
    exact rlookup_ok y b es i e w h he hs
  · have e1 : lookK es x z = 0 := by unfold lookK; rw [if_neg hc]
    have e2 : lookN es x z = 0 := by unfold lookN; rw [if_neg hc]
    rw [e1, e2]
    exact rlookup_bad y b es x z w h hc

theorem open_any (r g : Nat) (es : List En) (k n : Int) (w : World) (h : IsTab w r g es) :
    Calls Try.prog 13 #[.pointer (some ⟨r, 0, none⟩), .int .i64 k, .int .i64 n] w fun e w' => e = .returned (.tuple #[hnd (openI es) (openG es), .int .i64 (openC es)]) ∧ IsTab w' r g (openE es k n) ∧ Kept g g w w' := by
  unfold openI openG openC openE
  cases he : es[lst es]? with
  | some e => exact open_ok r g es (lst es) e k n w h rfl he
  | none =>
    refine (open_full r g es k n w h (lst_none he)).mono ?_
    rintro e w' ⟨rfl, hb⟩
    exact ⟨rfl, h.below hb h.lt.1 h.lt.2, kept_of hb⟩

theorem ropen_any (y b : Nat) (es : List En) (k n : Int) (w : World) (h : RT w y b es) :
    Calls Try.prog 28 #[.pointer (some ⟨y, 0, none⟩), .int .i64 k, .int .i64 n] w fun e w' => e = .returned (.tuple #[hnd (openI es) (openG es), .int .i64 (openC es)]) ∧ RT w' y b (openE es k n) ∧ Kept b b w w' := by
  unfold openI openG openC openE
  cases he : es[lst es]? with
  | some e => exact ropen_ok y b es (lst es) e k n w h rfl he
  | none =>
    refine (ropen_full y b es k n w h (lst_none he)).mono ?_
    rintro e w' ⟨rfl, hb⟩
    exact ⟨rfl, h.below hb h.lt.1 h.lt.2, kept_of hb⟩

theorem age_any (r g : Nat) (es : List En) (x z : Int) (w : World) (h : IsTab w r g es) :
    Calls Try.prog 22 #[.pointer (some ⟨r, 0, none⟩), .int .i64 x, .int .i64 z] w fun e w' => e = .returned (.int .i64 (ageC es x z)) ∧ IsTab w' r g (ageE es x z) ∧ Kept g g w w' := by
  have same : ∀ c : Int, ∀ (e : Ending) (w' : World), (e = .returned (.int .i64 c) ∧ w = w') → (e = .returned (.int .i64 c) ∧ IsTab w' r g es ∧ Kept g g w w') := by
    intro c e w' ⟨h1, h2⟩
    subst h2
    exact ⟨h1, h, Kept.refl _ _ _⟩
  unfold ageC ageE
  by_cases hx : 0 ≤ x
  · rw [if_pos hx]
    cases he : es[x.toNat]? with
    | none => exact (age_out r g es x z w h (Or.inr (by have := List.getElem?_eq_none_iff.1 he; omega))).mono (fun e w' hh => same 5 e w' hh)
    | some e =>
      obtain ⟨i, rfl⟩ : ∃ i : Nat, x = i := ⟨x.toNat, by omega⟩
      rw [Int.toNat_natCast] at he
      simp only [Int.toNat_natCast]
      by_cases h0 : e.st = 0
      · simp only [if_neg (show ¬ e.st ≠ 0 from fun h => h h0)]
        by_cases h1 : z < e.gen ∨ 1048576 < z
        · simp only [if_pos h1]
          exact (age_arg r g es i e z w h he h0 h1).mono (fun e w' hh => same 2 e w' hh)
        · simp only [if_neg h1]
          obtain ⟨m, rfl⟩ : ∃ m : Nat, z = m := ⟨z.toNat, by omega⟩
          simp only [Int.toNat_natCast]
          exact age_ok r g es i e m w h he h0 (by omega) (by omega)
      · simp only [if_pos (show e.st ≠ 0 from h0)]
        exact (age_held r g es i e z w h he h0).mono (fun e w' hh => same 5 e w' hh)
  · rw [if_neg hx]
    exact (age_out r g es x z w h (Or.inl (by omega))).mono (fun e w' hh => same 5 e w' hh)

theorem rage_any (y b : Nat) (es : List En) (x z : Int) (w : World) (h : RT w y b es) :
    Calls Try.prog 32 #[.pointer (some ⟨y, 0, none⟩), .int .i64 x, .int .i64 z] w fun e w' => e = .returned (.int .i64 (ageC es x z)) ∧ RT w' y b (ageE es x z) ∧ Kept b b w w' := by
  have same : ∀ c : Int, ∀ (e : Ending) (w' : World), (e = .returned (.int .i64 c) ∧ w = w') → (e = .returned (.int .i64 c) ∧ RT w' y b es ∧ Kept b b w w') := by
    intro c e w' ⟨h1, h2⟩
    subst h2
    exact ⟨h1, h, Kept.refl _ _ _⟩
  obtain ⟨a, cap, hc⟩ := h.head
  unfold ageC ageE
  by_cases hx : 0 ≤ x
  · rw [if_pos hx]
    cases he : es[x.toNat]? with
    | none => exact (rage_out y es.length cap a x z w hc h.max (Or.inr (by have := List.getElem?_eq_none_iff.1 he; omega))).mono (fun e w' hh => same 5 e w' hh)
    | some e =>
      obtain ⟨i, rfl⟩ : ∃ i : Nat, x = i := ⟨x.toNat, by omega⟩
      rw [Int.toNat_natCast] at he
      simp only [Int.toNat_natCast]
      by_cases h0 : e.st = 0
      · simp only [if_neg (show ¬ e.st ≠ 0 from fun h => h h0)]
        by_cases h1 : z < e.gen ∨ 1048576 < z
        · simp only [if_pos h1]
          exact (rage_arg y b es i e z w h he h0 h1).mono (fun e w' hh => same 2 e w' hh)
        · simp only [if_neg h1]
          obtain ⟨m, rfl⟩ : ∃ m : Nat, z = m := ⟨z.toNat, by omega⟩
          simp only [Int.toNat_natCast]
          exact rage_ok y b es i e m w h he h0 (by omega) (by omega)
      · simp only [if_pos (show e.st ≠ 0 from h0)]
        exact (rage_held y b es i e z w h he h0).mono (fun e w' hh => same 5 e w' hh)
  · rw [if_neg hx]
    exact (rage_out y es.length cap a x z w hc h.max (Or.inl (by omega))).mono (fun e w' hh => same 5 e w' hh)

end Go.Proofs.Ythfkjephnhnpoaa
