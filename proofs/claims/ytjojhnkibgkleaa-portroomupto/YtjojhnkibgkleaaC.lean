/-
  The leaf functions of package port: what they answer of an endpoint and of a port; conditions as each theorem has them.
-/
import Derived.Test.YtjojhnkibgkleaaB
set_option linter.unusedSimpArgs false
set_option linter.unusedVariables false
set_option maxRecDepth 8000
namespace Go.Proofs.Ytjojhnkibgkleaa
open Go.RowKit Go.Lib

theorem pMade_nil (w : World) : Calls Try.prog 41 #[.pointer none] w fun e w' => e = .returned (.bool false) ∧ w = w' := by
  go_enter Try.func41, Try.ntmps41
  go_wp2
  go_ret
  exact ⟨rfl, rfl⟩
theorem pMade_at (r : Nat) (m : Bool) (w : World) (h0 : w.cell? ⟨r, 0, none⟩ = some (.bool m)) : Calls Try.prog 41 #[.pointer (some ⟨r, 0, none⟩)] w fun e w' => e = .returned (.bool m) ∧ w = w' := by
  go_enter Try.func41, Try.ntmps41
  go_wp2
  go_ret
  exact ⟨rfl, rfl⟩
/-- A pointer to no port that New made: nil, or to one that does not say that it was made. -/
def NoPort (w : World) (v : Value) : Prop := v = .pointer none ∨ ∃ r : Nat, v = .pointer (some ⟨r, 0, none⟩) ∧ w.cell? ⟨r, 0, none⟩ = some (.bool false)
theorem pMade_un (v : Value) (w : World) (h : NoPort w v) : Calls Try.prog 41 #[v] w fun e w' => e = .returned (.bool false) ∧ w = w' := by
  rcases h with rfl | ⟨r, rfl, h⟩
  · exact pMade_nil w
  · exact pMade_at r false w h
theorem isCount_at (n : Int) (w : World) : Calls Try.prog 38 #[.int .i64 n] w fun e w' => e = .returned (.bool (decide (0 ≤ n ∧ n ≤ 64))) ∧ w = w' := by
  by_cases h1 : 0 ≤ n
  · by_cases h2 : n ≤ 64
    · go_enter Try.func38, Try.ntmps38
      go_wp2
      go_ret
      simp [h1, h2]
    · go_enter Try.func38, Try.ntmps38
      go_wp2
      go_ret
      simp [h1, h2]
  · go_enter Try.func38, Try.ntmps38
    go_wp2
    go_ret
    simp [h1]
    omega
theorem isClient_at (b : Nat) (c : Nat) (e : Int) (w : World) (h1 : w.cell? ⟨b, 1, none⟩ = some (.int .i64 c)) : Calls Try.prog 76 #[.pointer (some ⟨b, 0, none⟩), .int .i64 e] w fun x w' => x = .returned (.bool (inr_ 0 c e)) ∧ w = w' := by
  by_cases h2 : 0 ≤ e
  · go_enter Try.func76, Try.ntmps76
    go_wp2
    go_ret
    simp [inr_, h2]
  · go_enter Try.func76, Try.ntmps76
    go_wp2
    go_ret
    simp [inr_, h2]
    omega
theorem isServer_at (b c n : Nat) (a : Option Addr) (k : Nat) (e : Int) (w : World) (h1 : w.cell? ⟨b, 1, none⟩ = some (.int .i64 c)) (h3 : w.cell? ⟨b, 2, none⟩ = some (.slice a n k)) : Calls Try.prog 77 #[.pointer (some ⟨b, 0, none⟩), .int .i64 e] w fun x w' => x = .returned (.bool (inr_ c n e)) ∧ w = w' := by
  by_cases h2 : (c : Int) ≤ e
  · go_enter Try.func77, Try.ntmps77
    go_wp2
    go_ret
    simp [inr_, h2]
  · go_enter Try.func77, Try.ntmps77
    go_wp2
    go_ret
    simp [inr_, h2]
    omega
theorem box_at (b n : Nat) (a : Option Addr) (k : Nat) (w : World) (h3 : w.cell? ⟨b, 2, none⟩ = some (.slice a n k)) : Calls Try.prog 54 #[.pointer (some ⟨b, 0, none⟩)] w fun x w' => x = .returned (.int .i64 n) ∧ w = w' := by
  go_enter Try.func54, Try.ntmps54
  go_wp2
  go_ret
  exact ⟨rfl, rfl⟩
theorem isLast_at (b o : Nat) (p : Value) (x : En) (w : World) (h : EnAt w b o p x) : Calls Try.prog 70 #[.pointer (some ⟨b, o, none⟩)] w fun e w' => e = .returned (.bool (lastE x)) ∧ w = w' := by
  obtain ⟨c0, c1, c2, c3, c4, c5⟩ := h
  by_cases h1 : x.st = 1
  · go_enter Try.func70, Try.ntmps70
    go_wp2
    go_ret
    simp [lastE, h1]
  · go_enter Try.func70, Try.ntmps70
    go_wp2
    go_ret
    simp [lastE, h1]
theorem isSending_at (b o : Nat) (p : Value) (x : En) (w : World) (h : EnAt w b o p x) : Calls Try.prog 71 #[.pointer (some ⟨b, o, none⟩)] w fun e w' => e = .returned (.bool (sendE x)) ∧ w = w' := by
  obtain ⟨c0, c1, c2, c3, c4, c5⟩ := h
  by_cases h1 : x.st = 1
  · go_enter Try.func71, Try.ntmps71
    go_wp2
    go_ret
    simp [sendE, h1]
  · go_enter Try.func71, Try.ntmps71
    go_wp2
    go_ret
    simp [sendE, h1]
theorem mayGo_at (b o : Nat) (p : Value) (x : En) (w : World) (h : EnAt w b o p x) : Calls Try.prog 72 #[.pointer (some ⟨b, o, none⟩)] w fun e w' => e = .returned (.int .i64 (mayE x)) ∧ w = w' := by
  have hc := h.c2
  unfold mayE
  cases hs : sendE x
  · go_enter Try.func72, Try.ntmps72
    go_wp2_with fail
    refine (isSending_at b o p x _ h).mono ?_
    rintro e w1 ⟨rfl, rfl⟩
    rw [hs]
    go_wp2
    go_ret
    exact ⟨rfl, rfl⟩
  · go_enter Try.func72, Try.ntmps72
    go_wp2_with fail
    refine (isSending_at b o p x _ h).mono ?_
    rintro e w1 ⟨rfl, rfl⟩
    rw [hs]
    go_wp2
    go_ret
    exact ⟨rfl, rfl⟩
theorem isOver_at (b o : Nat) (p : Value) (x : En) (w : World) (h : EnAt w b o p x) : Calls Try.prog 51 #[.pointer (some ⟨b, o, none⟩)] w fun e w' => e = .returned (.bool (overE x)) ∧ w = w' := by
  obtain ⟨c0, c1, c2, c3, c4, c5⟩ := h
  by_cases h1 : x.st = 3
  · go_enter Try.func51, Try.ntmps51
    go_wp2
    go_ret
    simp [overE, h1]
  · cases h4 : x.oth
    · rw [h4] at c4
      go_enter Try.func51, Try.ntmps51
      go_wp2
      go_ret
      simp [overE, h1, h4]
    · rw [h4] at c4
      go_enter Try.func51, Try.ntmps51
      go_wp2
      go_ret
      simp [overE, h1, h4]
theorem IsPort.cells {w : World} {S : Nat → Prop} {b eb : Nat} {gv ov : Value} {R G : Nat → Nat} {P : Pt} (h : IsPort w S b eb gv ov R G P) : w.cell? ⟨b, 0, none⟩ = some (.bool true) ∧ w.cell? ⟨b, 1, none⟩ = some (.int .i64 P.c) ∧ w.cell? ⟨b, 2, none⟩ = some (.slice (some ⟨eb, 0, none⟩) P.L.length P.L.length) ∧ w.cell? ⟨b, 3, none⟩ = some gv ∧ w.cell? ⟨b, 4, none⟩ = some ov := by
  have := h.head
  simp [World.cell?, this]
theorem IsPort.frozen {w : World} {S : Nat → Prop} {b eb : Nat} {gv ov : Value} {R G : Nat → Nat} {P : Pt} (h : IsPort w S b eb gv ov R G P) (o : Nat) : w.frozen? ⟨b, o, none⟩ = false := by
  have := h.head
  simp [World.frozen?, this]
theorem zero_at (w : World) : EnAt (w.alloc (.cells #[.pointer none, .int .i64 0, .int .i64 0, .bool false, .bool false, .bool false] 89)) w.heap.size 0 (.pointer none) (z 0) := by
  have h := alloc_new w (.cells #[.pointer none, .int .i64 0, .int .i64 0, .bool false, .bool false, .bool false] 89)
  constructor <;> (simp only [World.cell?, h, z]; rfl)
/-- at: where no port is. -/
theorem at_un (v : Value) (end_ : Int) (w : World) (h : NoPort w v) : Calls Try.prog 49 #[v, .int .i64 end_] w fun e w' => e = .returned (.tuple #[.pointer (some ⟨w.heap.size, 0, none⟩), .int .i64 1]) ∧ EnAt w' w.heap.size 0 (.pointer none) (z 0) ∧ Below w.heap.size w w' := by
  go_enter Try.func49, Try.ntmps49
  go_wp2_with fail
  refine (pMade_un v _ h).mono ?_
  rintro e w1 ⟨rfl, rfl⟩
  go_wp2
  go_ret2
  exact ⟨rfl, zero_at _, (Below.refl _ _).alloc (Nat.le_refl _) _⟩
theorem str_or {P : Pt} (h : P.Ok) (e : Int) : str_ P e = (cli P e || srv P e) := by
  have := h.c
  unfold str_ cli srv inr_
  by_cases h1 : 0 ≤ e <;> by_cases h2 : e < P.c <;> by_cases h3 : e < P.L.length <;> simp [h1, h2, h3] <;> omega
/-- at: an endpoint that there is not. -/
theorem at_bad {w : World} {S : Nat → Prop} {b eb : Nat} {gv ov : Value} {R G : Nat → Nat} {P : Pt} (h : IsPort w S b eb gv ov R G P) (end_ : Int) (hs : str_ P end_ = false) : Calls Try.prog 49 #[.pointer (some ⟨b, 0, none⟩), .int .i64 end_] w fun e w' => e = .returned (.tuple #[.pointer (some ⟨w.heap.size, 0, none⟩), .int .i64 2]) ∧ EnAt w' w.heap.size 0 (.pointer none) (z 0) ∧ Below w.heap.size w w' := by
  obtain ⟨h0, h1, h2, h3, h4⟩ := h.cells
  rw [str_or h.ok, Bool.or_eq_false_iff] at hs
  obtain ⟨hc, hv⟩ := hs
  unfold cli at hc
  unfold srv at hv
  have HC := hide hc
  have HV := hide hv
  clear hc hv
  go_enter Try.func49, Try.ntmps49
  go_wp2_with fail
  refine (pMade_at b true _ h0).mono ?_
  rintro e w1 ⟨rfl, rfl⟩
  go_wp2_with fail
  refine (isClient_at b P.c end_ _ h1).mono ?_
  rintro e w1 ⟨rfl, rfl⟩
  rw [HC.out]
  go_wp2_with fail
  refine (isServer_at b P.c P.L.length _ _ end_ _ h1 h2).mono ?_
  rintro e w1 ⟨rfl, rfl⟩
  rw [HV.out]
  go_wp2
  go_ret2
  exact ⟨rfl, zero_at _, (Below.refl _ _).alloc (Nat.le_refl _) _⟩
/-- at: an endpoint. -/
theorem at_ok {w : World} {S : Nat → Prop} {b eb : Nat} {gv ov : Value} {R G : Nat → Nat} {P : Pt} (h : IsPort w S b eb gv ov R G P) (i : Nat) (hi : i < P.L.length) : Calls Try.prog 49 #[.pointer (some ⟨b, 0, none⟩), .int .i64 i] w fun e w' => e = .returned (.tuple #[.pointer (some ⟨eb, i * 6, none⟩), .int .i64 0]) ∧ w = w' := by
  obtain ⟨h0, h1, h2, h3, h4⟩ := h.cells
  have hn := h.ok.n
  have hs : str_ P i = true := by simp [str_, inr_, hi]
  rw [str_or h.ok] at hs
  unfold cli srv at hs
  cases hc : inr_ 0 P.c i
  · rw [hc, Bool.false_or] at hs
    have HC := hide hc
    have HV := hide hs
    clear hc hs
    go_enter Try.func49, Try.ntmps49
    go_wp2_with fail
    refine (pMade_at b true _ h0).mono ?_
    rintro e w1 ⟨rfl, rfl⟩
    go_wp2_with fail
    refine (isClient_at b P.c i _ h1).mono ?_
    rintro e w1 ⟨rfl, rfl⟩
    rw [HC.out]
    go_wp2_with fail
    refine (isServer_at b P.c P.L.length _ _ i _ h1 h2).mono ?_
    rintro e w1 ⟨rfl, rfl⟩
    rw [HV.out]
    go_wp2
    go_ret2
    exact ⟨rfl, rfl⟩
  · have HC := hide hc
    clear hc hs
    go_enter Try.func49, Try.ntmps49
    go_wp2_with fail
    refine (pMade_at b true _ h0).mono ?_
    rintro e w1 ⟨rfl, rfl⟩
    go_wp2_with fail
    refine (isClient_at b P.c i _ h1).mono ?_
    rintro e w1 ⟨rfl, rfl⟩
    rw [HC.out]
    go_wp2
    go_ret2
    exact ⟨rfl, rfl⟩

end Go.Proofs.Ytjojhnkibgkleaa
