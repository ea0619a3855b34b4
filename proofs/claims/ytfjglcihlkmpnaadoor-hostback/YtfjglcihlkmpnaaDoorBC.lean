/-
  The calls of HostBack, each with the ending that the numbers tell; conditions as each theorem has them.
-/
import Derived.Test.YtfjglcihlkmpnaaDoorBN
set_option linter.unusedSimpArgs false
set_option linter.unusedVariables false
namespace Go.Proofs.YtfjglcihlkmpnaaDoor
open Go.RowKit

theorem hot_lt {a : Ad} {n : List Nat} (h : ∀ x ∈ n, x < 256) : ∀ x ∈ hot a n, x < 256 := by
  unfold hot
  split
  · split
    · intro x hx; have := adt_mem a x hx; omega
    · exact h
  · simp
theorem det_lt {a : Ad} {n : List Nat} {p : Int} (h : ∀ x ∈ n, x < 256) : ∀ x ∈ det a n p, x < 256 := by
  unfold det
  split
  · intro x hx
    rcases List.mem_append.1 hx with hx | hx
    · exact hot_lt h x hx
    · rcases List.mem_cons.1 hx with rfl | hx
      · omega
      · exact dec_lt _ x hx
  · simp
theorem det_len (a : Ad) (n : List Nat) (p : Int) (ha : a.ok) : (det a n p).length ≤ 259 := by
  unfold det
  split
  · rename_i h
    have := hot_len a n ha
    have := dec_len (n := p.toNat) (by omega)
    simp; omega
  · simp
/-- What is printed of a destination is read as it was. -/
theorem read_first (a : Ad) (n : ByteArray) (p : Int) (w : World) (hT : Tabs w) (ha : a.ok) (hne : det a (byt n) p ≠ []) : Calls Tryd.prog 19 #[.string (strN (det a (byt n) p))] w fun e w' => e = .returned (.tuple #[deV a n p, .nilIface]) ∧ Below w.heap.size w w' := by
  obtain ⟨hc, h1, h2⟩ := det_ne hne
  have hb : byt (strN (det a (byt n) p)) = det a (byt n) p := byt_strN _ (det_lt (byt_lt n))
  refine (parseDest_at (strN (det a (byt n) p)) w (by rw [strN_size]; have := det_len a (byt n) p ha; unfold maxLen; omega) hT.v hT.e).mono ?_
  rintro e w' ⟨v, rfl, her, hb'⟩
  rw [hb, dest_det a (byt n) p ha hc h1 h2] at her ⊢
  have hv : v = .nilIface := her
  subst hv
  refine ⟨?_, hb'⟩
  have e1 : deC ((([a.1, a.2.1, a.2.2.1, a.2.2.2], byt n), p.toNat) : De) = #[.int .u8 (a.1 : Nat), .int .u8 (a.2.1 : Nat), .int .u8 (a.2.2.1 : Nat), .int .u8 (a.2.2.2 : Nat), .string n, .int .i64 p] := by
    unfold deC
    simp only [strN_byt]
    rw [show ((p.toNat : Nat) : Int) = p by omega]
    rfl
  rw [e1]
  rfl
/-- A text that is none. -/
theorem read_bad (t : ByteArray) (w : World) (hT : Tabs w) (hm : t.size ≤ maxLen) (h : (dest (byt t)).2 ≠ .ok) : Calls Tryd.prog 19 #[.string t] w fun e w' => ∃ b, e = .returned (.tuple #[.agg #[.int .u8 0, .int .u8 0, .int .u8 0, .int .u8 0, .string ⟨#[]⟩, .int .i64 0], .iface 96 (.pointer (some ⟨b, 0, none⟩))]) ∧ Below w.heap.size w w' := by
  refine (parseDest_at t w hm hT.v hT.e).mono ?_
  rintro e w' ⟨v, rfl, her, hb'⟩
  obtain ⟨b, rfl⟩ := her.some h
  rw [dest_bad h]
  exact ⟨b, rfl, hb'⟩
theorem dest_len4 (l : List Nat) : (dest l).1.1.1.length = 4 := by
  unfold dest
  split
  · rfl
  · split
    · rfl
    · rename_i c _
      have := host_len (l.take c)
      split
      · rename_i h hh
        rw [hh] at this
        split
        · exact this
        · rfl
      · rfl
/-- A text that is one: what is read, printed and read again. -/
theorem read_good (t : ByteArray) (hm : t.size ≤ maxLen) (h : (dest (byt t)).2 = .ok) : ∃ (a : Ad) (n : ByteArray) (p : Int), a.ok ∧ n.size ≤ maxLen ∧ det a (byt n) p = low (byt t) ∧ low (byt t) ≠ [] ∧
    ∀ w, Tabs w → Calls Tryd.prog 19 #[.string t] w fun e w' => e = .returned (.tuple #[deV a n p, .nilIface]) ∧ Below w.heap.size w w' := by
  obtain ⟨x0, x1, x2, x3, h4⟩ := four (dest_len4 (byt t))
  obtain ⟨m, hmm⟩ : ∃ m, m = (dest (byt t)).1.1.2 := ⟨_, rfl⟩
  obtain ⟨q, hq⟩ : ∃ q, q = (dest (byt t)).1.2 := ⟨_, rfl⟩
  have hd : dest (byt t) = ((([x0, x1, x2, x3], m), q), .ok) := by
    rw [hmm, hq, ← h4, ← h]
  obtain ⟨k1, k2, k3, k4, k5⟩ := dest_back hd
  have hml : ∀ x ∈ m, x < 256 := by
    intro x hx
    by_cases h0 : m = []
    · subst h0; cases hx
    · have h6 : hot (x0, x1, x2, x3) m = m := by unfold hot; rw [if_pos k1, if_neg h0]
      have h7 : x ∈ low (byt t) := by rw [← k5]; unfold det; rw [if_pos ⟨k1, by omega, by omega⟩, h6]; simp [hx]
      exact low_lt (byt_lt t) x h7
  have hbm : byt (strN m) = m := byt_strN m hml
  have hlen := det_len (x0, x1, x2, x3) m (q : Int) k4
  have hml2 : m.length ≤ 253 := by
    by_cases h0 : m = []
    · subst h0; simp
    · have := hot_len (x0, x1, x2, x3) m k4
      unfold hot at this
      rwa [if_pos k1, if_neg h0] at this
  refine ⟨(x0, x1, x2, x3), strN m, q, k4, by rw [strN_size]; unfold maxLen; omega, by rw [hbm]; exact k5, ?_, fun w hT => ?_⟩
  · rw [← k5]; unfold det; rw [if_pos ⟨k1, by omega, by omega⟩]; simp
  · refine (parseDest_at t w hm hT.v hT.e).mono ?_
    rintro e w' ⟨v, rfl, her, hb'⟩
    rw [hd] at her ⊢
    have hv : v = .nilIface := her
    subst hv
    exact ⟨rfl, hb'⟩
end Go.Proofs.YtfjglcihlkmpnaaDoor
