/-
  The list of calls that a statement is given, as it lies in memory, and what is open told by its handles; conditions as each theorem has them.
-/
import Derived.Test.YthfkjephnhnpoaaG
import Derived.Deep.Strs
import Derived.SizedLaws
import Derived.ProofKit
import Derived.ChangeSame
set_option linter.unusedSimpArgs false
set_option linter.unusedVariables false
namespace Go.Proofs.Ythfkjephnhnpoaa
open Go.ChangeShapes Go.WideShapes Go.ChangeAt Go.RowKit

/-- A call that came in. -/
structure Act where
  d : Int
  x : Int
  y : Int
  k : Int
  n : Int

structure ActAt (w : World) (b o i : Nat) (a : Act) : Prop where
  c0 : w.cell? ⟨b, o + i * 5, none⟩ = some (.int .i64 a.d)
  c1 : w.cell? ⟨b, o + i * 5 + 1, none⟩ = some (.int .i64 a.x)
  c2 : w.cell? ⟨b, o + i * 5 + 2, none⟩ = some (.int .i64 a.y)
  c3 : w.cell? ⟨b, o + i * 5 + 3, none⟩ = some (.int .i64 a.k)
  c4 : w.cell? ⟨b, o + i * 5 + 4, none⟩ = some (.int .i64 a.n)

/-- The calls that came in. -/
def IsActs (w : World) (a : Option Addr) (len cap : Nat) : Prop := len ≤ cap ∧ cap ≤ 3518437208883 ∧ (0 < len → ∃ b o, a = some ⟨b, o, none⟩ ∧ b < w.heap.size ∧ ∀ i, i < len → ∃ x, ActAt w b o i x)

theorem ActAt.below {w w' : World} {b o i : Nat} {a : Act} (h : ActAt w b o i a) (k : Below w.heap.size w w') (hb : b < w.heap.size) : ActAt w' b o i a :=
  ⟨(k.cell (p := ⟨b, o + i * 5, none⟩) hb).trans h.c0, (k.cell (p := ⟨b, o + i * 5 + 1, none⟩) hb).trans h.c1, (k.cell (p := ⟨b, o + i * 5 + 2, none⟩) hb).trans h.c2, (k.cell (p := ⟨b, o + i * 5 + 3, none⟩) hb).trans h.c3, (k.cell (p := ⟨b, o + i * 5 + 4, none⟩) hb).trans h.c4⟩

theorem cells3 : Try.prog.cellsOf 3 = 1 := by kernel_rfl
theorem cells32 : Try.prog.cellsOf 32 = 2 := by kernel_rfl
theorem cells34 : Try.prog.cellsOf 34 = 5 := by kernel_rfl
theorem bytes34 : Try.prog.bytesOf 34 = 40 := by kernel_rfl

theorem five {α : Type} {l : List α} (h : l.length = 5) : ∃ a b c d e, l = [a, b, c, d, e] := by
  match l, h with
  | [a, b, c, d, e], _ => exact ⟨a, b, c, d, e, rfl⟩
theorem four {α : Type} {l : List α} (h : l.length = 4) : ∃ a b c d, l = [a, b, c, d] := by
  match l, h with
  | [a, b, c, d], _ => exact ⟨a, b, c, d, rfl⟩

theorem int_open {H : Type} {enc : TypeId × Value → H} {W : World} {fuel : Nat} {c : Value} {x : DataW H × List MemPlace} (h : DataW.trod enc Try.prog W 0 (fun _ => true) true fuel 3 [c] = some x) : ∃ n, c = .int .i64 n := by
  obtain ⟨n, e, _, _⟩ := DataW.trod_int Try.underlying3 h
  simp at e
  exact ⟨n, e⟩

/-- One call, as it lies in memory and as it reads. -/
theorem act_open {H : Type} {enc : TypeId × Value → H} {W : World} {fuel : Nat} {cs : List Value} {x : DataW H × List MemPlace}
    (h : DataW.trod enc Try.prog W 0 (fun _ => true) true fuel 34 cs = some x) : ∃ d p q k n, cs = [.int .i64 d, .int .i64 p, .int .i64 q, .int .i64 k, .int .i64 n] := by
  obtain ⟨xs, m, _, rfl, hl, hlen, hf⟩ := DataW.trod_struct Try.underlying34 h
  obtain ⟨y0, y1, y2, y3, rfl⟩ := four hlen
  rw [cells34] at hl
  obtain ⟨c0, c1, c2, c3, c4, rfl⟩ := five hl
  have h0 : DataW.trod enc Try.prog W 0 (fun _ => true) true m 3 [c0] = some y0 := by simpa [cells3] using hf 0 _ rfl
  have h1 : DataW.trod enc Try.prog W 0 (fun _ => true) true m 32 [c1, c2] = some y1 := by simpa [cells32] using hf 1 _ rfl
  have h2 : DataW.trod enc Try.prog W 0 (fun _ => true) true m 3 [c3] = some y2 := by simpa [cells3] using hf 2 _ rfl
  have h3 : DataW.trod enc Try.prog W 0 (fun _ => true) true m 3 [c4] = some y3 := by simpa [cells3] using hf 3 _ rfl
  obtain ⟨z0, z1, m2, _, _, e0, e1⟩ := trod_struct2 Try.underlying32 h1
  have e0' : DataW.trod enc Try.prog W 0 (fun _ => true) true m2 3 [c1] = some z0 := by simpa [cells3] using e0
  have e1' : DataW.trod enc Try.prog W 0 (fun _ => true) true m2 3 [c2] = some z1 := by simpa [cells3] using e1
  obtain ⟨d, rfl⟩ := int_open h0
  obtain ⟨p, rfl⟩ := int_open e0'
  obtain ⟨q, rfl⟩ := int_open e1'
  obtain ⟨k, rfl⟩ := int_open h2
  obtain ⟨n, rfl⟩ := int_open h3
  exact ⟨d, p, q, k, n, rfl⟩

theorem acts_open {H : Type} {enc : TypeId × Value → H} {W : World} {fuel : Nat} {a1 : Option Addr} {len1 cap1 : Nat} {x : DataW H × List MemPlace} (hf : DataW.trod enc Try.prog W 0 (fun _ => true) true fuel 22 [.slice a1 len1 cap1] = some x)
    (hsz : ∀ n ∈ x.1.weights Try.prog 22, n ≤ reachBytes) : IsActs W a1 len1 cap1 := by
  rcases Deep.open_slice Try.underlying22 hf with ⟨hcs, _⟩ | ⟨x, l, c, m, nn, D, Pl, hcs, _, hl, hm, hmm, hx, hr⟩
  · simp at hcs
    obtain ⟨rfl, rfl, rfl⟩ := hcs
    exact ⟨Nat.le_refl _, Nat.zero_le _, fun h => by omega⟩
  · simp at hcs
    obtain ⟨rfl, rfl, rfl⟩ := hcs
    simp only [if_true] at hmm
    subst hmm
    subst hx
    refine ⟨hl, ?_, fun hpos => ?_⟩
    · have h1 := hsz _ (show _ ∈ (DataW.slice _ _).weights Try.prog 22 by simp only [DataW.weights, Try.underlying22, List.mem_cons]; exact Or.inl rfl)
      rw [bytes34] at h1
      have h2 := reachBytes_lt
      simp at h1
      omega
    obtain ⟨b, o, spot⟩ := x
    obtain ⟨cs0, hc0, _⟩ := hr 0 (by omega)
    rw [cells34, Nat.zero_mul] at hc0
    obtain ⟨_, hcl0, hce0⟩ := World.cells?_some hc0
    obtain ⟨x0, x1, x2, x3, x4, rfl⟩ := five hcl0
    have hx0 := hce0 0 (by omega)
    simp [Addr.add] at hx0
    have hspot : spot = none := by simpa using World.cell?_spot hx0
    subst hspot
    refine ⟨b, o, rfl, by simpa using lt_of_cell hx0, fun i hi => ?_⟩
    obtain ⟨cs, hc, ht⟩ := hr i (by omega)
    rw [cells34] at hc
    obtain ⟨_, hcl, hce⟩ := World.cells?_some hc
    obtain ⟨d, p, q, k, n, rfl⟩ := act_open ht
    have g0 := hce 0 (by omega)
    have g1 := hce 1 (by omega)
    have g2 := hce 2 (by omega)
    have g3 := hce 3 (by omega)
    have g4 := hce 4 (by omega)
    rw [Deep.add_add, add_none] at g0 g1 g2 g3 g4
    exact ⟨⟨d, p, q, k, n⟩, by simpa using g0, by simpa [Nat.add_assoc] using g1, by simpa [Nat.add_assoc] using g2, by simpa [Nat.add_assoc] using g3, by simpa [Nat.add_assoc] using g4⟩

/-- What a handle of Live is. -/
theorem live_mem (es : List En) : ∀ (j : Nat) (p : Nat × Nat), p ∈ live es j → p.1 < j ∧ ∃ e, es[p.1]? = some e ∧ e.st = 1 ∧ p.2 = e.gen
  | 0, p, h => by simp [live] at h
  | j + 1, p, h => by
    unfold live at h
    split at h
    · rename_i e he
      split at h
      · rcases List.mem_append.1 h with h | h
        · have := live_mem es j p h
          exact ⟨by omega, this.2⟩
        · simp at h
          subst h
          exact ⟨by simp, e, he, by assumption, rfl⟩
      · have := live_mem es j p h
        exact ⟨by omega, this.2⟩
    · have := live_mem es j p h
      exact ⟨by omega, this.2⟩

theorem IsH.shape {w : World} {B : Nat} {v : Value} {l : List (Nat × Nat)} (h : IsH w B v l) : ∃ a c, v = .slice a l.length c := by
  rcases h with ⟨rfl, rfl⟩ | ⟨b, cap, cur, o, _⟩
  · exact ⟨none, 0, rfl⟩
  · exact ⟨_, _, o.val⟩
theorem IsH.lies {w : World} {B : Nat} {v : Value} {l : List (Nat × Nat)} (h : IsH w B v l) (h0 : 0 < l.length) : ∃ b c, v = .slice (some ⟨b, 0, none⟩) l.length c ∧ l.length ≤ c ∧ B ≤ b ∧ b < w.heap.size ∧ ∀ i p, l[i]? = some p → w.cell? ⟨b, i * 2, none⟩ = some (.int .i64 (p.1 : Nat)) ∧ w.cell? ⟨b, i * 2 + 1, none⟩ = some (.int .i64 (p.2 : Nat)) := by
  rcases h with ⟨rfl, rfl⟩ | ⟨b, cap, cur, o, hb⟩
  · simp at h0
  · exact ⟨b, cap, o.val, o.fit, hb, o.lt, fun i p hp => o.cells hp⟩
theorem own_new (w : World) (B : Nat) (hB : B ≤ w.heap.size) : IsH (w.alloc (.cells #[] 32)) B (.slice (some ⟨w.heap.size, 0, none⟩) 0 0) [] :=
  Or.inr ⟨w.heap.size, 0, #[], ⟨rfl, alloc_new _ _, Nat.le_refl _, Nat.zero_le _, rfl, rfl⟩, hB⟩

/-- All handles of l are over. -/
def Gone (es : List En) (l : List (Nat × Nat)) : Prop := ∀ p ∈ l, 1 ≤ p.2 ∧ ∃ e, es[p.1]? = some e ∧ p.2 < e.gen

theorem Gone.code {es : List En} {l : List (Nat × Nat)} (h : Gone es l) {p : Nat × Nat} (hp : p ∈ l) : code es p.1 p.2 = 30 := by
  obtain ⟨h1, e, he, h2⟩ := h p hp
  unfold Ythfkjephnhnpoaa.code
  rw [if_pos (by omega), Int.toNat_natCast, he]
  simp only
  rw [if_neg (by omega), if_neg (by omega), if_pos (by omega)]
/-- .. and stay so where no generation falls. -/
theorem Gone.set {es : List En} {l : List (Nat × Nat)} (h : Gone es l) {i : Nat} {e e' : En} (he : es[i]? = some e) (hle : e.gen ≤ e'.gen) : Gone (es.set i e') l := fun p hp => by
  obtain ⟨h1, a, ha, h2⟩ := h p hp
  refine ⟨h1, ?_⟩
  rw [List.getElem?_set]
  by_cases hx : i = p.1
  · rw [if_pos hx, if_pos (List.getElem?_eq_some_iff.1 he).1]
    refine ⟨e', rfl, ?_⟩
    rw [hx] at he
    rw [he] at ha
    simp at ha
    subst ha
    omega
  · rw [if_neg hx]; exact ⟨a, ha, h2⟩

end Go.Proofs.Ythfkjephnhnpoaa
