/-
  Calls that came in; conditions as each theorem has them.
-/
import Derived.Test.YtjojhnkibgkleaaT
set_option maxRecDepth 100000
set_option linter.unusedSimpArgs false
set_option linter.unusedVariables false
set_option linter.constructorNameAsVariable false
namespace Go.Proofs.Ytjojhnkibgkleaa
open Go.ChangeShapes Go.WideShapes Go.ChangeAt Go.RowKit

/-- A call that came in. -/
structure Ac where
  k : Int
  e : Ev
  d : De
def Ac.zero : Ac := ⟨0, ⟨0, 0, 0, emp, none, 0, 0⟩, ⟨0, 0, 0, 0, emp, 0⟩⟩
/-- A call's cells. -/
def Ac.cs (x : Ac) : List Value := [.int .i64 x.k, .int .i64 x.e.k, .int .i64 x.e.e, .int .i64 x.e.N, .string x.e.d, .slice x.e.a x.e.n x.e.c, .int .u8 x.d.a1, .int .u8 x.d.a2, .int .u8 x.d.a3, .int .u8 x.d.a4, .string x.d.nm, .int .i64 x.d.po]
structure Ac.In (x : Ac) : Prop where
  ev : x.e.Ok
  nm : x.d.nm.size ≤ maxLen
  kb : -9223372036854775808 ≤ x.k ∧ x.k ≤ 9223372036854775807
structure AcAt (w : World) (b o i : Nat) (x : Ac) : Prop where
  cell : ∀ j v, x.cs[j]? = some v → w.cell? ⟨b, o + i * 12 + j, none⟩ = some v
  inn : x.In
/-- The calls that came in. -/
def IsActs (w : World) (a : Option Addr) (len cap : Nat) (f : Nat → Ac) : Prop := len ≤ cap ∧ cap ≤ 1353245080339 ∧ (0 < len → ∃ b o, a = some ⟨b, o, none⟩ ∧ b < w.heap.size ∧ ∀ i, i < len → AcAt w b o i (f i))
theorem AcAt.below {w w' : World} {b o i : Nat} {x : Ac} (h : AcAt w b o i x) (k : Below w.heap.size w w') (hb : b < w.heap.size) : AcAt w' b o i x :=
  ⟨fun j v hv => (k.cell (p := ⟨b, o + i * 12 + j, none⟩) hb).trans (h.cell j v hv), h.inn⟩
theorem act_open {H : Type} {enc : TypeId × Value → H} {W : World} {fuel : Nat} {cs : List Value} {d : DataW H × List MemPlace}
    (h : DataW.trod enc Try.prog W 0 (fun _ => true) true fuel 41 cs = some d) : ∃ x : Ac, cs = x.cs ∧ x.In := by
  obtain ⟨xs, m, _, hx, hl, hlen, hf⟩ := DataW.trod_struct Try.underlying41 h
  obtain ⟨y0, y1, y2, rfl⟩ := three hlen
  rw [c41] at hl
  obtain ⟨k0, k1, k2, k3, k4, k5, k6, k7, k8, k9, k10, k11, rfl⟩ := twelve hl
  have h0 : DataW.trod enc Try.prog W 0 (fun _ => true) true m 3 [k0] = some y0 := by simpa [c3] using hf 0 _ rfl
  have h1 : DataW.trod enc Try.prog W 0 (fun _ => true) true m 33 [k1, k2, k3, k4, k5] = some y1 := by simpa [c3, c33] using hf 1 _ rfl
  have h2 : DataW.trod enc Try.prog W 0 (fun _ => true) true m 39 [k6, k7, k8, k9, k10, k11] = some y2 := by simpa [c3, c33, c39] using hf 2 _ rfl
  obtain ⟨k, rfl, w0⟩ := int_of h0
  obtain ⟨e, he, ho⟩ := ev_trod h1
  obtain ⟨d, hd, hn⟩ := de_trod h2
  simp only [evV, List.cons.injEq, and_true] at he
  obtain ⟨rfl, rfl, rfl, rfl, rfl⟩ := he
  simp only [deV, List.cons.injEq, and_true] at hd
  obtain ⟨rfl, rfl, rfl, rfl, rfl, rfl⟩ := hd
  exact ⟨⟨k, e, d⟩, rfl, ho, hn, w0⟩
theorem acts_open {H : Type} {enc : TypeId × Value → H} {W : World} {fuel : Nat} {a1 : Option Addr} {len1 cap1 : Nat} {x : DataW H × List MemPlace} (hf : DataW.trod enc Try.prog W 0 (fun _ => true) true fuel 22 [.slice a1 len1 cap1] = some x)
    (hsz : ∀ n ∈ x.1.weights Try.prog 22, n ≤ reachBytes) : ∃ f, IsActs W a1 len1 cap1 f := by
  rcases Deep.open_slice Try.underlying22 hf with ⟨hcs, _⟩ | ⟨x, l, c, m, nn, D, Pl, hcs, _, hl, hm, hmm, hx, hr⟩
  · simp at hcs
    obtain ⟨rfl, rfl, rfl⟩ := hcs
    exact ⟨fun _ => Ac.zero, Nat.le_refl _, Nat.zero_le _, fun h => by omega⟩
  · simp at hcs
    obtain ⟨rfl, rfl, rfl⟩ := hcs
    simp only [if_true] at hmm
    subst hmm
    subst hx
    have hcap : m ≤ 1353245080339 := by
      have h1 := hsz _ (show _ ∈ (DataW.slice _ _).weights Try.prog 22 by simp only [DataW.weights, Try.underlying22, List.mem_cons]; exact Or.inl rfl)
      rw [by41] at h1
      have h2 := reachBytes_lt
      simp at h1
      omega
    have each : ∀ i, i < len1 → ∃ f : Ac, (∀ j v, f.cs[j]? = some v → W.cell? (x.add (i * 12 + j)) = some v) ∧ f.In := fun i hi => by
      obtain ⟨cs, hc, ht⟩ := hr i (by omega)
      rw [c41] at hc
      obtain ⟨_, hcl, hce⟩ := World.cells?_some hc
      obtain ⟨f, rfl, hin⟩ := act_open ht
      refine ⟨f, fun j v hv => ?_, hin⟩
      have hj := (List.getElem?_eq_some_iff.1 hv).1
      have g := hce j (by rw [hcl] at hj; exact hj)
      rw [Deep.add_add] at g
      rw [g]
      exact hv
    haveI : Inhabited Ac := ⟨Ac.zero⟩
    obtain ⟨F, hF⟩ := Deep.choose_lt each
    refine ⟨F, hl, hcap, fun hpos => ?_⟩
    obtain ⟨b, o, spot⟩ := x
    have hx0 := (hF 0 hpos).1 0 _ rfl
    have hspot : spot = none := by simpa [Addr.add] using World.cell?_spot hx0
    subst hspot
    refine ⟨b, o, rfl, by simpa [Addr.add] using cell_lt hx0, fun i hi => ?_⟩
    obtain ⟨r0, hin⟩ := hF i hi
    refine ⟨fun j v hv => ?_, hin⟩
    have := r0 j v hv
    rw [add_none] at this
    rw [Nat.add_assoc]
    exact this
end Go.Proofs.Ytjojhnkibgkleaa
