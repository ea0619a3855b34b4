/-
  Calls that came in; conditions as each theorem has them.
-/
import Derived.Test.YtccoddmdlbdfjaaGreatDoorJoinedWK
set_option maxRecDepth 100000
set_option linter.unusedSimpArgs false
set_option linter.unusedVariables false
set_option linter.constructorNameAsVariable false
namespace Go.Proofs.YtccoddmdlbdfjaaGreatDoor
open Go.ChangeShapes Go.WideShapes Go.ChangeAt Go.RowKit
theorem cInt : Tryz.prog.cellsOf 3 = 1 := by kernel_rfl
theorem cByt : Tryz.prog.cellsOf 35 = 1 := by kernel_rfl
theorem cAct : Tryz.prog.cellsOf 39 = 3 := by kernel_rfl
theorem byAct : Tryz.prog.bytesOf 39 = 40 := by kernel_rfl
theorem int_of {H : Type} {enc : TypeId × Value → H} {W : World} {base : Nat} {sp : Nat → Bool} {held : Bool} {fuel : Nat} {c : Value} {x : DataW H × List MemPlace} (h : DataW.trod enc Tryz.prog W base sp held fuel 3 [c] = some x) : ∃ p, c = .int .i64 p ∧ (Lit.int .i64 p).wf = true := by
  obtain ⟨n, e, _, hw⟩ := DataW.trod_int Tryz.underlying3 h
  simp at e
  exact ⟨n, e, hw⟩
theorem slice_bytes {H : Type} {enc : TypeId × Value → H} {W : World} {base : Nat} {sp : Nat → Bool} {held : Bool} {fuel : Nat} {v : Value} {x : DataW H × List MemPlace} (hf : DataW.trod enc Tryz.prog W base sp held fuel 35 [v] = some x) : ∃ a n c, v = .slice a n c := by
  rcases Deep.open_slice Tryz.underlying35 hf with ⟨hcs, _⟩ | ⟨x, l, c', m, nn, D, Pl, hcs, _⟩
  · simp at hcs; exact ⟨_, _, _, hcs⟩
  · simp at hcs; exact ⟨_, _, _, hcs⟩
theorem bytes_len {H : Type} {d : DataW H} (h : ∀ k ∈ d.weights Tryz.prog 35, k ≤ reachBytes) {n : Nat} (hn : n = 0 ∨ ∃ el rest, d = .slice el rest ∧ n ≤ el.length) : n ≤ 140737488351232 := by
  rcases hn with rfl | ⟨el, rest, rfl, hl⟩
  · omega
  · have := h (el.length * 1 + rest.length * 1) (by simp only [DataW.weights, Tryz.underlying35, by5, List.mem_cons]; exact Or.inl (by omega))
    unfold reachBytes at this
    omega
/-- A call that came in. -/
structure Ac where
  k : Int
  code : Int
  ba : Option Addr
  bn : Nat
  bc : Nat
  bs : List Nat
def Ac.zero : Ac := ⟨0, 0, none, 0, 0, []⟩
/-- A call's cells. -/
def Ac.cs (x : Ac) : List Value := [.int .i64 x.k, .int .i64 x.code, .slice x.ba x.bn x.bc]
structure Ac.In (w : World) (x : Ac) : Prop where
  sb : Src w x.ba x.bn x.bc x.bs
  lb : x.bn ≤ 140737488351232
structure AcAt (w : World) (b o i : Nat) (x : Ac) : Prop where
  cell : ∀ j v, x.cs[j]? = some v → w.cell? ⟨b, o + i * 3 + j, none⟩ = some v
  inn : x.In w
/-- The calls that came in. -/
def IsActs (w : World) (a : Option Addr) (len cap : Nat) (f : Nat → Ac) : Prop := len ≤ cap ∧ cap ≤ 3518437208883 ∧ (0 < len → ∃ b o, a = some ⟨b, o, none⟩ ∧ b < w.heap.size ∧ ∀ i, i < len → AcAt w b o i (f i))
theorem Ac.In.below {w w' : World} {x : Ac} (h : x.In w) (k : Below w.heap.size w w') : x.In w' := ⟨h.sb.below k, h.lb⟩
theorem AcAt.below {w w' : World} {b o i : Nat} {x : Ac} (h : AcAt w b o i x) (k : Below w.heap.size w w') (hb : b < w.heap.size) : AcAt w' b o i x :=
  ⟨fun j v hv => (k.cell (p := ⟨b, o + i * 3 + j, none⟩) hb).trans (h.cell j v hv), h.inn.below k⟩
theorem threeA {α : Type} {l : List α} (h : l.length = 3) : ∃ a b c, l = [a, b, c] := by
  match l, h with
  | [a, b, c], _ => exact ⟨a, b, c, rfl⟩
theorem act_open {H : Type} {enc : TypeId × Value → H} {W : World} {fuel : Nat} {cs : List Value} {d : DataW H} {ps : List MemPlace}
    (h : DataW.trod enc Tryz.prog W 0 (fun _ => true) true fuel 39 cs = some (d, ps)) (hw : ∀ k ∈ d.weights Tryz.prog 39, k ≤ reachBytes) :
    ∃ x : Ac, cs = x.cs ∧ x.In W := by
  obtain ⟨xs, m, _, hx, hl, hlen, hf⟩ := DataW.trod_struct Tryz.underlying39 h
  obtain ⟨y0, y1, y2, rfl⟩ := threeA hlen
  rw [cAct] at hl
  obtain ⟨c0, c1, c2, rfl⟩ := threeA hl
  have h0 : DataW.trod enc Tryz.prog W 0 (fun _ => true) true m 3 [c0] = some y0 := by simpa [cInt] using hf 0 _ rfl
  have h1 : DataW.trod enc Tryz.prog W 0 (fun _ => true) true m 3 [c1] = some y1 := by simpa [cInt] using hf 1 _ rfl
  have h2 : DataW.trod enc Tryz.prog W 0 (fun _ => true) true m 35 [c2] = some y2 := by simpa [cInt, cByt] using hf 2 _ rfl
  simp only [Prod.mk.injEq] at hx
  obtain ⟨k, rfl, _⟩ := int_of h0
  obtain ⟨b_, rfl, _⟩ := int_of h1
  obtain ⟨ba, bn, bc, rfl⟩ := slice_bytes h2
  have hwd : ∀ q, q ∈ y2.1.weights Tryz.prog 35 → q ≤ reachBytes := fun q hq => hw q (by
    rw [hx.1]
    simp only [DataW.weights, Tryz.underlying39, DataW.weightsEach, List.map_cons, List.map_nil, List.mem_append]
    exact Or.inr (Or.inr (Or.inl hq)))
  obtain ⟨bs, hsb, hbn⟩ := open_bytes (d := y2.1) (ps := y2.2) h2
  have hb2 := bytes_len (fun q hq => hwd q hq) hbn
  exact ⟨⟨k, b_, ba, bn, bc, bs⟩, rfl, hsb, hb2⟩
theorem weights_all {H : Type} {P : Program} {e : TypeId} {d : DataW H} {k : Nat} (hk : k ∈ d.weights P e) : ∀ {l : List (DataW H)}, d ∈ l → k ∈ DataW.weightsAll P e l
  | [], h => by cases h
  | x :: r, h => by
    simp only [DataW.weightsAll, List.mem_append]
    rcases List.mem_cons.1 h with rfl | h
    · exact Or.inl hk
    · exact Or.inr (weights_all hk h)
theorem acts_open {H : Type} {enc : TypeId × Value → H} {W : World} {fuel : Nat} {a1 : Option Addr} {len1 cap1 : Nat} {x : DataW H × List MemPlace} (hf : DataW.trod enc Tryz.prog W 0 (fun _ => true) true fuel 22 [.slice a1 len1 cap1] = some x)
    (hsz : ∀ n ∈ x.1.weights Tryz.prog 22, n ≤ reachBytes) : ∃ f, IsActs W a1 len1 cap1 f := by
  rcases Deep.open_slice Tryz.underlying22 hf with ⟨hcs, _⟩ | ⟨x, l, c, m, nn, D, Pl, hcs, _, hl, hm, hmm, hx, hr⟩
  · simp at hcs
    obtain ⟨rfl, rfl, rfl⟩ := hcs
    exact ⟨fun _ => Ac.zero, Nat.le_refl _, Nat.zero_le _, fun h => by omega⟩
  · simp at hcs
    obtain ⟨rfl, rfl, rfl⟩ := hcs
    simp only [if_true] at hmm
    subst hmm
    subst hx
    have hcap : m ≤ 3518437208883 := by
      have h1 := hsz _ (show _ ∈ (DataW.slice _ _).weights Tryz.prog 22 by simp only [DataW.weights, Tryz.underlying22, List.mem_cons]; exact Or.inl rfl)
      rw [byAct] at h1
      have h2 := reachBytes_lt
      simp at h1
      omega
    have each : ∀ i, i < len1 → ∃ f : Ac, (∀ j v, f.cs[j]? = some v → W.cell? (x.add (i * 3 + j)) = some v) ∧ f.In W := fun i hi => by
      obtain ⟨cs, hc, ht⟩ := hr i (by omega)
      rw [cAct] at hc
      obtain ⟨_, hcl, hce⟩ := World.cells?_some hc
      obtain ⟨f, rfl, hin⟩ := act_open ht (fun q hq => hsz q (by
        simp only [DataW.weights, Tryz.underlying22, List.mem_cons, List.mem_append]
        exact Or.inr (Or.inl (weights_all hq (List.mem_map.2 ⟨i, List.mem_range.2 hi, rfl⟩)))))
      refine ⟨f, fun j v hv => ?_, hin⟩
      have hj := (List.getElem?_eq_some_iff.1 hv).1
      have g := hce j (by rw [hcl] at hj; exact hj)
      rw [Deep.add_add] at g
      rw [g]
      exact hv
    haveI : Inhabited Ac := ⟨Ac.zero⟩
    obtain ⟨F, hF⟩ := Deep.choose_lt each
    refine ⟨F, hl, hcap, fun hpos => ?_⟩
    obtain ⟨b, o, spot⟩ := x
    have hx0 := (hF 0 hpos).1 0 _ rfl
    have hspot : spot = none := by simpa [Addr.add] using World.cell?_spot hx0
    subst hspot
    refine ⟨b, o, rfl, by simpa [Addr.add] using lt_of_cell hx0, fun i hi => ?_⟩
    obtain ⟨r0, hin⟩ := hF i hi
    refine ⟨fun j v hv => ?_, hin⟩
    have := r0 j v hv
    rw [add_none] at this
    rw [Nat.add_assoc]
    exact this
end Go.Proofs.YtccoddmdlbdfjaaGreatDoor
