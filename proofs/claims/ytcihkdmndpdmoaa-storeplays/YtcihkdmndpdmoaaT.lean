/-
  Calls, bytes and truths that came in; conditions as each theorem has them.
-/
import Derived.Test.YtcihkdmndpdmoaaI
import Derived.Deep.Strs
import Derived.SliceStrings
import Derived.SizedLaws
import Derived.ProofKit
import Derived.ChangeSame
import Derived.JoinedCond
import Derived.Lib.SmallJoins
import Derived.OpenShut
set_option maxRecDepth 100000
set_option linter.unusedSimpArgs false
set_option linter.unusedVariables false
namespace Go.Proofs.Ytcihkdmndpdmoaa
open Go.ChangeShapes Go.WideShapes Go.ChangeAt Go.RowKit
theorem c5 : Try.prog.cellsOf 5 = 1 := by kernel_rfl
theorem c4 : Try.prog.cellsOf 4 = 1 := by kernel_rfl
theorem c9 : Try.prog.cellsOf 9 = 1 := by kernel_rfl
theorem c3 : Try.prog.cellsOf 3 = 1 := by kernel_rfl
theorem cB : Try.prog.cellsOf 30 = 1 := by kernel_rfl
theorem cA : Try.prog.cellsOf 32 = 5 := by kernel_rfl
theorem by5 : Try.prog.bytesOf 5 = 1 := by kernel_rfl
theorem byA : Try.prog.bytesOf 32 = 64 := by kernel_rfl
theorem byte_of {n : Int} (h : (Lit.int .u8 n).wf = true) : ∃ k : Nat, k < 256 ∧ n = k := by
  have hb := bounds_u8 h
  exact ⟨n.toNat, by omega, by omega⟩
theorem one_cell {c : Value} {l : List Value} (h : [c] = l) {v : Value} (hl : l = [v]) : c = v := by rw [hl] at h; simpa using h
theorem str_open {H : Type} {enc : TypeId × Value → H} {W : World} {base : Nat} {sp : Nat → Bool} {held : Bool} {fuel : Nat} {c : Value} {x : DataW H × List MemPlace} (h : DataW.trod enc Try.prog W base sp held fuel 9 [c] = some x) : ∃ s : ByteArray, c = .string s ∧ s.size ≤ maxLen ∧ x.1 = .lit (.string s.data.toList) := by
  obtain ⟨s, e, hx, hs⟩ := DataW.trod_string Try.underlying9 h
  simp at e
  exact ⟨s, e, hs, by rw [hx]⟩
theorem int_of {H : Type} {enc : TypeId × Value → H} {W : World} {base : Nat} {sp : Nat → Bool} {held : Bool} {fuel : Nat} {c : Value} {x : DataW H × List MemPlace} (h : DataW.trod enc Try.prog W base sp held fuel 3 [c] = some x) : ∃ p, c = .int .i64 p ∧ (Lit.int .i64 p).wf = true := by
  obtain ⟨n, e, _, hw⟩ := DataW.trod_int Try.underlying3 h
  simp at e
  exact ⟨n, e, hw⟩
theorem slice_of {H : Type} {enc : TypeId × Value → H} {W : World} {base : Nat} {sp : Nat → Bool} {held : Bool} {fuel : Nat} {v : Value} {x : DataW H × List MemPlace} (hf : DataW.trod enc Try.prog W base sp held fuel 30 [v] = some x) : ∃ a n c, v = .slice a n c := by
  rcases Deep.open_slice Try.underlying30 hf with ⟨hcs, _⟩ | ⟨x, l, c', m, nn, D, Pl, hcs, _⟩
  · simp at hcs; exact ⟨_, _, _, hcs⟩
  · simp at hcs; exact ⟨_, _, _, hcs⟩
theorem open_bs {H : Type} {enc : TypeId × Value → H} {W : World} {base : Nat} {sp : Nat → Bool} {held : Bool} {fuel : Nat} {a : Option Addr} {n c : Nat} {d : DataW H} {ps : List MemPlace} (hf : DataW.trod enc Try.prog W base sp held fuel 30 [.slice a n c] = some (d, ps))
    (hw : ∀ k ∈ d.weights Try.prog 30, k ≤ reachBytes) : ∃ l, Src W a n c l ∧ n ≤ 140737488351232 := by
  rcases Deep.open_slice Try.underlying30 hf with ⟨hcs, _⟩ | ⟨x, l, c', m, nn, D, Pl, hcs, _, hl, hm, hmm, hx, hr⟩
  · simp at hcs
    obtain ⟨rfl, rfl, rfl⟩ := hcs
    exact ⟨[], Src.nilS W, by omega⟩
  · simp at hcs
    obtain ⟨rfl, rfl, rfl⟩ := hcs
    simp only [Prod.mk.injEq] at hx
    have hnm : n ≤ m := by rw [hmm]; split <;> omega
    have hwt := hw _ (show ((List.range n).map D).length * 1 + ((List.range (m - n)).map fun j => D (n + j)).length * 1 ∈ d.weights Try.prog 30 by rw [hx.1]; simp only [DataW.weights, Try.underlying30, by5, List.mem_cons]; exact Or.inl (by rw [Nat.add_mul]))
    unfold reachBytes at hwt
    simp only [List.length_map, List.length_range] at hwt
    have each : ∀ i, i < n → ∃ k : Nat, k < 256 ∧ W.cell? (x.add i) = some (.int .u8 (k : Nat)) := fun i hi => by
      obtain ⟨cs, hc, ht⟩ := hr i (by omega)
      rw [c5] at hc
      obtain ⟨_, hcl, hce⟩ := World.cells?_some hc
      obtain ⟨q, e0, _, w0⟩ := DataW.trod_int Try.underlying5 ht
      obtain ⟨k, lk, rfl⟩ := byte_of w0
      subst e0
      have g0 := hce 0 (by omega)
      rw [Deep.add_add] at g0
      exact ⟨k, lk, by simpa using g0⟩
    obtain ⟨S, hS⟩ := Deep.choose_lt each
    have hgd : ∀ i, i < n → ((List.range n).map fun i => S i).getD i 0 = S i := fun i hi => by simp [List.getD, hi]
    refine ⟨(List.range n).map fun i => S i, ⟨by simp, hl, hm, (by intro e; cases e), fun h0 => ?_, ?_⟩, by omega⟩
    · obtain ⟨b, o, s⟩ := x
      have h00 := (hS 0 h0).2
      have hsp : s = none := by simpa [Addr.add] using World.cell?_spot h00
      subst hsp
      refine ⟨b, o, rfl, by simpa [Addr.add] using lt_of_cell h00, fun i hi => ?_⟩
      rw [hgd i hi]
      have := (hS i hi).2
      rwa [add_none] at this
    · intro f hf
      obtain ⟨i, hi, rfl⟩ := List.mem_map.1 hf
      exact (hS i (List.mem_range.1 hi)).1

/-- A call that came in. -/
structure Ac where
  k : Int
  now : Int
  age : Int
  key : ByteArray
  a : Option Addr
  n : Nat
  c : Nat
  l : List Nat
structure AcAt (w : World) (b o i : Nat) (x : Ac) : Prop where
  c0 : w.cell? ⟨b, o + i * 5, none⟩ = some (.int .i64 x.k)
  c1 : w.cell? ⟨b, o + i * 5 + 1, none⟩ = some (.int .i64 x.now)
  c2 : w.cell? ⟨b, o + i * 5 + 2, none⟩ = some (.int .i64 x.age)
  c3 : w.cell? ⟨b, o + i * 5 + 3, none⟩ = some (.string x.key)
  c4 : w.cell? ⟨b, o + i * 5 + 4, none⟩ = some (.slice x.a x.n x.c)
  src : Src w x.a x.n x.c x.l
  len : x.n ≤ 140737488351232
  inN : -9223372036854775808 ≤ x.now ∧ x.now ≤ 9223372036854775807
  inT : -9223372036854775808 ≤ x.age ∧ x.age ≤ 9223372036854775807
/-- The calls that came in. -/
def IsActs (w : World) (a : Option Addr) (len cap : Nat) (f : Nat → Ac) : Prop := len ≤ cap ∧ cap ≤ 3518437208883 ∧ (0 < len → ∃ b o, a = some ⟨b, o, none⟩ ∧ b < w.heap.size ∧ ∀ i, i < len → AcAt w b o i (f i))
theorem AcAt.below {w w' : World} {b o i : Nat} {x : Ac} (h : AcAt w b o i x) (k : Below w.heap.size w w') (hb : b < w.heap.size) : AcAt w' b o i x :=
  ⟨(k.cell (p := ⟨b, o + i * 5, none⟩) hb).trans h.c0, (k.cell (p := ⟨b, o + i * 5 + 1, none⟩) hb).trans h.c1, (k.cell (p := ⟨b, o + i * 5 + 2, none⟩) hb).trans h.c2, (k.cell (p := ⟨b, o + i * 5 + 3, none⟩) hb).trans h.c3, (k.cell (p := ⟨b, o + i * 5 + 4, none⟩) hb).trans h.c4, h.src.below k, h.len, h.inN, h.inT⟩
theorem acts_at {w wr : World} {a : Option Addr} {len : Nat} {f : Nat → Ac} (h : 0 < len → ∃ b o, a = some ⟨b, o, none⟩ ∧ b < w.heap.size ∧ ∀ i, i < len → AcAt w b o i (f i)) (k : Below w.heap.size w wr) {i : Nat} (hi : i < len) : ∃ b o, a = some ⟨b, o, none⟩ ∧ AcAt wr b o i (f i) ∧ ((f i).n ≠ 0 → ∀ b' o', (f i).a = some ⟨b', o', none⟩ → b' < w.heap.size) := by
  obtain ⟨b, o, e, hb, hx⟩ := h (by omega)
  exact ⟨b, o, e, (hx i hi).below k hb, fun h0 b' o' e' => (hx i hi).src.lt (by omega) e'⟩
theorem wf_i64 {n : Int} (h : (Lit.int .i64 n).wf = true) : -9223372036854775808 ≤ n ∧ n ≤ 9223372036854775807 := by
  have := bounds_i64 h
  omega
theorem five {α : Type} {l : List α} (h : l.length = 5) : ∃ a b c d e, l = [a, b, c, d, e] := by
  match l, h with
  | [a, b, c, d, e], _ => exact ⟨a, b, c, d, e, rfl⟩
theorem act_open {H : Type} {enc : TypeId × Value → H} {W : World} {fuel : Nat} {cs : List Value} {d : DataW H} {ps : List MemPlace}
    (h : DataW.trod enc Try.prog W 0 (fun _ => true) true fuel 32 cs = some (d, ps)) (hw : ∀ k ∈ d.weights Try.prog 32, k ≤ reachBytes) :
    ∃ x : Ac, cs = [.int .i64 x.k, .int .i64 x.now, .int .i64 x.age, .string x.key, .slice x.a x.n x.c] ∧ Src W x.a x.n x.c x.l ∧ x.n ≤ 140737488351232 ∧ (-9223372036854775808 ≤ x.now ∧ x.now ≤ 9223372036854775807) ∧ (-9223372036854775808 ≤ x.age ∧ x.age ≤ 9223372036854775807) := by
  obtain ⟨xs, m, _, hx, hl, hlen, hf⟩ := DataW.trod_struct Try.underlying32 h
  obtain ⟨y0, y1, y2, y3, y4, rfl⟩ := five hlen
  rw [cA] at hl
  obtain ⟨c0, c1, c2, c3', c4, rfl⟩ := five hl
  have h0 : DataW.trod enc Try.prog W 0 (fun _ => true) true m 3 [c0] = some y0 := by simpa [c3] using hf 0 _ rfl
  have h1 : DataW.trod enc Try.prog W 0 (fun _ => true) true m 3 [c1] = some y1 := by simpa [c3] using hf 1 _ rfl
  have h2 : DataW.trod enc Try.prog W 0 (fun _ => true) true m 3 [c2] = some y2 := by simpa [c3] using hf 2 _ rfl
  have h3 : DataW.trod enc Try.prog W 0 (fun _ => true) true m 9 [c3'] = some y3 := by simpa [c9] using hf 3 _ rfl
  have h4 : DataW.trod enc Try.prog W 0 (fun _ => true) true m 30 [c4] = some y4 := by simpa [cB] using hf 4 _ rfl
  simp only [Prod.mk.injEq] at hx
  obtain ⟨k, rfl, _⟩ := int_of h0
  obtain ⟨now, rfl, w1⟩ := int_of h1
  obtain ⟨age, rfl, w2⟩ := int_of h2
  obtain ⟨t, rfl, ht, et⟩ := str_open h3
  obtain ⟨a, n, c, rfl⟩ := slice_of h4
  obtain ⟨l, hsrc, hn⟩ := open_bs (d := y4.1) (ps := y4.2) h4 (fun q hq => hw q (by
    rw [hx.1]
    simp only [DataW.weights, Try.underlying32, DataW.weightsEach, List.map_cons, List.map_nil, List.mem_append]
    exact Or.inr (Or.inr (Or.inr (Or.inr (Or.inl hq))))))
  exact ⟨⟨k, now, age, t, a, n, c, l⟩, rfl, hsrc, hn, wf_i64 w1, wf_i64 w2⟩
theorem weights_all {H : Type} {P : Program} {e : TypeId} {d : DataW H} {k : Nat} (hk : k ∈ d.weights P e) : ∀ {l : List (DataW H)}, d ∈ l → k ∈ DataW.weightsAll P e l
  | [], h => by cases h
  | x :: r, h => by
    simp only [DataW.weightsAll, List.mem_append]
    rcases List.mem_cons.1 h with rfl | h
    · exact Or.inl hk
    · exact Or.inr (weights_all hk h)
theorem acts_open {H : Type} {enc : TypeId × Value → H} {W : World} {fuel : Nat} {a1 : Option Addr} {len1 cap1 : Nat} {x : DataW H × List MemPlace} (hf : DataW.trod enc Try.prog W 0 (fun _ => true) true fuel 22 [.slice a1 len1 cap1] = some x)
    (hsz : ∀ n ∈ x.1.weights Try.prog 22, n ≤ reachBytes) : ∃ f, IsActs W a1 len1 cap1 f := by
  rcases Deep.open_slice Try.underlying22 hf with ⟨hcs, _⟩ | ⟨x, l, c, m, nn, D, Pl, hcs, _, hl, hm, hmm, hx, hr⟩
  · simp at hcs
    obtain ⟨rfl, rfl, rfl⟩ := hcs
    exact ⟨fun _ => ⟨0, 0, 0, noN, none, 0, 0, []⟩, Nat.le_refl _, Nat.zero_le _, fun h => by omega⟩
  · simp at hcs
    obtain ⟨rfl, rfl, rfl⟩ := hcs
    simp only [if_true] at hmm
    subst hmm
    subst hx
    have hcap : m ≤ 3518437208883 := by
      have h1 := hsz _ (show _ ∈ (DataW.slice _ _).weights Try.prog 22 by simp only [DataW.weights, Try.underlying22, List.mem_cons]; exact Or.inl rfl)
      rw [byA] at h1
      have h2 := reachBytes_lt
      simp at h1
      omega
    have each : ∀ i, i < len1 → ∃ f : Ac, W.cell? (x.add (i * 5)) = some (.int .i64 f.k) ∧ W.cell? (x.add (i * 5 + 1)) = some (.int .i64 f.now) ∧ W.cell? (x.add (i * 5 + 2)) = some (.int .i64 f.age) ∧ W.cell? (x.add (i * 5 + 3)) = some (.string f.key) ∧ W.cell? (x.add (i * 5 + 4)) = some (.slice f.a f.n f.c) ∧ Src W f.a f.n f.c f.l ∧ f.n ≤ 140737488351232 ∧ (-9223372036854775808 ≤ f.now ∧ f.now ≤ 9223372036854775807) ∧ (-9223372036854775808 ≤ f.age ∧ f.age ≤ 9223372036854775807) := fun i hi => by
      obtain ⟨cs, hc, ht⟩ := hr i (by omega)
      rw [cA] at hc
      obtain ⟨_, hcl, hce⟩ := World.cells?_some hc
      obtain ⟨f, rfl, hs, hn, b1, b2⟩ := act_open ht (fun q hq => hsz q (by
        simp only [DataW.weights, Try.underlying22, List.mem_cons, List.mem_append]
        exact Or.inr (Or.inl (weights_all hq (List.mem_map.2 ⟨i, List.mem_range.2 hi, rfl⟩)))))
      have g0 := hce 0 (by omega)
      have g1 := hce 1 (by omega)
      have g2 := hce 2 (by omega)
      have g3 := hce 3 (by omega)
      have g4 := hce 4 (by omega)
      rw [Deep.add_add] at g0 g1 g2 g3 g4
      exact ⟨f, by simpa using g0, by simpa using g1, by simpa using g2, by simpa using g3, by simpa using g4, hs, hn, b1, b2⟩
    haveI : Inhabited Ac := ⟨⟨0, 0, 0, noN, none, 0, 0, []⟩⟩
    obtain ⟨F, hF⟩ := Deep.choose_lt each
    refine ⟨F, hl, hcap, fun hpos => ?_⟩
    obtain ⟨b, o, spot⟩ := x
    have hx0 := (hF 0 hpos).1
    have hspot : spot = none := by simpa [Addr.add] using World.cell?_spot hx0
    subst hspot
    refine ⟨b, o, rfl, by simpa [Addr.add] using lt_of_cell hx0, fun i hi => ?_⟩
    obtain ⟨r0, r1, r2, r3, r4, hs, hn, b1, b2⟩ := hF i hi
    rw [add_none] at r0 r1 r2 r3 r4
    exact ⟨r0, by simpa [Nat.add_assoc] using r1, by simpa [Nat.add_assoc] using r2, by simpa [Nat.add_assoc] using r3, by simpa [Nat.add_assoc] using r4, hs, hn, b1, b2⟩
/-- Truths that came in. -/
structure SrcQ (w : World) (a : Option Addr) (len cap : Nat) (q : Nat → Bool) : Prop where
  hcap : len ≤ cap
  hmax : cap ≤ maxLen
  lies : 0 < len → ∃ b o, a = some ⟨b, o, none⟩ ∧ b < w.heap.size ∧ ∀ i, i < len → w.cell? ⟨b, o + i, none⟩ = some (.bool (q i))
theorem SrcQ.below {w w' : World} {a : Option Addr} {len cap : Nat} {q : Nat → Bool} (h : SrcQ w a len cap q) (k : Below w.heap.size w w') : SrcQ w' a len cap q := by
  refine ⟨h.hcap, h.hmax, fun h0 => ?_⟩
  obtain ⟨b, o, e, hb, hc⟩ := h.lies h0
  exact ⟨b, o, e, by have := k.size; omega, fun i hi => (k.cell (p := ⟨b, o + i, none⟩) hb).trans (hc i hi)⟩
theorem bools_open {H : Type} {enc : TypeId × Value → H} {W : World} {fuel : Nat} {a : Option Addr} {n c : Nat} {x : DataW H × List MemPlace} (hf : DataW.trod enc Try.prog W 0 (fun _ => true) true fuel 51 [.slice a n c] = some x) : ∃ q, SrcQ W a n c q := by
  rcases Deep.open_slice Try.underlying51 hf with ⟨hcs, _⟩ | ⟨x, l, c', m, nn, D, Pl, hcs, _, hl, hm, hmm, hx, hr⟩
  · simp at hcs
    obtain ⟨rfl, rfl, rfl⟩ := hcs
    exact ⟨fun _ => false, Nat.le_refl _, Nat.zero_le _, fun h => by omega⟩
  · simp at hcs
    obtain ⟨rfl, rfl, rfl⟩ := hcs
    have hnm : n ≤ m := by rw [hmm]; split <;> omega
    have each : ∀ i, i < n → ∃ k : Bool, W.cell? (x.add i) = some (.bool k) := fun i hi => by
      obtain ⟨cs, hc, ht⟩ := hr i (by omega)
      rw [c4] at hc
      obtain ⟨_, hcl, hce⟩ := World.cells?_some hc
      obtain ⟨q, e0, _⟩ := DataW.trod_bool Try.underlying4 ht
      subst e0
      have g0 := hce 0 (by omega)
      rw [Deep.add_add] at g0
      exact ⟨q, by simpa using g0⟩
    obtain ⟨S, hS⟩ := Deep.choose_lt each
    refine ⟨S, hl, hm, fun h0 => ?_⟩
    obtain ⟨b, o, s⟩ := x
    have h00 := hS 0 h0
    have hsp : s = none := by simpa [Addr.add] using World.cell?_spot h00
    subst hsp
    refine ⟨b, o, rfl, by simpa [Addr.add] using lt_of_cell h00, fun i hi => ?_⟩
    have := hS i hi
    rwa [add_none] at this
end Go.Proofs.Ytcihkdmndpdmoaa
