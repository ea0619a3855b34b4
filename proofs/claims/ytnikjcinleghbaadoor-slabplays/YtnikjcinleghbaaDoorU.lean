/-
  The calls of a slab whatever their arguments, the list of calls that a statement is given, as it lies in memory, and how many blocks are free, told off the memory; conditions as each theorem has them.
-/
import Derived.Test.YtnikjcinleghbaaDoorH
import Derived.Deep.Strs
import Derived.SizedLaws
import Derived.ProofKit
set_option linter.unusedSimpArgs false
set_option linter.unusedVariables false
namespace Go.Proofs.YtnikjcinleghbaaDoor
open Go.ChangeShapes Go.WideShapes Go.ChangeAt Go.RowKit

theorem Src.keep {w w' : World} {a : Option Addr} {len cap : Nat} {bs : List Int} (h : Src w a len cap bs) (hk : ∀ b o, a = some ⟨b, o, none⟩ → 0 < len → w'.heap[b]? = w.heap[b]?) : Src w' a len cap bs := by
  refine ⟨h.hlen, h.hcap, h.hmax, h.nil, fun h0 => ?_, h.byte⟩
  obtain ⟨b, o, e, hi⟩ := h.lies h0
  refine ⟨b, o, e, fun i hi' => ?_⟩
  rw [World.cell?_of_block (w := w) (hk b o e h0)]
  exact hi i hi'

theorem heldAt_true {hs : List Bool} {b : Int} (h : heldAt hs b = true) : ∃ k : Nat, b = k ∧ k < hs.length ∧ hs.getD k true = true := by
  unfold heldAt at h
  simp only [Bool.and_eq_true, decide_eq_true_eq] at h
  exact ⟨b.toNat, by omega, by omega, h.2⟩

theorem inAt_true {sz : Nat} {a n : Int} (h : inAt sz a n = true) : ∃ o m : Nat, a = o ∧ n = m ∧ o + m ≤ sz := by
  unfold inAt at h
  simp only [Bool.and_eq_true, decide_eq_true_eq] at h
  exact ⟨a.toNat, n.toNat, by omega, by omega, by omega⟩

def wcode (hs : List Bool) (sz : Nat) (b a : Int) (n : Nat) : Int := if heldAt hs b then (if inAt sz a n then 0 else 2) else 5
def wzs (hs : List Bool) (sz : Nat) (zs : List Int) (b a : Int) (bs : List Int) : List Int := if heldAt hs b && inAt sz a bs.length then splice zs (b.toNat * sz + a.toNat) bs else zs

theorem Kept.ofDraw {r g : Nat} (w : World) (n : Nat) : Kept r g w (w.drewN n) := (Kept.refl r g w).drewN n

theorem write_any (r g bl sz : Nat) (hs : List Bool) (zs : List Int) (b a : Int) (ad : Option Addr) (len cap : Nat) (bs : List Int) (w : World) (h : IsSlab w r g bl sz hs zs) (hS : Src w ad len cap bs) :
    Calls Tryd.prog 16 #[.pointer (some ⟨r, 0, none⟩), .int .i64 b, .int .i64 a, .slice ad len cap] w fun e w' => e = .returned (.int .i64 (wcode hs sz b a len)) ∧ IsSlab w' r g bl sz hs (wzs hs sz zs b a bs) ∧ Kept g g w w' := by
  have hlm : len ≤ maxLen := Nat.le_trans hS.hcap hS.hmax
  unfold wcode wzs
  rw [hS.hlen]
  cases hb : heldAt hs b with
  | false =>
    refine (write_none r g bl sz hs zs b a _ w h hb).mono ?_
    rintro e w' ⟨rfl, n, rfl⟩
    exact ⟨rfl, h.drewN n, Kept.ofDraw w n⟩
  | true =>
    cases hi : inAt sz a len with
    | false =>
      refine (write_arg r g bl sz hs zs b a ad len cap w h hb hlm hi).mono ?_
      rintro e w' ⟨rfl, n, rfl⟩
      exact ⟨rfl, h.drewN n, Kept.ofDraw w n⟩
    | true =>
      obtain ⟨k, rfl, hk, hk2⟩ := heldAt_true hb
      obtain ⟨o, m, rfl, hm, ho⟩ := inAt_true hi
      obtain rfl : len = m := by omega
      exact write_ok r g bl sz hs zs k o ad len cap bs w h (by rw [← h.len]; exact hk) hk2 hS ho

def pcode (hs : List Bool) (b : Int) : Int := if heldAt hs b then 0 else 5
def phs (hs : List Bool) (b : Int) : List Bool := if heldAt hs b then hs.set b.toNat false else hs
def pzs (hs : List Bool) (sz : Nat) (zs : List Int) (b : Int) : List Int := if heldAt hs b then splice zs (b.toNat * sz) (zeros sz) else zs

theorem put_any (r g bl sz : Nat) (hs : List Bool) (zs : List Int) (b : Int) (w : World) (h : IsSlab w r g bl sz hs zs) :
    Calls Tryd.prog 13 #[.pointer (some ⟨r, 0, none⟩), .int .i64 b] w fun e w' => e = .returned (.int .i64 (pcode hs b)) ∧ IsSlab w' r g bl sz (phs hs b) (pzs hs sz zs b) ∧ Kept r g w w' := by
  unfold pcode phs pzs
  cases hb : heldAt hs b with
  | false =>
    refine (put_none r g bl sz hs zs b w h hb).mono ?_
    rintro e w' ⟨rfl, n, rfl⟩
    exact ⟨rfl, h.drewN n, Kept.ofDraw w n⟩
  | true =>
    obtain ⟨k, rfl, hk, hk2⟩ := heldAt_true hb
    exact put_ok r g bl sz hs zs k w h (by rw [← h.len]; exact hk) hk2

/-- How many blocks are free, told off the memory. -/
def wordsOf (w : World) (r : Nat) : List Nat := (List.range 64).map fun i => match w.cell? ⟨r, 3 + i, none⟩ with | some (.int _ n) => n.toNat | _ => 0
def freeIn (w : World) (r : Nat) : Nat := cnt (wordsOf w r) 64

theorem IsSlab.freeIn {w : World} {r g bl sz : Nat} {hs : List Bool} {zs : List Int} (h : IsSlab w r g bl sz hs zs) : freeIn w r = hs.count false := by
  obtain ⟨ws, h1, h2⟩ := h.mem
  obtain ⟨_, _, _, c3, _⟩ := hdr_cells h1 h2.len
  have e : wordsOf w r = ws := by
    apply List.ext_getElem
    · simp [wordsOf, h2.len]
    · intro i hi1 hi2
      have := c3.cell i (by rw [← h2.len]; exact hi2)
      simp only [wordsOf, List.getElem_map, List.getElem_range, this]
      simp [List.getD, hi2]
  unfold YtnikjcinleghbaaDoor.freeIn
  rw [e, h2.count (by rw [h.len]; exact h.mb)]

/-- The i-th of the calls that came in. -/
structure Act where
  kind : Int
  block : Int
  at_ : Int
  n : Int
  a : Option Addr
  l : Nat
  c : Nat
  zs : List Int

structure ActAt (w : World) (b o i : Nat) (x : Act) : Prop where
  c0 : w.cell? ⟨b, o + i * 5, none⟩ = some (.int .i64 x.kind)
  c1 : w.cell? ⟨b, o + i * 5 + 1, none⟩ = some (.int .i64 x.block)
  c2 : w.cell? ⟨b, o + i * 5 + 2, none⟩ = some (.int .i64 x.at_)
  c3 : w.cell? ⟨b, o + i * 5 + 3, none⟩ = some (.int .i64 x.n)
  c4 : w.cell? ⟨b, o + i * 5 + 4, none⟩ = some (.slice x.a x.l x.c)
  row : IsRow .u8 w x.a x.l x.c x.zs
  short : x.l ≤ 140737488355328
  nwf : x.n < 9223372036854775808

/-- The calls that came in. -/
def IsActs (w : World) (a : Option Addr) (len cap : Nat) : Prop := len ≤ cap ∧ cap ≤ maxLen ∧ (0 < len → ∃ b o, a = some ⟨b, o, none⟩ ∧ b < w.heap.size ∧ ∀ i, i < len → ∃ x, ActAt w b o i x)

theorem cells3 : Tryd.prog.cellsOf 3 = 1 := by kernel_rfl
theorem cells30 : Tryd.prog.cellsOf 30 = 1 := by kernel_rfl
theorem cells32 : Tryd.prog.cellsOf 32 = 5 := by kernel_rfl
theorem bytes5 : Tryd.prog.bytesOf 5 = 1 := by kernel_rfl

theorem five {α : Type} {l : List α} (h : l.length = 5) : ∃ a b c d e, l = [a, b, c, d, e] := by
  match l, h with
  | [a, b, c, d, e], _ => exact ⟨a, b, c, d, e, rfl⟩

/-- One call, as it lies in memory and as it reads. -/
theorem act_open {H : Type} {enc : TypeId × Value → H} {W : World} {fuel : Nat} {cs : List Value} {x : DataW H × List MemPlace}
    (h : DataW.trod enc Tryd.prog W 0 (fun _ => true) true fuel 32 cs = some x) :
    ∃ kind block at_ n a l c zs d0 d1 d2 d3 d4, cs = [.int .i64 kind, .int .i64 block, .int .i64 at_, .int .i64 n, .slice a l c] ∧ IsRow .u8 W a l c zs ∧ n < 9223372036854775808 ∧ x.1 = .agg [d0, d1, d2, d3, d4] ∧ (l = 0 ∨ ∃ es sp, d4 = .slice es sp ∧ l ≤ es.length + sp.length) := by
  obtain ⟨xs, m, _, rfl, hl, hlen, hf⟩ := DataW.trod_struct Tryd.underlying32 h
  obtain ⟨y0, y1, y2, y3, y4, rfl⟩ := five hlen
  rw [cells32] at hl
  obtain ⟨c0, c1, c2, c3, c4, rfl⟩ := five hl
  have h0' : DataW.trod enc Tryd.prog W 0 (fun _ => true) true m 3 [c0] = some y0 := by simpa [cells3] using hf 0 _ rfl
  have h1' : DataW.trod enc Tryd.prog W 0 (fun _ => true) true m 3 [c1] = some y1 := by simpa [cells3] using hf 1 _ rfl
  have h2' : DataW.trod enc Tryd.prog W 0 (fun _ => true) true m 3 [c2] = some y2 := by simpa [cells3] using hf 2 _ rfl
  have h3' : DataW.trod enc Tryd.prog W 0 (fun _ => true) true m 3 [c3] = some y3 := by simpa [cells3] using hf 3 _ rfl
  have h4' : DataW.trod enc Tryd.prog W 0 (fun _ => true) true m 30 [c4] = some y4 := by simpa [cells30] using hf 4 _ rfl
  obtain ⟨kind, e0, _, _⟩ := DataW.trod_int Tryd.underlying3 h0'
  obtain ⟨block, e1, _, _⟩ := DataW.trod_int Tryd.underlying3 h1'
  obtain ⟨at_, e2, _, _⟩ := DataW.trod_int Tryd.underlying3 h2'
  obtain ⟨n, e3, _, hn⟩ := DataW.trod_int Tryd.underlying3 h3'
  simp at e0 e1 e2 e3
  subst e0 e1 e2 e3
  have hn' : n < 9223372036854775808 := by
    have := bounds_i64 hn
    omega
  rcases open_ints Tryd.underlying30 Tryd.underlying5 (by kernel_rfl) h4' with ⟨hcs, hx⟩ | ⟨a, l, c, zs, hcs, _, hlc, hm, hz, hx, hcell, hwz⟩
  · simp at hcs
    subst hcs
    exact ⟨kind, block, at_, n, none, 0, 0, [], _, _, _, _, _, rfl, .inl ⟨rfl, rfl, rfl, rfl⟩, hn', rfl, Or.inl rfl⟩
  · simp at hcs
    subst hcs
    refine ⟨kind, block, at_, n, some a, l, c, zs, _, _, _, _, _, rfl, .inr ⟨a, rfl, hlc, hm, by simpa using hz, hcell, hwz⟩, hn', rfl, Or.inr ⟨_, _, by rw [hx], ?_⟩⟩
    simp at hz
    simp [lits]
    omega

theorem weightsAll_mem {H : Type} {e : TypeId} : ∀ {l : List (DataW H)} {d : DataW H} {n : Nat}, d ∈ l → n ∈ d.weights Tryd.prog e → n ∈ DataW.weightsAll Tryd.prog e l
  | x :: r, d, n, hd, hn => by
    simp only [DataW.weightsAll, List.mem_append]
    rcases List.mem_cons.1 hd with rfl | hd
    · exact Or.inl hn
    · exact Or.inr (weightsAll_mem hd hn)

/-- How long the bytes of one call are at most. -/
theorem bound {H : Type} {x0 x1 x2 x3 : DataW H} {elems spare es sp : List (DataW H)} (hz : ∀ n ∈ (DataW.slice elems spare).weights Tryd.prog 22, n ≤ reachBytes)
    (hd : DataW.agg [x0, x1, x2, x3, .slice es sp] ∈ elems) : es.length + sp.length ≤ 140737488355328 := by
  have h1 : (es.length + sp.length) * Tryd.prog.bytesOf 5 ∈ (DataW.slice es sp).weights Tryd.prog 30 := by simp [DataW.weights, Tryd.underlying30]
  have h2 : (es.length + sp.length) * Tryd.prog.bytesOf 5 ∈ (DataW.agg [x0, x1, x2, x3, .slice es sp]).weights Tryd.prog 32 := by
    simp only [DataW.weights, Tryd.underlying32]
    exact DataW.weights_mem_each (j := 4) rfl rfl _ h1
  have h3 : (es.length + sp.length) * Tryd.prog.bytesOf 5 ∈ (DataW.slice elems spare).weights Tryd.prog 22 := by
    simp only [DataW.weights, Tryd.underlying22, List.mem_cons, List.mem_append]
    exact Or.inr (Or.inl (weightsAll_mem hd h2))
  have h4 := hz _ h3
  rw [bytes5] at h4
  have h5 := reachBytes_lt
  omega

theorem acts_open {H : Type} {enc : TypeId × Value → H} {W : World} {fuel : Nat} {a1 : Option Addr} {len1 cap1 : Nat} {x : DataW H × List MemPlace} (hf : DataW.trod enc Tryd.prog W 0 (fun _ => true) true fuel 22 [.slice a1 len1 cap1] = some x)
    (hsz : ∀ n ∈ x.1.weights Tryd.prog 22, n ≤ reachBytes) : IsActs W a1 len1 cap1 := by
  rcases Deep.open_slice Tryd.underlying22 hf with ⟨hcs, _⟩ | ⟨x, l, c, m, nn, D, Pl, hcs, _, hl, hm, hmm, hx, hr⟩
  · simp at hcs
    obtain ⟨rfl, rfl, rfl⟩ := hcs
    exact ⟨Nat.le_refl _, Nat.zero_le _, fun h => by omega⟩
  · simp at hcs
    obtain ⟨rfl, rfl, rfl⟩ := hcs
    simp only [if_true] at hmm
    subst hmm
    refine ⟨hl, hm, fun hpos => ?_⟩
    subst hx
    obtain ⟨b, o, spot⟩ := x
    obtain ⟨cs0, hc0, _⟩ := hr 0 (by omega)
    rw [cells32, Nat.zero_mul] at hc0
    obtain ⟨_, hcl0, hce0⟩ := World.cells?_some hc0
    obtain ⟨x0, x1, x2, x3, x4, rfl⟩ := five hcl0
    have hx0 := hce0 0 (by omega)
    simp [Addr.add] at hx0
    have hspot : spot = none := by simpa using World.cell?_spot hx0
    subst hspot
    refine ⟨b, o, rfl, by simpa using lt_of_cell hx0, fun i hi => ?_⟩
    obtain ⟨cs, hc, ht⟩ := hr i (by omega)
    rw [cells32] at hc
    obtain ⟨_, hcl, hce⟩ := World.cells?_some hc
    obtain ⟨kind, block, at_, n, a, l, c, zs, e0, e1, e2, e3, e4, rfl, hrow, hn, hagg, hlen⟩ := act_open ht
    have g0 := hce 0 (by omega)
    have g1 := hce 1 (by omega)
    have g2 := hce 2 (by omega)
    have g3 := hce 3 (by omega)
    have g4 := hce 4 (by omega)
    rw [Deep.add_add, add_none] at g0 g1 g2 g3 g4
    refine ⟨⟨kind, block, at_, n, a, l, c, zs⟩, by simpa using g0, by simpa [Nat.add_assoc] using g1, by simpa [Nat.add_assoc] using g2, by simpa [Nat.add_assoc] using g3, by simpa [Nat.add_assoc] using g4, hrow, ?_, hn⟩
    rcases hlen with rfl | ⟨es, sp, rfl, hle⟩
    · show (0 : Nat) ≤ _; omega
    · have hb := bound (es := es) (sp := sp) (x0 := e0) (x1 := e1) (x2 := e2) (x3 := e3) hsz (by
        rw [← hagg]
        exact List.mem_map.2 ⟨i, by simpa using hi, rfl⟩)
      show l ≤ _
      omega

end Go.Proofs.YtnikjcinleghbaaDoor
