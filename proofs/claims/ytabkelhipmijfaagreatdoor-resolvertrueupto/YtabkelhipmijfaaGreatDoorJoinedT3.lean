/-
  Calls that came in; What stays of a resolver over its calls: the names of its questions differ, its sizes; conditions as each theorem has them.
-/
import Derived.Test.YtabkelhipmijfaaGreatDoorT
import Derived.Test.YtabkelhipmijfaaGreatDoorJoined11
import Derived.Test.YtabkelhipmijfaaGreatDoorGM
import Derived.Test.YtabkelhipmijfaaGreatDoorGW
set_option maxRecDepth 100000
set_option linter.unusedSimpArgs false
set_option linter.unusedVariables false
set_option linter.constructorNameAsVariable false
namespace Go.Proofs.YtabkelhipmijfaaGreatDoor
open Go.ChangeShapes Go.WideShapes Go.ChangeAt Go.RowKit
theorem cAddr : Tryz.prog.cellsOf 39 = 4 := by kernel_rfl
theorem cStr : Tryz.prog.cellsOf 9 = 1 := by kernel_rfl
theorem cInt : Tryz.prog.cellsOf 3 = 1 := by kernel_rfl
theorem cAds : Tryz.prog.cellsOf 31 = 1 := by kernel_rfl
theorem cByt : Tryz.prog.cellsOf 30 = 1 := by kernel_rfl
theorem cAct : Tryz.prog.cellsOf 33 = 8 := by kernel_rfl
theorem byAddr : Tryz.prog.bytesOf 39 = 4 := by kernel_rfl
theorem byAct : Tryz.prog.bytesOf 33 = 104 := by kernel_rfl
theorem str_open {H : Type} {enc : TypeId × Value → H} {W : World} {base : Nat} {sp : Nat → Bool} {held : Bool} {fuel : Nat} {c : Value} {x : DataW H × List MemPlace} (h : DataW.trod enc Tryz.prog W base sp held fuel 9 [c] = some x) : ∃ s : ByteArray, c = .string s ∧ s.size ≤ maxLen ∧ x.1 = .lit (.string s.data.toList) := by
  obtain ⟨s, e, hx, hs⟩ := DataW.trod_string Tryz.underlying9 h
  simp at e
  exact ⟨s, e, hs, by rw [hx]⟩
theorem int_of {H : Type} {enc : TypeId × Value → H} {W : World} {base : Nat} {sp : Nat → Bool} {held : Bool} {fuel : Nat} {c : Value} {x : DataW H × List MemPlace} (h : DataW.trod enc Tryz.prog W base sp held fuel 3 [c] = some x) : ∃ p, c = .int .i64 p ∧ (Lit.int .i64 p).wf = true := by
  obtain ⟨n, e, _, hw⟩ := DataW.trod_int Tryz.underlying3 h
  simp at e
  exact ⟨n, e, hw⟩
theorem slice_ads {H : Type} {enc : TypeId × Value → H} {W : World} {base : Nat} {sp : Nat → Bool} {held : Bool} {fuel : Nat} {v : Value} {x : DataW H × List MemPlace} (hf : DataW.trod enc Tryz.prog W base sp held fuel 31 [v] = some x) : ∃ a n c, v = .slice a n c := by
  rcases Deep.open_slice Tryz.underlying31 hf with ⟨hcs, _⟩ | ⟨x, l, c', m, nn, D, Pl, hcs, _⟩
  · simp at hcs; exact ⟨_, _, _, hcs⟩
  · simp at hcs; exact ⟨_, _, _, hcs⟩
theorem slice_bytes {H : Type} {enc : TypeId × Value → H} {W : World} {base : Nat} {sp : Nat → Bool} {held : Bool} {fuel : Nat} {v : Value} {x : DataW H × List MemPlace} (hf : DataW.trod enc Tryz.prog W base sp held fuel 30 [v] = some x) : ∃ a n c, v = .slice a n c := by
  rcases Deep.open_slice Tryz.underlying30 hf with ⟨hcs, _⟩ | ⟨x, l, c', m, nn, D, Pl, hcs, _⟩
  · simp at hcs; exact ⟨_, _, _, hcs⟩
  · simp at hcs; exact ⟨_, _, _, hcs⟩
theorem bytes_len {H : Type} {d : DataW H} (h : ∀ k ∈ d.weights Tryz.prog 30, k ≤ reachBytes) {n : Nat} (hn : n = 0 ∨ ∃ el rest, d = .slice el rest ∧ n ≤ el.length) : n ≤ 140737488351232 := by
  rcases hn with rfl | ⟨el, rest, rfl, hl⟩
  · omega
  · have := h (el.length * 1 + rest.length * 1) (by simp only [DataW.weights, Tryz.underlying30, by5, List.mem_cons]; exact Or.inl (by omega))
    unfold reachBytes at this
    omega
theorem open_ads {H : Type} {enc : TypeId × Value → H} {W : World} {base : Nat} {sp : Nat → Bool} {held : Bool} {fuel : Nat} {a : Option Addr} {n c : Nat} {d : DataW H} {ps : List MemPlace} (hf : DataW.trod enc Tryz.prog W base sp held fuel 31 [.slice a n c] = some (d, ps))
    (hw : ∀ k ∈ d.weights Tryz.prog 31, k ≤ reachBytes) : ∃ l, SrcA W a n c l ∧ n * 4 ≤ 140737488351232 := by
  rcases Deep.open_slice Tryz.underlying31 hf with ⟨hcs, _⟩ | ⟨x, l, c', m, nn, D, Pl, hcs, _, hl, hm, hmm, hx, hr⟩
  · simp at hcs
    obtain ⟨rfl, rfl, rfl⟩ := hcs
    exact ⟨[], SrcA.nilS W, by omega⟩
  · simp at hcs
    obtain ⟨rfl, rfl, rfl⟩ := hcs
    simp only [Prod.mk.injEq] at hx
    have hnm : n ≤ m := by rw [hmm]; split <;> omega
    have hwt := hw _ (show ((List.range n).map D).length * 4 + ((List.range (m - n)).map fun j => D (n + j)).length * 4 ∈ d.weights Tryz.prog 31 by rw [hx.1]; simp only [DataW.weights, Tryz.underlying31, byAddr, List.mem_cons]; exact Or.inl (by rw [Nat.add_mul]))
    unfold reachBytes at hwt
    simp only [List.length_map, List.length_range] at hwt
    have each : ∀ i, i < n → ∃ d : Ad, d.ok ∧ W.cell? (x.add (4 * i)) = some (.int .u8 (d.1 : Nat)) ∧ W.cell? (x.add (4 * i + 1)) = some (.int .u8 (d.2.1 : Nat)) ∧ W.cell? (x.add (4 * i + 2)) = some (.int .u8 (d.2.2.1 : Nat)) ∧ W.cell? (x.add (4 * i + 3)) = some (.int .u8 (d.2.2.2 : Nat)) := fun i hi => by
      obtain ⟨cs, hc, ht⟩ := hr i (by omega)
      rw [cAddr] at hc
      obtain ⟨_, hcl, hce⟩ := World.cells?_some hc
      obtain ⟨d, hd, rfl⟩ := ad_of ht
      have g0 := hce 0 (by omega)
      have g1 := hce 1 (by omega)
      have g2 := hce 2 (by omega)
      have g3 := hce 3 (by omega)
      rw [Deep.add_add] at g0 g1 g2 g3
      refine ⟨d, hd, ?_, ?_, ?_, ?_⟩
      · rw [Nat.mul_comm]; simpa using g0
      · rw [Nat.mul_comm]; simpa using g1
      · rw [Nat.mul_comm]; simpa using g2
      · rw [Nat.mul_comm]; simpa using g3
    obtain ⟨S, hS⟩ := Deep.choose_lt each
    have hgd : ∀ i, i < n → ((List.range n).map fun i => S i).getD i (0, 0, 0, 0) = S i := fun i hi => by simp [List.getD, hi]
    refine ⟨(List.range n).map fun i => S i, ⟨by simp, hl, hm, (by intro e; cases e), fun h0 => ?_, ?_⟩, by omega⟩
    · obtain ⟨b, o, s⟩ := x
      have h00 := (hS 0 h0).2.1
      have hsp : s = none := by simpa [Addr.add] using World.cell?_spot h00
      subst hsp
      refine ⟨b, o, rfl, by simpa [Addr.add] using lt_of_cell h00, fun j u hu => ?_⟩
      have hj := (List.getElem?_eq_some_iff.1 hu).1
      rw [adCs_len] at hj
      simp only [List.length_map, List.length_range] at hj
      obtain ⟨i, hi⟩ : ∃ i, j = 4 * i ∨ j = 4 * i + 1 ∨ j = 4 * i + 2 ∨ j = 4 * i + 3 := ⟨j / 4, by omega⟩
      have hin : i < n := by omega
      obtain ⟨q1, q2, q3, q4⟩ := adCs_get ((List.range n).map fun i => S i) i (by simpa using hin)
      rw [hgd i hin] at q1 q2 q3 q4
      obtain ⟨_, r1, r2, r3, r4⟩ := hS i hin
      rw [add_none] at r1 r2 r3 r4
      rcases hi with hi | hi | hi | hi
      · rw [hi] at hu ⊢; rw [q1] at hu; rw [r1]; exact hu
      · rw [hi] at hu ⊢; rw [q2] at hu; rw [r2]; exact hu
      · rw [hi] at hu ⊢; rw [q3] at hu; rw [r3]; exact hu
      · rw [hi] at hu ⊢; rw [q4] at hu; rw [r4]; exact hu
    · intro f hf
      obtain ⟨i, hi, rfl⟩ := List.mem_map.1 hf
      exact (hS i (List.mem_range.1 hi)).1
/-- A call that came in. -/
structure Ac where
  k : Int
  by_ : Int
  draw : Int
  n_ : Int
  name : ByteArray
  ba : Option Addr
  bn : Nat
  bc : Nat
  bs : List Nat
  a : Option Addr
  n : Nat
  c : Nat
  ads : List Ad
  ttl : Int
def Ac.zero : Ac := ⟨0, 0, 0, 0, ⟨#[]⟩, none, 0, 0, [], none, 0, 0, [], 0⟩
/-- A call's cells. -/
def Ac.cs (x : Ac) : List Value := [.int .i64 x.k, .int .i64 x.by_, .int .i64 x.draw, .int .i64 x.n_, .string x.name, .slice x.ba x.bn x.bc, .slice x.a x.n x.c, .int .i64 x.ttl]
structure Ac.In (w : World) (x : Ac) : Prop where
  sb : Src w x.ba x.bn x.bc x.bs
  lb : x.bn ≤ 140737488351232
  src : SrcA w x.a x.n x.c x.ads
  len : x.n * 4 ≤ 140737488351232
  nm : x.name.size ≤ 140737488351232
  inB : -9223372036854775808 ≤ x.by_ ∧ x.by_ ≤ 9223372036854775807
structure AcAt (w : World) (b o i : Nat) (x : Ac) : Prop where
  cell : ∀ j v, x.cs[j]? = some v → w.cell? ⟨b, o + i * 8 + j, none⟩ = some v
  inn : x.In w
/-- The calls that came in. -/
def IsActs (w : World) (a : Option Addr) (len cap : Nat) (f : Nat → Ac) : Prop := len ≤ cap ∧ cap ≤ 1353245080339 ∧ (0 < len → ∃ b o, a = some ⟨b, o, none⟩ ∧ b < w.heap.size ∧ ∀ i, i < len → AcAt w b o i (f i))
theorem Ac.In.below {w w' : World} {x : Ac} (h : x.In w) (k : Below w.heap.size w w') : x.In w' := ⟨h.sb.below k, h.lb, h.src.below k, h.len, h.nm, h.inB⟩
theorem AcAt.below {w w' : World} {b o i : Nat} {x : Ac} (h : AcAt w b o i x) (k : Below w.heap.size w w') (hb : b < w.heap.size) : AcAt w' b o i x :=
  ⟨fun j v hv => (k.cell (p := ⟨b, o + i * 8 + j, none⟩) hb).trans (h.cell j v hv), h.inn.below k⟩
theorem wf_i64 {n : Int} (h : (Lit.int .i64 n).wf = true) : -9223372036854775808 ≤ n ∧ n ≤ 9223372036854775807 := by
  have := bounds_i64 h
  omega
theorem eight {α : Type} {l : List α} (h : l.length = 8) : ∃ a b c d e f g i, l = [a, b, c, d, e, f, g, i] := by
  match l, h with
  | [a, b, c, d, e, f, g, i], _ => exact ⟨a, b, c, d, e, f, g, i, rfl⟩
theorem act_open {H : Type} {enc : TypeId × Value → H} {W : World} {fuel : Nat} {cs : List Value} {d : DataW H} {ps : List MemPlace}
    (h : DataW.trod enc Tryz.prog W 0 (fun _ => true) true fuel 33 cs = some (d, ps)) (hw : ∀ k ∈ d.weights Tryz.prog 33, k ≤ reachBytes) :
    ∃ x : Ac, cs = x.cs ∧ x.In W := by
  obtain ⟨xs, m, _, hx, hl, hlen, hf⟩ := DataW.trod_struct Tryz.underlying33 h
  obtain ⟨y0, y1, y2, y3, y4, y5, y6, y7, rfl⟩ := eight hlen
  rw [cAct] at hl
  obtain ⟨c0, c1, c2, c3, c4, c5, c6, c7, rfl⟩ := eight hl
  have h0 : DataW.trod enc Tryz.prog W 0 (fun _ => true) true m 3 [c0] = some y0 := by simpa [cInt] using hf 0 _ rfl
  have h1 : DataW.trod enc Tryz.prog W 0 (fun _ => true) true m 3 [c1] = some y1 := by simpa [cInt] using hf 1 _ rfl
  have h2 : DataW.trod enc Tryz.prog W 0 (fun _ => true) true m 3 [c2] = some y2 := by simpa [cInt] using hf 2 _ rfl
  have h3 : DataW.trod enc Tryz.prog W 0 (fun _ => true) true m 3 [c3] = some y3 := by simpa [cInt] using hf 3 _ rfl
  have h4 : DataW.trod enc Tryz.prog W 0 (fun _ => true) true m 9 [c4] = some y4 := by simpa [cStr, cInt] using hf 4 _ rfl
  have h5 : DataW.trod enc Tryz.prog W 0 (fun _ => true) true m 30 [c5] = some y5 := by simpa [cStr, cInt, cByt] using hf 5 _ rfl
  have h6 : DataW.trod enc Tryz.prog W 0 (fun _ => true) true m 31 [c6] = some y6 := by simpa [cStr, cInt, cByt, cAds] using hf 6 _ rfl
  have h7 : DataW.trod enc Tryz.prog W 0 (fun _ => true) true m 3 [c7] = some y7 := by simpa [cStr, cInt, cByt, cAds] using hf 7 _ rfl
  simp only [Prod.mk.injEq] at hx
  obtain ⟨k, rfl, _⟩ := int_of h0
  obtain ⟨b_, rfl, w1⟩ := int_of h1
  obtain ⟨dr, rfl, w2⟩ := int_of h2
  obtain ⟨n_, rfl, _⟩ := int_of h3
  obtain ⟨t, rfl, ht, et⟩ := str_open h4
  obtain ⟨ba, bn, bc, rfl⟩ := slice_bytes h5
  obtain ⟨a, n, c, rfl⟩ := slice_ads h6
  obtain ⟨tl, rfl, _⟩ := int_of h7
  have hwd : ∀ q, q ∈ y4.1.weights Tryz.prog 9 ∨ q ∈ y5.1.weights Tryz.prog 30 ∨ q ∈ y6.1.weights Tryz.prog 31 → q ≤ reachBytes := fun q hq => hw q (by
    rw [hx.1]
    simp only [DataW.weights, Tryz.underlying33, DataW.weightsEach, List.map_cons, List.map_nil, List.mem_append]
    rcases hq with hq | hq | hq
    · exact Or.inr (Or.inr (Or.inr (Or.inr (Or.inl hq))))
    · exact Or.inr (Or.inr (Or.inr (Or.inr (Or.inr (Or.inl hq)))))
    · exact Or.inr (Or.inr (Or.inr (Or.inr (Or.inr (Or.inr (Or.inl hq)))))))
  obtain ⟨l, hsrc, hn⟩ := open_ads (d := y6.1) (ps := y6.2) h6 (fun q hq => hwd q (Or.inr (Or.inr hq)))
  obtain ⟨bs, hsb, hbn⟩ := open_bytes (d := y5.1) (ps := y5.2) h5
  have hb2 := bytes_len (fun q hq => hwd q (Or.inr (Or.inl hq))) hbn
  have ht2 := hwd t.size (Or.inl (by rw [et]; simp only [DataW.weights, Array.length_toList, List.mem_singleton]; rfl))
  unfold reachBytes at ht2
  exact ⟨⟨k, b_, dr, n_, t, ba, bn, bc, bs, a, n, c, l, tl⟩, rfl, hsb, hb2, hsrc, hn, by omega, wf_i64 w1⟩
theorem weights_all {H : Type} {P : Program} {e : TypeId} {d : DataW H} {k : Nat} (hk : k ∈ d.weights P e) : ∀ {l : List (DataW H)}, d ∈ l → k ∈ DataW.weightsAll P e l
  | [], h => by cases h
  | x :: r, h => by
    simp only [DataW.weightsAll, List.mem_append]
    rcases List.mem_cons.1 h with rfl | h
    · exact Or.inl hk
    · exact Or.inr (weights_all hk h)
theorem acts_open {H : Type} {enc : TypeId × Value → H} {W : World} {fuel : Nat} {a1 : Option Addr} {len1 cap1 : Nat} {x : DataW H × List MemPlace} (hf : DataW.trod enc Tryz.prog W 0 (fun _ => true) true fuel 22 [.slice a1 len1 cap1] = some x)
    (hsz : ∀ n ∈ x.1.weights Tryz.prog 22, n ≤ reachBytes) : ∃ f, IsActs W a1 len1 cap1 f := by
  rcases Deep.open_slice Tryz.underlying22 hf with ⟨hcs, _⟩ | ⟨x, l, c, m, nn, D, Pl, hcs, _, hl, hm, hmm, hx, hr⟩
  · simp at hcs
    obtain ⟨rfl, rfl, rfl⟩ := hcs
    exact ⟨fun _ => Ac.zero, Nat.le_refl _, Nat.zero_le _, fun h => by omega⟩
  · simp at hcs
    obtain ⟨rfl, rfl, rfl⟩ := hcs
    simp only [if_true] at hmm
    subst hmm
    subst hx
    have hcap : m ≤ 1353245080339 := by
      have h1 := hsz _ (show _ ∈ (DataW.slice _ _).weights Tryz.prog 22 by simp only [DataW.weights, Tryz.underlying22, List.mem_cons]; exact Or.inl rfl)
      rw [byAct] at h1
      have h2 := reachBytes_lt
      simp at h1
      omega
    have each : ∀ i, i < len1 → ∃ f : Ac, (∀ j v, f.cs[j]? = some v → W.cell? (x.add (i * 8 + j)) = some v) ∧ f.In W := fun i hi => by
      obtain ⟨cs, hc, ht⟩ := hr i (by omega)
      rw [cAct] at hc
      obtain ⟨_, hcl, hce⟩ := World.cells?_some hc
      obtain ⟨f, rfl, hin⟩ := act_open ht (fun q hq => hsz q (by
        simp only [DataW.weights, Tryz.underlying22, List.mem_cons, List.mem_append]
        exact Or.inr (Or.inl (weights_all hq (List.mem_map.2 ⟨i, List.mem_range.2 hi, rfl⟩)))))
      refine ⟨f, fun j v hv => ?_, hin⟩
      have hj := (List.getElem?_eq_some_iff.1 hv).1
      have g := hce j (by rw [hcl] at hj; exact hj)
      rw [Deep.add_add] at g
      rw [g]
      exact hv
    haveI : Inhabited Ac := ⟨Ac.zero⟩
    obtain ⟨F, hF⟩ := Deep.choose_lt each
    refine ⟨F, hl, hcap, fun hpos => ?_⟩
    obtain ⟨b, o, spot⟩ := x
    have hx0 := (hF 0 hpos).1 0 _ rfl
    have hspot : spot = none := by simpa [Addr.add] using World.cell?_spot hx0
    subst hspot
    refine ⟨b, o, rfl, by simpa [Addr.add] using lt_of_cell hx0, fun i hi => ?_⟩
    obtain ⟨r0, hin⟩ := hF i hi
    refine ⟨fun j v hv => ?_, hin⟩
    have := r0 j v hv
    rw [add_none] at this
    rw [Nat.add_assoc]
    exact this
theorem sized_of {H : Type} {P : Program} {ts : List TypeId} {ds : List (DataW H)} (h : (DataW.weightsEach P ts ds).all (· ≤ reachBytes) = true) {j : Nat} {t : TypeId} {d : DataW H} (ht : ts[j]? = some t) (hd : ds[j]? = some d) : ∀ k ∈ d.weights P t, k ≤ reachBytes := fun k hk => by
  have := List.all_eq_true.1 h k (DataW.weights_mem_each ht hd k hk)
  simpa using this
end Go.Proofs.YtabkelhipmijfaaGreatDoor

set_option linter.unusedSimpArgs false
set_option linter.unusedVariables false
namespace Go.Proofs.YtabkelhipmijfaaGreatDoor
open Go.RowKit

theorem wrap_small (n : Int) (m : Nat) (hm : 0 < m) (hm1 : m ≤ 4611686018427387904) : ∃ k : Nat, k < m ∧ wrap64 ((IntKind.u64.wrap n).tmod m) = (k : Int) := by
  have hu : 0 ≤ IntKind.u64.wrap n := by
    have : IntKind.u64.wrap n = n % 18446744073709551616 := by simp [IntKind.wrap, IntKind.signed, IntKind.bits]
    rw [this]
    exact Int.emod_nonneg _ (by omega)
  generalize IntKind.u64.wrap n = u at hu
  rw [Int.tmod_eq_emod_of_nonneg hu]
  have h1 := Int.emod_nonneg u (show (m : Int) ≠ 0 by omega)
  have h2 := Int.emod_lt_of_pos u (show (0 : Int) < m by omega)
  refine ⟨(u % m).toNat, by omega, ?_⟩
  generalize u % (m : Int) = x at h1 h2
  rw [Int.toNat_of_nonneg h1]
  unfold wrap64
  omega
set_option maxHeartbeats 400000 in
theorem among (n : Int) (m : Nat) (hm : 0 < m) (hm1 : m ≤ 4611686018427387904) (w : World) : Calls Tryz.prog 9 #[.int .i64 n, .int .i64 m] w fun e w' => ∃ k : Nat, k < m ∧ e = .returned (.int .i64 k) ∧ w = w' := by
  go_enter Tryz.func9, Tryz.ntmps9
  go_wp2
  go_ret
  obtain ⟨k, hk, e⟩ := wrap_small n m hm hm1
  exact ⟨k, hk, by rw [← e]; rfl, rfl⟩
/-- The same, wherever it is called. -/
theorem among_k (n : Int) (m : Nat) (hm : 0 < m) (hm1 : m ≤ 4611686018427387904) : ∃ k : Nat, k < m ∧ ∀ w : World, Calls Tryz.prog 9 #[.int .i64 n, .int .i64 m] w fun e w' => e = .returned (.int .i64 k) ∧ w = w' := by
  obtain ⟨k, hk, e0⟩ := wrap_small n m hm hm1
  refine ⟨k, hk, fun w => ?_⟩
  go_enter Tryz.func9, Tryz.ntmps9
  go_wp2
  go_ret
  exact ⟨by rw [← e0]; rfl, rfl⟩
/-- No two questions are for one name. -/
def NmU (L : List Qn) : Prop := (L.map Qn.nm).Nodup
theorem NmU.ne {L : List Qn} (h : NmU L) {j k : Nat} (hk : k < j) (hj : j < L.length) : (qAt L j).nm ≠ (qAt L k).nm := by
  have h1 := List.pairwise_iff_getElem.1 (show (L.map Qn.nm).Pairwise (· ≠ ·) from h) k j (by simp; omega) (by simpa using hj) hk
  simp only [List.getElem_map] at h1
  have e1 : qAt L j = L[j] := by simp [qAt, hj]
  have e2 : qAt L k = L[k] := by simp [qAt, show k < L.length by omega]
  rw [e1, e2]
  exact fun e => h1 e.symm
theorem map_set_same {L : List Qn} {i : Nat} (hi : i < L.length) (x : Qn) (hx : x.nm = (qAt L i).nm) : (L.set i x).map Qn.nm = L.map Qn.nm := by
  rw [List.map_set, hx]
  apply List.ext_getElem?
  intro n
  rw [List.getElem?_set]
  split
  · rename_i e
    subst e
    simp [hi, qAt]
  · rfl
theorem NmU.snd {R : Rs} (h : NmU R.qs) {i : Nat} (hi : i < R.qs.length) (now draw : Int) : NmU (Go.Proofs.YtabkelhipmijfaaGreatDoor.snd R i now draw).qs := by
  unfold NmU
  show ((R.qs.set i _).map Qn.nm).Nodup
  rw [map_set_same hi ⟨draw % 65536, (qAt R.qs i).nm, (qAt R.qs i).sent + 1, now + 4⟩ rfl]
  exact h
theorem NmU.stl {R : Rs} (h : NmU R.qs) (i : Nat) (now : Int) (ads : List Ad) (life : Int) : NmU (Go.Proofs.YtabkelhipmijfaaGreatDoor.stl R i now ads life).qs :=
  List.Nodup.sublist ((List.eraseIdx_sublist R.qs i).map Qn.nm) h
theorem fnd_not {p : Qn → Bool} : ∀ {L : List Qn}, ¬ fnd p L < L.length → ∀ q ∈ L, p q = false
  | [], _, q, hq => by cases hq
  | x :: L, h, q, hq => by
    unfold fnd at h
    split at h
    · simp at h
    · rename_i hx
      rcases List.mem_cons.1 hq with e | hq
      · subst e; simpa using hx
      · exact fnd_not (p := p) (L := L) (by simp at h; omega) q hq
theorem NmU.add {R : Rs} (h : NmU R.qs) {t : ByteArray} (hf : ¬ fnd (hasN t) R.qs < R.qs.length) : NmU (addQ R t).qs := by
  unfold NmU
  show ((R.qs ++ [_]).map Qn.nm).Nodup
  rw [List.map_append, List.nodup_append]
  refine ⟨h, by simp, fun a ha b hb => ?_⟩
  simp at hb
  subst hb
  obtain ⟨q, hq, rfl⟩ := List.mem_map.1 ha
  have := fnd_not hf q hq
  simpa [hasN] using this
/-- What a resolver's calls leave as it may be. -/
structure Rs.Fit (R : Rs) (slots most k : Nat) : Prop where
  most : R.most = most
  tab : R.tab.length = slots
  nm : NmU R.qs
  ps : R.ps.length ≤ k
theorem Rs.Fit.new (slots most : Nat) : (newR slots most).Fit slots most 0 := ⟨rfl, by simp [newR], by simp [newR, NmU], by simp [newR]⟩
variable {R : Rs} {slots most k : Nat}
theorem Rs.Fit.grow (h : R.Fit slots most k) : R.Fit slots most (k + 1) := ⟨h.most, h.tab, h.nm, by have := h.ps; omega⟩
theorem Rs.Fit.snd (h : R.Fit slots most k) {i : Nat} (hi : i < R.qs.length) (now draw : Int) : (Go.Proofs.YtabkelhipmijfaaGreatDoor.snd R i now draw).Fit slots most (k + 1) :=
  ⟨h.most, h.tab, h.nm.snd hi now draw, by show (R.ps ++ _).length ≤ _; have := h.ps; simp; omega⟩
theorem Rs.Fit.stl (h : R.Fit slots most k) (i : Nat) (now : Int) (ads : List Ad) (life : Int) : (Go.Proofs.YtabkelhipmijfaaGreatDoor.stl R i now ads life).Fit slots most k :=
  ⟨h.most, by show (Nm.put _ _ _ _ _).length = _; rw [Nm.put_length]; exact h.tab, h.nm.stl _ _ _ _, h.ps⟩
theorem Rs.Fit.ask (h : R.Fit slots most k) (now draw : Int) (t : ByteArray) : (askR R now draw t).Fit slots most (k + 1) := by
  unfold askR
  split
  · exact h.grow
  · split
    · exact h.grow
    · split
      · exact h.grow
      · split
        · exact h.grow
        · rename_i hf _
          have h2 : (addQ R t).Fit slots most k := ⟨h.most, h.tab, h.nm.add hf, h.ps⟩
          exact h2.snd (by simp [addQ]) now draw
theorem Rs.Fit.step (h : R.Fit slots most k) (now draw : Int) : (stepR R now draw).Fit slots most (k + 1) := by
  unfold stepR
  split
  · exact h.grow
  · rename_i hs
    simp only [stepT, decide_eq_false_iff_not, Classical.not_not] at hs
    split
    · exact h.snd hs.2 now draw
    · exact (h.stl _ _ _ _).grow
theorem Rs.Fit.take (h : R.Fit slots most k) (now : Int) (b : List Nat) : (takR R now b).Fit slots most k := by
  unfold takR
  split
  · exact h
  · split
    · exact h.stl _ _ _ _
    · exact h.stl _ _ _ _
theorem Rs.Fit.psmono (h : R.Fit slots most k) {j : Nat} (hj : k ≤ j) : R.Fit slots most j := ⟨h.most, h.tab, h.nm, Nat.le_trans h.ps hj⟩
/-- Refused: as many are outstanding as may be. -/
theorem ask3 {now : Int} {t : ByteArray} (h : askK R now t = 3) : R.qs.length = R.most := by
  unfold askK at h
  split at h
  · cases h
  · split at h
    · cases h
    · split at h
      · cases h
      · split at h
        · rename_i e; exact e
        · cases h
theorem ask3R {now draw : Int} {t : ByteArray} (h : askK R now t = 3) : askR R now draw t = R := by
  unfold askK at h
  unfold askR
  split at h
  · cases h
  · rename_i hb
    rw [if_neg hb]
    split at h
    · cases h
    · split at h
      · cases h
      · rename_i hf
        rw [if_neg hf]
        split at h
        · rename_i e; rw [if_pos e]
        · cases h
theorem askK_le (R : Rs) (now : Int) (t : ByteArray) : askK R now t = 0 ∨ askK R now t = 1 ∨ askK R now t = 2 ∨ askK R now t = 3 := by
  unfold askK
  split
  · simp
  · split
    · simp
    · split
      · simp
      · split <;> simp
theorem askE_or (now : Int) (t : ByteArray) : askE now t = 0 ∨ askE now t = 2 := by
  unfold askE
  split <;> simp

end Go.Proofs.YtabkelhipmijfaaGreatDoor
