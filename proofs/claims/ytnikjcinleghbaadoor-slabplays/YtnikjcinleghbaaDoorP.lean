/-
  The slab and the reference slab side by side: what holds at each round's head of SlabPlays, and how it is kept; conditions as each theorem has them.
-/
import Derived.Test.YtnikjcinleghbaaDoorZ2
set_option linter.unusedSimpArgs false
set_option linter.unusedVariables false
namespace Go.Proofs.YtnikjcinleghbaaDoor
open Go.RowKit

theorem RefM.lt {w : World} {y bl sz : Nat} {hs : List Bool} {zs : List Int} {M : Nat → Prop} (h : RefM w y bl sz hs zs M) : ∀ k, M k → k < w.heap.size := by
  obtain ⟨vb, vh, bs, hd, yb, yh, h⟩ := h
  exact h.mlt

/-- What holds at each round's head. -/
structure Both (w wr : World) (y bl sz r g : Nat) (hs : List Bool) (zs : List Int) (M : Nat → Prop) : Prop where
  slab : IsSlab wr r g bl sz hs zs
  ref : RefM wr y bl sz hs zs M
  below : Below w.heap.size w wr
  pos : 0 < w.heap.size
  r0 : w.heap.size ≤ r
  g0 : w.heap.size ≤ g
  m0 : ∀ k, M k → w.heap.size ≤ k
  mr : ¬ M r
  mg : ¬ M g

section
variable {w wr wx : World} {y bl sz r g : Nat} {hs hs' : List Bool} {zs zs' : List Int} {M M' : Nat → Prop}

theorem Both.below_step (b : Both w wr y bl sz r g hs zs M) (h : Below wr.heap.size wr wx) : Both w wx y bl sz r g hs zs M :=
  { b with slab := b.slab.below h b.slab.lt.1 b.slab.lt.2.1, ref := b.ref.keep (fun k hk => h.block k (b.ref.lt k hk)) h.size, below := b.below.trans (h.mono b.below.size) }
theorem Both.drewN (b : Both w wr y bl sz r g hs zs M) (n : Nat) : Both w (wr.drewN n) y bl sz r g hs zs M := b.below_step (below_drewN (Below.refl _ _) n)
theorem Both.alloc (b : Both w wr y bl sz r g hs zs M) (o : Obj) : Both w (wr.alloc o) y bl sz r g hs zs M := b.below_step ((Below.refl _ _).alloc (Nat.le_refl _) o)
theorem Both.own_step (b : Both w wr y bl sz r g hs zs M) {h : Nat} (hk : Kept h h wr wx) (h1 : h ≠ r) (h2 : h ≠ g) (h3 : ¬ M h) (h4 : w.heap.size ≤ h) : Both w wx y bl sz r g hs zs M := by
  have hp := b.pos
  have hl := b.slab.lt
  exact { b with slab := b.slab.keep (hk.block 0 hl.2.2 (by omega) (by omega)) (hk.block r hl.1 (Ne.symm h1) (Ne.symm h1)) (hk.block g hl.2.1 (Ne.symm h2) (Ne.symm h2)), ref := b.ref.keep (fun k hm => hk.block k (b.ref.lt k hm) (fun e => h3 (e ▸ hm)) (fun e => h3 (e ▸ hm))) hk.size, below := b.below.trans (hk.below h4 h4 b.below.size) }
/-- The slab has turned, the reference has not yet. -/
theorem Both.slab_step (b : Both w wr y bl sz r g hs zs M) (hk : Kept r g wr wx) : RefM wx y bl sz hs zs M ∧ Below w.heap.size w wx :=
  ⟨b.ref.keep (fun k hm => hk.block k (b.ref.lt k hm) (fun e => b.mr (e ▸ hm)) (fun e => b.mg (e ▸ hm))) hk.size, b.below.trans (hk.below b.r0 b.g0 b.below.size)⟩
/-- The reference turns as the slab did. -/
theorem Both.ref_step (b : Both w wr y bl sz r g hs zs M) (hs1 : IsSlab wr r g bl sz hs' zs') {wy : World} (hk : KeptM M wr wy) (hr : RefM wy y bl sz hs' zs' M') (hm : ∀ j, M' j → M j ∨ wr.heap.size ≤ j) : Both w wy y bl sz r g hs' zs' M' := by
  have hp := b.pos
  have hl := hs1.lt
  have hz := b.below.size
  refine ⟨hs1.keep (hk.block 0 hl.2.2 (fun e => by have := b.m0 0 e; omega)) (hk.block r hl.1 b.mr) (hk.block g hl.2.1 b.mg), hr, b.below.trans (hk.below b.m0 hz), hp, b.r0, b.g0, fun k hk' => ?_, fun h => ?_, fun h => ?_⟩
  · rcases hm k hk' with h | h
    · exact b.m0 k h
    · omega
  · rcases hm r h with h | h
    · exact b.mr h
    · omega
  · rcases hm g h with h | h
    · exact b.mg h
    · omega
end

/-- The slab's step, then the reference's, where the reference's rows must be told anew. -/
theorem both_after {w w1 w2 : World} {y bl sz r g : Nat} {hs hs' : List Bool} {zs zs' zs1 : List Int} {M : Nat → Prop} {w0 : World} (b : Both w w0 y bl sz r g hs zs M) (hk : Kept r g w0 w1) (hs1 : IsSlab w1 r g bl sz hs' zs') {M' : Nat → Prop} (hk2 : KeptM M w1 w2) (hr : RefM w2 y bl sz hs' zs' M') (hm : ∀ j, M' j → M j ∨ w1.heap.size ≤ j) : Both w w2 y bl sz r g hs' zs' M' := by
  have hp := b.pos
  have hl := hs1.lt
  have h1 := b.slab_step hk
  have hz := h1.2.size
  refine ⟨hs1.keep (hk2.block 0 hl.2.2 (fun e => by have := b.m0 0 e; omega)) (hk2.block r hl.1 b.mr) (hk2.block g hl.2.1 b.mg), hr, h1.2.trans (hk2.below b.m0 hz), hp, b.r0, b.g0, fun k hk' => ?_, fun h => ?_, fun h => ?_⟩
  · rcases hm k hk' with h | h
    · exact b.m0 k h
    · omega
  · rcases hm r h with h | h
    · exact b.mr h
    · omega
  · rcases hm g h with h | h
    · exact b.mg h
    · omega

set_option maxHeartbeats 1000000 in
theorem bytes_copy (w : World) (a : Option Addr) (len cap : Nat) (bs : List Int) (hs : Src w a len cap bs) (hlen : len ≤ 140737488355328) :
    Calls Tryd.prog 15 #[.slice a len cap] w fun e w' => ∃ h v, e = .returned v ∧ OwnAt w' h v bs ∧ w.heap.size ≤ h ∧ Below w.heap.size w w' := by
  have hs1 : Src (w.alloc (.cells #[] 5)) a len cap bs := hs.keep fun b o e h0 => Below.heap_alloc _ _ _ (by
    obtain ⟨b', o', e', hc⟩ := hs.lies h0
    rw [e] at e'
    simp at e'
    have := lt_of_cell (hc 0 h0)
    simp at this
    omega)
  obtain ⟨v', w', h', hr, ho, hw, hk⟩ := run_app_at 30 (own_at_new w) hs1 (by simpa using hlen)
  have HR := hide hr
  have HO := hide ho
  have HB : Hid (Below w.heap.size w w') := ((Below.refl w.heap.size w).alloc (Nat.le_refl _) _).trans (hk.below (Nat.le_refl _) (Nat.le_refl _) (by simp))
  have hh : w.heap.size ≤ h' := by simp at hw; omega
  clear hr ho hk hw hs1 hs
  go_enter Tryd.func15, Tryd.ntmps15
  go_wp2_with (at_builtin; refine wpList_app_run _ rfl _ _ _ _ rfl _ _ rfl rfl HR.out ?_)
  go_ret
  exact ⟨h', v', rfl, HO.out, hh, HB.out⟩

/-- Held's numbers behind j rounds of the loop that tells them. -/
structure Told (wx : World) (hh : Nat) (cap : Nat) (l : List Nat) (j : Nat) : Prop where
  row : ∃ cur, wx.heap[hh]? = some (.cells cur 3 (0, 0)) ∧ cur.size = cap ∧ l.length ≤ cap ∧ (∀ i, j ≤ i → i < l.length → cur[i]? = some (.int .i64 (l.getD i 0 : Nat))) ∧ (∀ i, i < j → i < l.length → cur[i]? = some (.int .i64 (-7)))

theorem Told.start {w : World} {hh cap : Nat} {cur : Array Value} {v : Value} {l : List Nat} (o : OwnR 3 w hh v cap cur (nums l)) : Told w hh cap l 0 := by
  have hf := o.fit
  simp [nums] at hf
  refine ⟨⟨cur, o.row, o.size, hf, fun i _ hi => ?_, fun i hi => by omega⟩⟩
  have e1 : cur[i]? = (nums l)[i]? := by
    have hl : i < (nums l).length := by simpa [nums] using hi
    conv => rhs; rw [← o.take]
    rw [List.getElem?_take, if_pos hl]
    simp
  rw [e1]
  simp [nums, List.getD, hi]

theorem Told.cell {w : World} {hh cap : Nat} {l : List Nat} {j : Nat} (t : Told w hh cap l j) (hj : j < l.length) : w.cell? ⟨hh, j, none⟩ = some (.int .i64 (l.getD j 0 : Nat)) ∧ w.frozen? ⟨hh, j, none⟩ = false := by
  obtain ⟨cur, h1, h2, h3, h4, h5⟩ := t.row
  exact ⟨by simp only [World.cell?, h1]; exact h4 j (Nat.le_refl _) hj, by simp [World.frozen?, h1]⟩
theorem Told.cell_past {w : World} {hh cap : Nat} {l : List Nat} {j i : Nat} (t : Told w hh cap l j) (hi : i < j) (hj : j ≤ l.length) : w.cell? ⟨hh, i, none⟩ = some (.int .i64 (-7)) := by
  obtain ⟨cur, h1, h2, h3, h4, h5⟩ := t.row
  simp only [World.cell?, h1]
  exact h5 i hi (by omega)
theorem Told.next {w : World} {hh cap : Nat} {l : List Nat} {j : Nat} (t : Told w hh cap l j) (hj : j < l.length) : Told (w.setCell ⟨hh, j, none⟩ (.int .i64 (-7))) hh cap l (j + 1) := by
  obtain ⟨cur, h1, h2, h3, h4, h5⟩ := t.row
  refine ⟨⟨_, heap_setCell_same h1 _ _, by rw [Array.size_setIfInBounds]; exact h2, h3, fun i hi hil => ?_, fun i hi hil => ?_⟩⟩
  · rw [Array.getElem?_setIfInBounds, if_neg (by omega)]
    exact h4 i (by omega) hil
  · rw [Array.getElem?_setIfInBounds]
    by_cases e : j = i
    · rw [if_pos e, if_pos (by omega)]
    · rw [if_neg e]
      exact h5 i (by omega) hil

end Go.Proofs.YtnikjcinleghbaaDoor
