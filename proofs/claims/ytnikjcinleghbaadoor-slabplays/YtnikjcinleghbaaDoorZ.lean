/-
  The reference slab's Get, Write and Read; conditions as each theorem has them.
-/
import Derived.Test.YtnikjcinleghbaaDoorY
set_option linter.unusedSimpArgs false
set_option linter.unusedVariables false
namespace Go.Proofs.YtnikjcinleghbaaDoor
open Go.RowKit

/-- What Get makes of the reference slab's memory. -/
theorem IsRef.got {w w' : World} {y bl sz : Nat} {hs : List Bool} {zs : List Int} {M : Nat → Prop} {vb vh : Value} {bs : List Value} {hd : Nat → Nat} {yb yh : Nat} (h : IsRef w y bl sz hs zs M vb vh bs hd yb yh) {k : Nat} (hk : k < bl) (hf : hs.getD k true = false) (hz : ∀ i, i < sz → zs.getD (k * sz + i) 0 = 0)
    {n : Nat} (hn : n = w.heap.size) (hN : w'.heap[n]? = some (.cells (vals (zeros sz)).toArray 5)) (hB : w'.heap[yb]? = (w.setCell ⟨yb, k, none⟩ (.slice (some ⟨n, 0, none⟩) sz sz)).heap[yb]?) (hH : w'.heap[yh]? = (w.setCell ⟨yh, k, none⟩ (.bool true)).heap[yh]?)
    (hO : ∀ j, j < w.heap.size → j ≠ yb → j ≠ yh → w'.heap[j]? = w.heap[j]?) (hs' : w.heap.size < w'.heap.size) :
    RefM w' y bl sz (hs.set k true) zs (fun j => M j ∨ j = n) := by
  have hp : 0 < bl := by omega
  have hM := h.mb' hp
  have hyb := h.mlt yb hM.1
  have hyh := h.mlt yh hM.2
  have hlk : k < hs.length := by rw [h.len]; exact hk
  have hbk : k < bs.length := by rw [h.blen]; exact hk
  refine ⟨vb, vh, bs.set k (.slice (some ⟨n, 0, none⟩) sz sz), fun j => if j = k then n else hd j, yb, yh, { h with head := ?_, len := by simp [h.len], blen := by simp [h.blen], rowB := ?_, rowH := ?_, spot := fun j hj hh => ?_, inj := fun a c ha hc h1 h2 he => ?_, my := Or.inl h.my, mb' := fun _ => ⟨Or.inl hM.1, Or.inl hM.2⟩, mlt := fun j hj => ?_ }⟩
  · rw [hO y (h.mlt y h.my) h.ne1 h.ne2]; exact h.head
  · rcases h.rowB with h0 | ⟨_, c1, c2, o⟩
    · omega
    · have := (o.set k (.slice (some ⟨n, 0, none⟩) sz sz) hbk).keep (w' := w') hB
      exact Or.inr ⟨hp, c1, _, this⟩
  · rcases h.rowH with h0 | ⟨_, c1, c2, o⟩
    · omega
    · have := (o.set k (.bool true) (by simpa using hlk)).keep (w' := w') hH
      exact Or.inr ⟨hp, c1, _, by rw [List.map_set]; exact this⟩
  · by_cases hjk : j = k
    · subst hjk
      simp only [if_true]
      refine ⟨by simp [List.getElem?_set, hbk], ?_, by have := h.mlt y h.my; omega, by omega, by omega, Or.inr trivial⟩
      rw [hN]
      have : row zs sz j = zeros sz := by
        apply list_ext0
        · rw [row_length h.zlen hk, zeros_length]
        · intro i hi
          rw [row_length h.zlen hk] at hi
          rw [row_getD hi, hz i hi, zeros_getD]
      rw [this]
    · rw [getDb_set _ _ _ _ hlk, if_neg (Ne.symm hjk)] at hh
      obtain ⟨s1, s2, s3, s4, s5, s6⟩ := h.spot j hj hh
      simp only [if_neg hjk]
      refine ⟨by rw [List.getElem?_set, if_neg (Ne.symm hjk)]; exact s1, ?_, s3, s4, s5, Or.inl s6⟩
      rw [hO _ (h.mlt _ s6) s4 s5]
      exact s2
  · have key : ∀ a, a < bl → (hs.set k true).getD a true = true → a ≠ k → hd a < n ∧ hs.getD a true = true := fun a ha h1 hne => by
      rw [getDb_set _ _ _ _ hlk, if_neg (Ne.symm hne)] at h1
      obtain ⟨_, _, _, _, _, s6⟩ := h.spot a ha h1
      exact ⟨by rw [hn]; exact h.mlt _ s6, h1⟩
    by_cases hak : a = k
    · by_cases hck : c = k
      · omega
      · have := key c hc h2 hck
        simp [hak, hck] at he
        omega
    · by_cases hck : c = k
      · have := key a ha h1 hak
        simp [hak, hck] at he
        omega
      · simp [hak, hck] at he
        exact h.inj a c ha hc (key a ha h1 hak).2 (key c hc h2 hck).2 he
  · rcases hj with hj | rfl
    · have := h.mlt j hj; omega
    · omega

set_option maxHeartbeats 1000000 in
theorem refget_ok (y bl sz : Nat) (hs : List Bool) (zs : List Int) (M : Nat → Prop) (k : Nat) (w : World) (h : RefM w y bl sz hs zs M) (hk : lst hs = k) (hlt : k < bl) (hz : ∀ i, i < sz → zs.getD (k * sz + i) 0 = 0) :
    Calls Tryd.prog 12 #[.pointer (some ⟨y, 0, none⟩)] w fun e w' => e = .returned (.tuple #[.int .i64 k, .int .i64 0]) ∧ (∃ M', RefM w' y bl sz (hs.set k true) zs M' ∧ ∀ j, M' j → M j ∨ w.heap.size ≤ j) ∧ KeptM M w w' := by
  obtain ⟨vb, vh, bs, hd, yb, yh, h⟩ := h
  obtain ⟨c0, c1, c2⟩ := yhd_cells h.head
  obtain ⟨ah, cap, e1, hcap, hc⟩ := h.heldForm
  obtain ⟨capb, curb, x, e2, hcapb, ob, hx, hxf⟩ := h.blocksForm k hlt
  obtain ⟨e3, dk, dkf⟩ := hc k hlt
  subst e3
  have hmb := h.mb
  have hms := h.ms
  have hfr : hs.getD k true = false := by rw [← hk]; exact lst_free hs (by rw [h.len, hk]; exact hlt)
  have hheld : ∀ j, j < k → hs.getD j true = true := fun j hj => lst_held hs j (by omega)
  rw [hfr] at dk
  subst e1
  subst e2
  have hM := h.mb' (by omega)
  have hyl := h.mlt y h.my
  have hybl := h.mlt yb hM.1
  have hyhl := h.mlt yh hM.2
  have n1 := h.ne1
  have n2 := h.ne2
  have n3 := h.ne3
  have hmk := run_make0 sz (by omega)
  obtain ⟨W1, hW1⟩ : ∃ W1, W1 = w.setCell ⟨yh, k, none⟩ (.bool true) := ⟨_, rfl⟩
  have hW1z : W1.heap.size = w.heap.size := by rw [hW1]; simp [World.setCell]
  have hW1b : ∀ j, j ≠ yh → W1.heap[j]? = w.heap[j]? := fun j hj => by rw [hW1]; exact Below.heap_setCell _ _ _ _ (by simpa using hj)
  obtain ⟨d0, d1, d2⟩ := yhd_cells ((hW1b y n2).trans h.head)
  have dx : W1.cell? ⟨yb, k, none⟩ = some x := (World.cell?_of_block (w := w) (hW1b yb n3)).trans hx
  have dxf : W1.frozen? ⟨yb, k, none⟩ = false := by
    have := (ob.keep (w' := W1) (hW1b yb n3)).frozen k
    exact this
  have HC := hide hc
  have HH := hide hheld
  have H := hide h
  have HW1 := hide hW1
  have HW1b := hide hW1b
  have HZ := hide hz
  have HFR := hide hfr
  clear hc hheld h hW1 hW1b hz hfr hk ob c0 c1 hx hxf d2
  go_enter Tryd.func12, Tryd.ntmps12
  go_wp2_with fail
  go_loopw [4] (fun i wr => ∃ j : Nat, j ≤ k ∧ i = .int .i64 j ∧ Hid (wr = w)) (fun i _ => bl - (intOf i).toNat)
  case atStart => exact ⟨0, Nat.zero_le _, rfl, rfl⟩
  case round =>
    obtain ⟨j, hj, rfl, HW⟩ := hrel
    have hw := HW.out
    subst hw
    by_cases h1 : j < k
    · obtain ⟨_, dj, _⟩ := HC.out j (by omega)
      rw [HH.out j h1] at dj
      have hjb : j < bl := by omega
      go_wp2_with fail
      go_roundw
      case rel => exact ⟨j + 1, by omega, by go_num, trivial⟩
      case measure => simp [intOf]; omega
    · obtain rfl : j = k := by omega
      go_wp2_with fail
      rw [← HW1.out]
      clear dk dkf
      go_region
      all_goals
        go_wp2_with fail
        go_ret2
        obtain ⟨W2, hW2⟩ : ∃ W2, W2 = W1.setCell ⟨yb, j, none⟩ (.slice (some ⟨wr.heap.size, 0, none⟩) sz sz) := ⟨_, rfl⟩
        rw [← hW2]
        have hz2 : W2.heap.size = wr.heap.size := by rw [hW2]; simp [World.setCell, hW1z]
        have hb2 : ∀ i, i ≠ yb → W2.heap[i]? = W1.heap[i]? := fun i hi => by rw [hW2]; exact Below.heap_setCell _ _ _ _ (by simpa using hi)
        have hO : ∀ i, i < wr.heap.size → i ≠ yb → i ≠ yh → (W2.alloc (.cells (vals (zeros sz)).toArray 5)).heap[i]? = wr.heap[i]? := fun i hi h1 h2 => by
          rw [Below.heap_alloc _ _ _ (by omega), hb2 i h1, HW1b.out i h2]
        have hN : (W2.alloc (.cells (vals (zeros sz)).toArray 5)).heap[wr.heap.size]? = some (.cells (vals (zeros sz)).toArray 5) := by rw [← hz2]; exact alloc_new _ _
        have hBB : (W2.alloc (.cells (vals (zeros sz)).toArray 5)).heap[yb]? = (wr.setCell ⟨yb, j, none⟩ (.slice (some ⟨wr.heap.size, 0, none⟩) sz sz)).heap[yb]? := by
          rw [Below.heap_alloc _ _ _ (by omega), hW2]
          rcases H.out.rowB with h0 | ⟨_, c1, c2, o⟩
          · omega
          · rw [heap_setCell_same o.row, heap_setCell_same ((HW1b.out yb n3).trans o.row)]
        have hHH : (W2.alloc (.cells (vals (zeros sz)).toArray 5)).heap[yh]? = (wr.setCell ⟨yh, j, none⟩ (.bool true)).heap[yh]? := by
          rw [Below.heap_alloc _ _ _ (by omega), hb2 yh (Ne.symm n3), HW1.out]
        refine ⟨rfl, ⟨_, H.out.got hlt HFR.out HZ.out rfl hN hBB hHH hO (by show _ < (W2.alloc _).heap.size; simp; omega), fun i hi => ?_⟩, ?_⟩
        · rcases hi with h | h
          · exact Or.inl h
          · right; omega
        · refine ⟨?_, ?_, ?_, by show _ ≤ (W2.alloc _).heap.size; simp; omega, fun i hi hm => hO i hi (fun e => hm (e ▸ hM.1)) (fun e => hm (e ▸ hM.2))⟩
          · show W2.os = _; rw [hW2, HW1.out]; rfl
          · show W2.tape = _; rw [hW2, HW1.out]; rfl
          · show W2.output = _; rw [hW2, HW1.out]; rfl

set_option maxHeartbeats 1000000 in
theorem refget_full (y bl sz : Nat) (hs : List Bool) (zs : List Int) (M : Nat → Prop) (w : World) (h : RefM w y bl sz hs zs M) (hk : lst hs = bl) :
    Calls Tryd.prog 12 #[.pointer (some ⟨y, 0, none⟩)] w fun e w' => e = .returned (.tuple #[.int .i64 0, .int .i64 4]) ∧ w = w' := by
  obtain ⟨vb, vh, bs, hd, yb, yh, h⟩ := h
  obtain ⟨c0, c1, c2⟩ := yhd_cells h.head
  obtain ⟨ah, cap, e1, hcap, hc⟩ := h.heldForm
  subst e1
  have hmb := h.mb
  have hheld : ∀ j, j < bl → hs.getD j true = true := fun j hj => lst_held hs j (by omega)
  have HC := hide hc
  have HH := hide hheld
  clear hc hheld h hk c0 c1
  go_enter Tryd.func12, Tryd.ntmps12
  go_wp2_with fail
  go_loopw [4] (fun i wr => ∃ j : Nat, j ≤ bl ∧ i = .int .i64 j ∧ Hid (wr = w)) (fun i _ => bl - (intOf i).toNat)
  case atStart => exact ⟨0, Nat.zero_le _, rfl, rfl⟩
  case round =>
    obtain ⟨j, hj, rfl, HW⟩ := hrel
    have hw := HW.out
    subst hw
    by_cases h1 : j < bl
    · obtain ⟨e3, dj, _⟩ := HC.out j (by omega)
      subst e3
      rw [HH.out j h1] at dj
      go_wp2_with fail
      go_roundw
      case rel => exact ⟨j + 1, by omega, by go_num, trivial⟩
      case measure => simp [intOf]; omega
    · obtain rfl : j = bl := by omega
      go_wp2_with fail
      go_ret2
      exact ⟨rfl, rfl⟩

set_option maxHeartbeats 1000000 in
theorem refwrite_none (y bl sz : Nat) (hs : List Bool) (zs : List Int) (M : Nat → Prop) (b a : Int) (v : Value) (w : World) (h : RefM w y bl sz hs zs M) (hh : heldAt hs b = false) :
    Calls Tryd.prog 17 #[.pointer (some ⟨y, 0, none⟩), .int .i64 b, .int .i64 a, v] w fun e w' => e = .returned (.int .i64 5) ∧ w = w' := by
  have HTh := hide (there_at y bl sz hs zs M b w h)
  rw [hh] at HTh
  clear h hh
  go_enter Tryd.func17, Tryd.ntmps17
  go_wp2_with fail
  refine HTh.out.mono ?_
  rintro e w1 ⟨rfl, rfl⟩
  go_wp2_with fail
  go_ret
  exact ⟨rfl, rfl⟩

set_option maxHeartbeats 1000000 in
theorem refwrite_arg (y bl sz : Nat) (hs : List Bool) (zs : List Int) (M : Nat → Prop) (b a : Int) (ad : Option Addr) (len cap : Nat) (w : World) (h : RefM w y bl sz hs zs M) (hh : heldAt hs b = true) (hlen : len ≤ maxLen) (hi : inAt sz a len = false) :
    Calls Tryd.prog 17 #[.pointer (some ⟨y, 0, none⟩), .int .i64 b, .int .i64 a, .slice ad len cap] w fun e w' => e = .returned (.int .i64 2) ∧ w = w' := by
  have HTh := hide (there_at y bl sz hs zs M b w h)
  rw [hh] at HTh
  obtain ⟨vb, vh, bs, hd, yb, yh, h⟩ := h
  obtain ⟨c0, c1, c2⟩ := yhd_cells h.head
  have hms := h.ms
  have hln : len ≤ 9223372036854775807 := by unfold maxLen at hlen; omega
  unfold inAt at hi
  simp at hi
  have HI := hide hi
  clear h hh hi c1 c2 hlen
  by_cases h1 : 0 ≤ a
  · by_cases h2 : a ≤ sz
    · have h3 : (sz : Int) < a + len := HI.out h1
      go_enter Tryd.func17, Tryd.ntmps17
      go_wp2_with fail
      refine HTh.out.mono ?_
      rintro e w1 ⟨rfl, rfl⟩
      go_wp2_with fail
      go_ret
      exact ⟨rfl, rfl⟩
    · go_enter Tryd.func17, Tryd.ntmps17
      go_wp2_with fail
      refine HTh.out.mono ?_
      rintro e w1 ⟨rfl, rfl⟩
      go_wp2_with fail
      go_ret
      exact ⟨rfl, rfl⟩
  · go_enter Tryd.func17, Tryd.ntmps17
    go_wp2_with fail
    refine HTh.out.mono ?_
    rintro e w1 ⟨rfl, rfl⟩
    go_wp2_with fail
    go_ret
    exact ⟨rfl, rfl⟩

end Go.Proofs.YtnikjcinleghbaaDoor
