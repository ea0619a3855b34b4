/-
  The functions of package slab at a slab that New made; conditions as each theorem has them.
-/
import Derived.Test.YtnikjcinleghbaaDoorB
set_option linter.unusedSimpArgs false
set_option linter.unusedVariables false
namespace Go.Proofs.YtnikjcinleghbaaDoor
open Go.RowKit

/-- A slab: bl blocks of sz bytes, hs tells which are held, zs the bytes of all. -/
structure IsSlab (w : World) (r g bl sz : Nat) (hs : List Bool) (zs : List Int) : Prop where
  mem : ∃ ws, w.heap[r]? = some (hdr bl sz ws g) ∧ Frees ws hs
  arena : w.heap[g]? = some (.cells (vals zs).toArray 5)
  ne : r ≠ g
  r0 : 0 < r
  g0 : 0 < g
  tab : Tab w
  len : hs.length = bl
  zlen : zs.length = bl * sz
  mb : bl ≤ 4096
  ms : sz ≤ 65536
  mz : bl * sz ≤ 4194304
  clean : ∀ k, k < bl → hs.getD k true = false → ∀ i, i < sz → zs.getD (k * sz + i) 0 = 0
  byte : ∀ x ∈ zs, 0 ≤ x ∧ x < 256

theorem IsSlab.keep {w w' : World} {r g bl sz : Nat} {hs : List Bool} {zs : List Int} (h : IsSlab w r g bl sz hs zs) (e0 : w'.heap[0]? = w.heap[0]?) (er : w'.heap[r]? = w.heap[r]?) (eg : w'.heap[g]? = w.heap[g]?) : IsSlab w' r g bl sz hs zs :=
  { h with mem := by obtain ⟨ws, h1, h2⟩ := h.mem; exact ⟨ws, er.trans h1, h2⟩, arena := eg.trans h.arena, tab := h.tab.keep e0 }

theorem IsSlab.below {w w' : World} {r g bl sz B : Nat} {hs : List Bool} {zs : List Int} (h : IsSlab w r g bl sz hs zs) (hb : Below B w w') (h1 : r < B) (h2 : g < B) : IsSlab w' r g bl sz hs zs :=
  h.keep (hb.block 0 (by omega)) (hb.block r h1) (hb.block g h2)

theorem IsSlab.lt {w : World} {r g bl sz : Nat} {hs : List Bool} {zs : List Int} (h : IsSlab w r g bl sz hs zs) : r < w.heap.size ∧ g < w.heap.size ∧ 0 < w.heap.size := by
  obtain ⟨ws, h1, h2⟩ := h.mem
  exact ⟨lt_of_some h1, lt_of_some h.arena, h.tab.pos⟩

theorem IsSlab.drewN {w : World} {r g bl sz : Nat} {hs : List Bool} {zs : List Int} (h : IsSlab w r g bl sz hs zs) (n : Nat) : IsSlab (w.drewN n) r g bl sz hs zs := h.keep rfl rfl rfl

set_option maxHeartbeats 400000 in
theorem isMade_nil (w : World) : Calls Tryd.prog 27 #[.pointer none] w fun e w' => e = .returned (.bool false) ∧ w = w' := by
  go_enter Tryd.func27, Tryd.ntmps27
  go_wp2
  go_ret
  exact ⟨rfl, rfl⟩

set_option maxHeartbeats 400000 in
theorem isMade_at (r : Nat) (m : Bool) (w : World) (h0 : w.cell? ⟨r, 0, none⟩ = some (.bool m)) : Calls Tryd.prog 27 #[.pointer (some ⟨r, 0, none⟩)] w fun e w' => e = .returned (.bool m) ∧ w = w' := by
  go_enter Tryd.func27, Tryd.ntmps27
  go_wp2
  go_ret
  exact ⟨rfl, rfl⟩

/-- Is b a block that is held? -/
def heldAt (hs : List Bool) (b : Int) : Bool := decide (0 ≤ b) && decide (b < hs.length) && hs.getD b.toNat true

theorem heldAt_nat (hs : List Bool) (b : Nat) (h : b < hs.length) : heldAt hs b = hs.getD b true := by
  unfold heldAt
  simp [h]

set_option maxHeartbeats 1000000 in
theorem isHeld_at (r g bl sz : Nat) (hs : List Bool) (zs : List Int) (b : Int) (w : World) (h : IsSlab w r g bl sz hs zs) :
    Calls Tryd.prog 30 #[.pointer (some ⟨r, 0, none⟩), .int .i64 b] w fun e w' => e = .returned (.bool (heldAt hs b)) ∧ ∃ n, w' = w.drewN n := by
  obtain ⟨ws, h1, h2⟩ := h.mem
  obtain ⟨c0, c1, c2, c3, c4⟩ := hdr_cells h1 h2.len
  have hmb := h.mb
  have hl := h.len
  have HW := hide c3
  have HF := hide h2
  clear c3 h2 h1
  by_cases hb0 : 0 ≤ b
  · by_cases hb1 : b < bl
    · obtain ⟨k, rfl⟩ : ∃ k : Nat, b = k := ⟨b.toNat, by omega⟩
      have hk : k < bl := by omega
      have HE : Hid (heldAt hs k = hs.getD k true) := heldAt_nat hs k (by omega)
      have HE2 : Hid (bit ws k = !(hs.getD k true)) := HF.out.bits k (by omega)
      clear h hl
      go_enter Tryd.func30, Tryd.ntmps30
      go_wp2_with fail
      refine (has_at r 3 k ws _ (by omega) HW.out HF.out.lt).mono ?_
      rintro e w1 ⟨rfl, n, rfl⟩
      go_wp2_with fail
      go_ret
      refine ⟨?_, n, rfl⟩
      rw [HE.out]
      simp [HE2.out]
    · have HE : Hid (heldAt hs b = false) := by show heldAt hs b = false; unfold heldAt; simp; omega
      clear h hl
      go_enter Tryd.func30, Tryd.ntmps30
      go_wp2_with fail
      go_ret
      refine ⟨?_, 0, rfl⟩
      rw [HE.out]
      simp
  · have HE : Hid (heldAt hs b = false) := by show heldAt hs b = false; unfold heldAt; simp; omega
    clear h hl
    go_enter Tryd.func30, Tryd.ntmps30
    go_wp2_with fail
    go_ret
    refine ⟨?_, 0, rfl⟩
    rw [HE.out]
    simp

/-- Do n bytes from at on lie within a block of sz? -/
def inAt (sz : Nat) (at_ n : Int) : Bool := decide (0 ≤ at_) && decide (0 ≤ n) && decide (at_ + n ≤ sz)

set_option maxHeartbeats 1000000 in
theorem isWithin_at (r sz : Nat) (a n : Int) (w : World) (c2 : w.cell? ⟨r, 2, none⟩ = some (.int .i64 sz)) (hs : sz ≤ 65536) (hn : n < 9223372036854775808) :
    Calls Tryd.prog 33 #[.pointer (some ⟨r, 0, none⟩), .int .i64 a, .int .i64 n] w fun e w' => e = .returned (.bool (inAt sz a n)) ∧ w = w' := by
  unfold inAt
  by_cases h1 : 0 ≤ a
  · by_cases h2 : 0 ≤ n
    · by_cases h3 : a + n ≤ sz
      · go_enter Tryd.func33, Tryd.ntmps33
        go_wp2
        go_ret
        simp [h1, h2, h3]; omega
      · go_enter Tryd.func33, Tryd.ntmps33
        go_wp2
        go_ret
        simp [h1, h2, h3]; omega
    · go_enter Tryd.func33, Tryd.ntmps33
      go_wp2
      go_ret
      simp [h1, h2]; omega
  · go_enter Tryd.func33, Tryd.ntmps33
    go_wp2
    go_ret
    simp [h1]; omega

set_option maxHeartbeats 1000000 in
theorem piece_core (r g b sz N p : Nat) (w : World) (c2 : w.cell? ⟨r, 2, none⟩ = some (.int .i64 sz)) (c4 : w.cell? ⟨r, 67, none⟩ = some (.slice (some ⟨g, 0, none⟩) N N)) (hp : (b : Int) * sz = p) (h1 : p + sz ≤ N) (h2 : N ≤ 4194304) (h3 : 0 < sz) :
    Calls Tryd.prog 31 #[.pointer (some ⟨r, 0, none⟩), .int .i64 b] w fun e w' => e = .returned (.slice (some ⟨g, p, none⟩) sz sz) ∧ w = w' := by
  go_enter Tryd.func31, Tryd.ntmps31
  go_wp2
  go_ret
  refine ⟨?_, rfl⟩
  rw [show p + sz - p = sz by omega]
  rfl

set_option maxHeartbeats 1000000 in
theorem piece_zero (r g b N : Nat) (w : World) (c2 : w.cell? ⟨r, 2, none⟩ = some (.int .i64 0)) (c4 : w.cell? ⟨r, 67, none⟩ = some (.slice (some ⟨g, 0, none⟩) N N)) (h2 : N ≤ 4194304) :
    Calls Tryd.prog 31 #[.pointer (some ⟨r, 0, none⟩), .int .i64 b] w fun e w' => e = .returned (.slice (some ⟨g, 0, none⟩) 0 0) ∧ w = w' := by
  go_enter Tryd.func31, Tryd.ntmps31
  go_wp2
  go_ret
  exact ⟨rfl, rfl⟩

theorem piece_fits (b bl sz : Nat) (hb : b < bl) : b * sz + sz ≤ bl * sz := by
  rw [← Nat.succ_mul]
  exact Nat.mul_le_mul_right _ hb

theorem piece_at (r g b bl sz : Nat) (w : World) (hb : b < bl) (hz : bl * sz ≤ 4194304) (c2 : w.cell? ⟨r, 2, none⟩ = some (.int .i64 sz)) (c4 : w.cell? ⟨r, 67, none⟩ = some (.slice (some ⟨g, 0, none⟩) (bl * sz) (bl * sz))) :
    Calls Tryd.prog 31 #[.pointer (some ⟨r, 0, none⟩), .int .i64 b] w fun e w' => e = .returned (.slice (some ⟨g, b * sz, none⟩) sz sz) ∧ w = w' := by
  by_cases h : sz = 0
  · subst h
    exact piece_zero r g b _ w c2 c4 (by omega)
  · exact piece_core r g b sz (bl * sz) (b * sz) w c2 c4 (by simp) (piece_fits b bl sz hb) hz (by omega)

set_option maxHeartbeats 1000000 in
theorem get_ok (r g bl sz : Nat) (hs : List Bool) (zs : List Int) (k : Nat) (w : World) (h : IsSlab w r g bl sz hs zs) (hk : lst hs = k) (hlt : k < bl) :
    Calls Tryd.prog 11 #[.pointer (some ⟨r, 0, none⟩)] w fun e w' => e = .returned (.tuple #[.int .i64 k, .int .i64 0]) ∧ IsSlab w' r g bl sz (hs.set k true) zs ∧ Kept r r w w' := by
  obtain ⟨ws, h1, h2⟩ := h.mem
  obtain ⟨c0, c1, c2, c3, c4⟩ := hdr_cells h1 h2.len
  have hmb := h.mb
  have hl := h.len
  have HL := hide (least_at r 3 ws hs (k : Int) true (Or.inl ⟨by omega, by rw [hk], rfl⟩) w c3 h2 h.tab (by omega))
  have HK := hide hk
  have H1 := hide h1
  have H2 := hide h2
  have H := hide h
  have HN := hide hl
  clear hk h1 h2 h c1 c2 c3 c4 hl
  go_enter Tryd.func11, Tryd.ntmps11
  go_wp2_with fail
  refine (isMade_at r true _ c0).mono ?_
  rintro e w1 ⟨rfl, rfl⟩
  go_wp2_with fail
  refine HL.out.mono ?_
  rintro e w1 ⟨rfl, n1, rfl⟩
  go_wp2_with fail
  refine (remove_at r bl sz g k ws (w.drewN n1) (by omega) H1.out H2.out.len H2.out.lt).mono ?_
  rintro e w2 ⟨rfl, hh, hk2⟩
  have HH := hide hh
  have HK2 := hide hk2
  clear hh hk2
  go_wp2_with fail
  go_ret2
  have hkk := HK2.out.of_drewN
  have hlen := H.out.lt
  refine ⟨rfl, { H.out with mem := ⟨_, HH.out, H2.out.get k (by rw [HN.out]; omega) (by omega)⟩, arena := hkk.at_ H.out.arena (Ne.symm H.out.ne) (Ne.symm H.out.ne), tab := H.out.tab.keep (hkk.block 0 hlen.2.2 (by have := H.out.r0; omega) (by have := H.out.r0; omega)), len := by rw [List.length_set, HN.out], clean := fun j hj hf i hi => ?_ }, hkk⟩
  rw [getDb_set _ _ _ _ (by rw [HN.out]; omega)] at hf
  split at hf
  · cases hf
  · exact H.out.clean j hj hf i hi

set_option maxHeartbeats 1000000 in
theorem get_full (r g bl sz : Nat) (hs : List Bool) (zs : List Int) (w : World) (h : IsSlab w r g bl sz hs zs) (hk : lst hs = bl) :
    Calls Tryd.prog 11 #[.pointer (some ⟨r, 0, none⟩)] w fun e w' => e = .returned (.tuple #[.int .i64 0, .int .i64 4]) ∧ ∃ n, w' = w.drewN n := by
  obtain ⟨ws, h1, h2⟩ := h.mem
  obtain ⟨c0, c1, c2, c3, c4⟩ := hdr_cells h1 h2.len
  have hmb := h.mb
  have hl := h.len
  have HL := hide (least_at r 3 ws hs 0 false (Or.inr ⟨by omega, rfl, rfl⟩) w c3 h2 h.tab (by omega))
  clear hk h1 h2 h c1 c2 c3 c4 hl
  go_enter Tryd.func11, Tryd.ntmps11
  go_wp2_with fail
  refine (isMade_at r true _ c0).mono ?_
  rintro e w1 ⟨rfl, rfl⟩
  go_wp2_with fail
  refine HL.out.mono ?_
  rintro e w1 ⟨rfl, n1, rfl⟩
  go_wp2_with fail
  go_ret2
  exact ⟨rfl, n1, rfl⟩

set_option maxHeartbeats 1000000 in
theorem used_at (r g bl sz : Nat) (hs : List Bool) (zs : List Int) (w : World) (h : IsSlab w r g bl sz hs zs) :
    Calls Tryd.prog 23 #[.pointer (some ⟨r, 0, none⟩)] w fun e w' => e = .returned (.int .i64 (hs.count true)) ∧ ∃ n, w' = w.drewN n := by
  obtain ⟨ws, h1, h2⟩ := h.mem
  obtain ⟨c0, c1, c2, c3, c4⟩ := hdr_cells h1 h2.len
  have hmb := h.mb
  have hl := h.len
  have hcb := count_both hs
  have HC : Hid (∀ n, Calls Tryd.prog 34 #[.pointer (some ⟨r, 3, none⟩)] (w.drewN n) fun e w' => e = .returned (.int .i64 (hs.count false)) ∧ ∃ n, w' = w.drewN n) := fun n => by
    refine (count_at r 3 ws hs (w.drewN n) ⟨c3.cell⟩ h2 (by omega)).mono ?_
    rintro e w' ⟨rfl, m, rfl⟩
    exact ⟨rfl, _, World.drewN_drewN _ _ _⟩
  obtain ⟨x, hx⟩ : ∃ x, x = hs.count true := ⟨_, rfl⟩
  obtain ⟨y, hy⟩ : ∃ y, y = hs.count false := ⟨_, rfl⟩
  rw [← hy] at HC
  rw [← hx, ← hy] at hcb
  rw [← hx]
  have hxy : (bl : Int) - y = x := by omega
  clear h1 h2 h c2 c3 c4 hl hx hy
  go_enter Tryd.func23, Tryd.ntmps23
  go_wp2_with fail
  refine (isMade_at r true _ c0).mono ?_
  rintro e w1 ⟨rfl, rfl⟩
  go_wp2_with fail
  go_quiet (first | (go_at_call 34; exact HC.out _))
  go_wp2
  go_ret
  exact ⟨rfl, _, rfl⟩

end Go.Proofs.YtnikjcinleghbaaDoor
