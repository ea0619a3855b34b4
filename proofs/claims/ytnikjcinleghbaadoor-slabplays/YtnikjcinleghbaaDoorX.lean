/-
  The reference slab in memory, and its New; conditions as each theorem has them.
-/
import Derived.Test.YtnikjcinleghbaaDoorV
set_option linter.unusedSimpArgs false
set_option linter.unusedVariables false
namespace Go.Proofs.YtnikjcinleghbaaDoor
open Go.RowKit

def yhd (sz : Nat) (vb vh : Value) : Obj := .cells #[.int .i64 sz, vb, vh] 49
theorem yhd_cells {w : World} {y sz : Nat} {vb vh : Value} (h : w.heap[y]? = some (yhd sz vb vh)) : w.cell? ⟨y, 0, none⟩ = some (.int .i64 sz) ∧ w.cell? ⟨y, 1, none⟩ = some vb ∧ w.cell? ⟨y, 2, none⟩ = some vh := by
  unfold yhd at h
  simp [World.cell?, h]
theorem yhd_frozen {w : World} {y sz : Nat} {vb vh : Value} (h : w.heap[y]? = some (yhd sz vb vh)) (o : Nat) : w.frozen? ⟨y, o, none⟩ = false := by
  unfold yhd at h
  simp [World.frozen?, h]
theorem yhd_set1 {w : World} {y sz : Nat} {vb vh : Value} (h : w.heap[y]? = some (yhd sz vb vh)) (u : Value) : (w.setCell ⟨y, 1, none⟩ u).heap[y]? = some (yhd sz u vh) := by
  unfold yhd at h ⊢
  rw [heap_setCell_same h]
  simp
theorem yhd_set2 {w : World} {y sz : Nat} {vb vh : Value} (h : w.heap[y]? = some (yhd sz vb vh)) (u : Value) : (w.setCell ⟨y, 2, none⟩ u).heap[y]? = some (yhd sz vb u) := by
  unfold yhd at h ⊢
  rw [heap_setCell_same h]
  simp

/-- Nothing that was there has turned but what lies in the blocks M. -/
structure KeptM (M : Nat → Prop) (w w' : World) : Prop where
  os : w'.os = w.os
  tape : w'.tape = w.tape
  output : w'.output = w.output
  size : w.heap.size ≤ w'.heap.size
  block : ∀ k, k < w.heap.size → ¬ M k → w'.heap[k]? = w.heap[k]?
theorem KeptM.refl (M : Nat → Prop) (w : World) : KeptM M w w := ⟨rfl, rfl, rfl, Nat.le_refl _, fun _ _ _ => rfl⟩
theorem KeptM.below {M : Nat → Prop} {w w' : World} {B : Nat} (h : KeptM M w w') (hM : ∀ k, M k → B ≤ k) (hB : B ≤ w.heap.size) : Below B w w' :=
  ⟨h.os, h.tape, h.output, h.size, fun k hk => h.block k (by omega) (fun hm => by have := hM k hm; omega)⟩
theorem KeptM.of_kept {M : Nat → Prop} {r g : Nat} {w w' : World} (h : Kept r g w w') (hr : M r) (hg : M g) : KeptM M w w' :=
  ⟨h.os, h.tape, h.output, h.size, fun k hk hm => h.block k hk (fun e => hm (e ▸ hr)) (fun e => hm (e ▸ hg))⟩
theorem KeptM.of_below {M : Nat → Prop} {w w' : World} (h : Below w.heap.size w w') : KeptM M w w' := ⟨h.os, h.tape, h.output, h.size, fun k hk _ => h.block k hk⟩
theorem KeptM.drewN {M : Nat → Prop} {w w' : World} (h : KeptM M w w') (n : Nat) : KeptM M w (w'.drewN n) := ⟨h.os, h.tape, h.output, h.size, h.block⟩

def row (zs : List Int) (sz k : Nat) : List Int := (zs.drop (k * sz)).take sz

structure IsRef (w : World) (y bl sz : Nat) (hs : List Bool) (zs : List Int) (M : Nat → Prop) (vb vh : Value) (bs : List Value) (hd : Nat → Nat) (yb yh : Nat) : Prop where
  head : w.heap[y]? = some (yhd sz vb vh)
  len : hs.length = bl
  blen : bs.length = bl
  mb : bl ≤ 4096
  ms : sz ≤ 65536
  zlen : zs.length = bl * sz
  rowB : (bl = 0 ∧ vb = .slice none 0 0) ∨ (0 < bl ∧ ∃ cap cur, OwnR 30 w yb vb cap cur bs)
  rowH : (bl = 0 ∧ vh = .slice none 0 0) ∨ (0 < bl ∧ ∃ cap cur, OwnR 4 w yh vh cap cur (hs.map Value.bool))
  ne1 : y ≠ yb
  ne2 : y ≠ yh
  ne3 : yb ≠ yh
  spot : ∀ k, k < bl → hs.getD k true = true → bs[k]? = some (.slice (some ⟨hd k, 0, none⟩) sz sz) ∧ w.heap[hd k]? = some (.cells (vals (row zs sz k)).toArray 5) ∧ hd k ≠ y ∧ hd k ≠ yb ∧ hd k ≠ yh ∧ M (hd k)
  inj : ∀ k j, k < bl → j < bl → hs.getD k true = true → hs.getD j true = true → hd k = hd j → k = j
  my : M y
  mb' : 0 < bl → M yb ∧ M yh
  mlt : ∀ k, M k → k < w.heap.size
  byte : ∀ x ∈ zs, 0 ≤ x ∧ x < 256

/-- The reference slab; all its memory is among M. -/
def RefM (w : World) (y bl sz : Nat) (hs : List Bool) (zs : List Int) (M : Nat → Prop) : Prop := ∃ vb vh bs hd yb yh, IsRef w y bl sz hs zs M vb vh bs hd yb yh

theorem RefM.keep {w w' : World} {y bl sz : Nat} {hs : List Bool} {zs : List Int} {M : Nat → Prop} (h : RefM w y bl sz hs zs M) (hb : ∀ k, M k → w'.heap[k]? = w.heap[k]?) (hz : w.heap.size ≤ w'.heap.size) : RefM w' y bl sz hs zs M := by
  obtain ⟨vb, vh, bs, hd, yb, yh, h⟩ := h
  refine ⟨vb, vh, bs, hd, yb, yh, { h with head := (hb y h.my).trans h.head, rowB := ?_, rowH := ?_, spot := fun k hk hh => ?_, mlt := fun k hk => Nat.lt_of_lt_of_le (h.mlt k hk) hz }⟩
  · rcases h.rowB with h0 | ⟨hp, cap, cur, o⟩
    · exact Or.inl h0
    · exact Or.inr ⟨hp, cap, cur, o.keep (hb yb (h.mb' hp).1)⟩
  · rcases h.rowH with h0 | ⟨hp, cap, cur, o⟩
    · exact Or.inl h0
    · exact Or.inr ⟨hp, cap, cur, o.keep (hb yh (h.mb' hp).2)⟩
  · obtain ⟨k1, k2, k3⟩ := h.spot k hk hh
    exact ⟨k1, (hb _ k3.2.2.2).trans k2, k3⟩

set_option maxHeartbeats 1000000 in
theorem refnew_bad (b s : Int) (w : World) (h : b < 0 ∨ 4096 < b ∨ s < 0 ∨ 65536 < s) :
    Calls Tryd.prog 9 #[.int .i64 b, .int .i64 s] w fun e w' => e = .returned (.tuple #[.pointer none, .int .i64 2]) ∧ w = w' := by
  by_cases h1 : b < 0
  · go_enter Tryd.func9, Tryd.ntmps9
    go_wp2
    go_ret2
    exact ⟨rfl, rfl⟩
  · by_cases h2 : 4096 < b
    · go_enter Tryd.func9, Tryd.ntmps9
      go_wp2
      go_ret2
      exact ⟨rfl, rfl⟩
    · by_cases h3 : s < 0
      · go_enter Tryd.func9, Tryd.ntmps9
        go_wp2
        go_ret2
        exact ⟨rfl, rfl⟩
      · have h4 : 65536 < s := by omega
        go_enter Tryd.func9, Tryd.ntmps9
        go_wp2
        go_ret2
        exact ⟨rfl, rfl⟩

set_option maxHeartbeats 1000000 in
theorem refnew_great (b s N : Nat) (w : World) (hb : b ≤ 4096) (hs : s ≤ 65536) (hN : (b : Int) * s = N) (hg : 4194304 < N) (hg1 : N ≤ 268435456) :
    Calls Tryd.prog 9 #[.int .i64 b, .int .i64 s] w fun e w' => e = .returned (.tuple #[.pointer none, .int .i64 2]) ∧ w = w' := by
  go_enter Tryd.func9, Tryd.ntmps9
  go_wp2
  go_ret2
  exact ⟨rfl, rfl⟩

/-- The two rows of the reference slab while New makes them. -/
def Grown (w : World) (y j : Nat) (vb vh : Value) : Prop := (j = 0 ∧ vb = .slice none 0 0 ∧ vh = .slice none 0 0) ∨ ∃ yb yh capb curb caph curh, OwnR 30 w yb vb capb curb (List.replicate j (.slice none 0 0)) ∧ OwnR 4 w yh vh caph curh (List.replicate j (.bool false)) ∧ y < yb ∧ y < yh ∧ yb ≠ yh ∧ 0 < j

set_option maxRecDepth 100000 in
set_option maxHeartbeats 1000000 in
theorem refnew_good (bl sz : Nat) (w : World) (hb : bl ≤ 4096) (hs : sz ≤ 65536) (hz : bl * sz ≤ 4194304) (zs : List Int) (hzl : zs.length = bl * sz) (hzb : ∀ x ∈ zs, 0 ≤ x ∧ x < 256) :
    Calls Tryd.prog 9 #[.int .i64 bl, .int .i64 sz] w fun e w' => e = .returned (.tuple #[.pointer (some ⟨w.heap.size, 0, none⟩), .int .i64 0]) ∧ (∃ M, RefM w' w.heap.size bl sz (allFree bl) zs M ∧ ∀ k, M k → w.heap.size ≤ k) ∧ Below w.heap.size w w' := by
  obtain ⟨N, hN⟩ : ∃ N, N = bl * sz := ⟨_, rfl⟩
  have hI : (bl : Int) * sz = N := by rw [hN]; simp
  have hz' : N ≤ 4194304 := by omega
  have HZL := hide hzl
  have HZB := hide hzb
  clear hz hN hzl hzb
  go_enter Tryd.func9, Tryd.ntmps9
  go_wp2_with fail
  go_loopw [7] (fun i wr => ∃ (j : Nat), j ≤ bl ∧ i = .int .i64 j ∧ Hid (∃ vb vh, wr.heap[w.heap.size]? = some (yhd sz vb vh) ∧ Grown wr w.heap.size j vb vh) ∧ Hid (Below w.heap.size w wr)) (fun i _ => bl - (intOf i).toNat)
  case atStart => exact ⟨0, Nat.zero_le _, rfl, ⟨.slice none 0 0, .slice none 0 0, alloc_new _ _, Or.inl ⟨rfl, rfl, rfl⟩⟩, (Below.refl w.heap.size w).alloc (Nat.le_refl _) _⟩
  case round =>
    obtain ⟨j, hj, rfl, HG, HB⟩ := hrel
    obtain ⟨vb, vh, hy, hgr⟩ := HG.out
    have hyl := lt_of_some hy
    by_cases h1 : j < bl
    · obtain ⟨y, hy0⟩ : ∃ y, y = w.heap.size := ⟨_, rfl⟩
      rw [← hy0] at hy hgr hyl
      -- the first append
      obtain ⟨v1, w1, b1, cap1, cur1, hr1, own1, at1, z1, o1, o2, o3, blk1⟩ := run_app_one elemS 46 (w := wr.alloc (.cells #[.slice none 0 0] 30)) (v := vb) (vs := List.replicate j (.slice none 0 0)) (by
          rcases hgr with ⟨e0, e1, _⟩ | ⟨yb, yh, c1, c2, c3, c4, o1, _⟩
          · exact Or.inl ⟨e1, by rw [e0]; rfl⟩
          · exact Or.inr ⟨yb, c1, c2, o1.keep (Below.heap_alloc _ _ _ o1.lt)⟩) (x := .slice none 0 0) rfl (s := wr.heap.size) (alloc_new _ _) (by simp; omega)
      obtain rfl : v1 = .slice (some ⟨b1, 0, none⟩) (j + 1) cap1 := by have := own1.val; simpa using this
      have hb1 : y < b1 := by
        rcases at1 with e | ⟨cap, cur, o⟩
        · rw [e]; simp; omega
        · rcases hgr with ⟨_, e1, _⟩ | ⟨yb, yh, c1, c2, c3, c4, p1, p2, p3, _⟩
          · rw [e1] at o; have := o.val; cases this
          · have e := o.val
            rw [p1.val] at e
            simp at e
            omega
      have hvb : vb.ownBlock ≠ some y := by
        rcases hgr with ⟨_, e1, _⟩ | ⟨yb, yh, c1, c2, c3, c4, p1, p2, p3, _⟩
        · rw [e1]; simp [Value.ownBlock]
        · rw [p1.val]; simp [Value.ownBlock]; omega
      have hy1 : w1.heap[y]? = some (yhd sz vb vh) := (blk1 y (by simp; omega) hvb).trans (alloc_old _ hy)
      obtain ⟨W2, hW2⟩ : ∃ W2, W2 = w1.setCell ⟨y, 1, none⟩ (.slice (some ⟨b1, 0, none⟩) (j + 1) cap1) := ⟨_, rfl⟩
      have hy2 : W2.heap[y]? = some (yhd sz (.slice (some ⟨b1, 0, none⟩) (j + 1) cap1) vh) := by rw [hW2]; exact yhd_set1 hy1 (.slice (some ⟨b1, 0, none⟩) (j + 1) cap1)
      have hs2 : W2.heap.size = w1.heap.size := by rw [hW2]; simp [World.setCell]
      have blk2 : ∀ k, k ≠ y → W2.heap[k]? = w1.heap[k]? := fun k hk => by rw [hW2]; exact Below.heap_setCell _ _ _ _ (by simpa using hk)
      have own2 := own1.keep (w' := W2) (blk2 b1 (by omega))
      have hg2 : (j = 0 ∧ vh = .slice none 0 0) ∨ ∃ yh caph curh, OwnR 4 W2 yh vh caph curh (List.replicate j (.bool false)) ∧ y < yh ∧ yh ≠ b1 ∧ yh < W2.heap.size := by
        rcases hgr with ⟨e0, _, e1⟩ | ⟨yb, yh, c1, c2, c3, c4, p1, p2, p3, p4, p5, p6⟩
        · exact Or.inl ⟨e0, e1⟩
        · have hlt := p2.lt
          have hb1h : yh ≠ b1 := by
            rcases at1 with e | ⟨cap, cur, o⟩
            · rw [e]; simp; omega
            · have e := o.val
              rw [p1.val] at e
              simp at e
              omega
          refine Or.inr ⟨yh, c3, c4, p2.keep ?_, p4, hb1h, by simp at z1; omega⟩
          rw [blk2 yh (by omega), blk1 yh (by simp; omega) (by rw [p1.val]; simp [Value.ownBlock]; omega), Below.heap_alloc _ _ _ hlt]
      -- the second append
      obtain ⟨V3, w3, b3, cap3, cur3, hr3, own3, at3, z3, o4, o5, o6, blk3⟩ := run_app_one elemB 47 (w := W2.alloc (.cells #[.bool false] 4)) (v := vh) (vs := List.replicate j (.bool false)) (by
          rcases hg2 with ⟨e0, e1⟩ | ⟨yh, c3, c4, p2, _⟩
          · exact Or.inl ⟨e1, by rw [e0]; rfl⟩
          · exact Or.inr ⟨yh, c3, c4, p2.keep (Below.heap_alloc _ _ _ p2.lt)⟩) (x := .bool false) rfl (s := w1.heap.size) (by rw [← hs2]; exact alloc_new _ _) (by simp; omega)
      obtain rfl : V3 = .slice (some ⟨b3, 0, none⟩) (j + 1) cap3 := by have := own3.val; simpa using this
      have hb3 : y < b3 ∧ b3 ≠ b1 := by
        have hb1l := own2.lt
        rcases at3 with e | ⟨cap, cur, o⟩
        · rw [e]; simp; simp at z1; omega
        · rcases hg2 with ⟨_, e1⟩ | ⟨yh, c3, c4, p2, p3, p4, p5⟩
          · rw [e1] at o; have := o.val; cases this
          · have e := o.val
            rw [p2.val] at e
            simp at e
            omega
      have hvh : ∀ k, (k = y ∨ k = b1) → vh.ownBlock ≠ some k := fun k hk => by
        rcases hg2 with ⟨_, e1⟩ | ⟨yh, c3, c4, p2, p3, p4, p5⟩
        · rw [e1]; simp [Value.ownBlock]
        · rw [p2.val]; simp [Value.ownBlock]; omega
      have hy3 : w3.heap[y]? = some (yhd sz (.slice (some ⟨b1, 0, none⟩) (j + 1) cap1) vh) := (blk3 y (by have := lt_of_some hy2; simp; omega) (hvh y (Or.inl rfl))).trans (alloc_old _ hy2)
      have own4 := own2.keep (w' := w3) ((blk3 b1 (by have := own2.lt; simp; omega) (hvh b1 (Or.inr rfl))).trans (Below.heap_alloc _ _ _ own2.lt))
      obtain ⟨d0, d1, d2⟩ := yhd_cells hy
      obtain ⟨_, f1, _⟩ := yhd_cells hy1
      have ff1 := yhd_frozen hy1 1
      obtain ⟨_, _, g2⟩ := yhd_cells hy2
      obtain ⟨_, _, k2⟩ := yhd_cells hy3
      have kf2 := yhd_frozen hy3 2
      have HR1 := hide hr1
      have HR3 : Hid ((Builtin.append_ #[47, 47] 47 #[vh, .slice (some ⟨w1.heap.size, 0, none⟩) 1 1]).run Tryd.prog (W2.alloc (.cells #[.bool false] 4)) = .ok (.slice (some ⟨b3, 0, none⟩) (j + 1) cap3) w3) := hr3
      have HW2 := hide hW2
      have HEND : Hid ((w3.setCell ⟨y, 2, none⟩ (.slice (some ⟨b3, 0, none⟩) (j + 1) cap3)).heap[y]? = some (yhd sz (.slice (some ⟨b1, 0, none⟩) (j + 1) cap1) (.slice (some ⟨b3, 0, none⟩) (j + 1) cap3)) ∧ Grown (w3.setCell ⟨y, 2, none⟩ (.slice (some ⟨b3, 0, none⟩) (j + 1) cap3)) y (j + 1) (.slice (some ⟨b1, 0, none⟩) (j + 1) cap1) (.slice (some ⟨b3, 0, none⟩) (j + 1) cap3)) := by
        refine ⟨yhd_set2 hy3 (.slice (some ⟨b3, 0, none⟩) (j + 1) cap3), Or.inr ⟨b1, b3, cap1, cur1, cap3, cur3, ?_, ?_, hb1, hb3.1, Ne.symm hb3.2, by omega⟩⟩
        · have := own4.keep (w' := w3.setCell ⟨y, 2, none⟩ (.slice (some ⟨b3, 0, none⟩) (j + 1) cap3)) (Below.heap_setCell _ _ _ _ (by simp; omega))
          rw [List.replicate_succ']
          exact this
        · have := own3.keep (w' := w3.setCell ⟨y, 2, none⟩ (.slice (some ⟨b3, 0, none⟩) (j + 1) cap3)) (Below.heap_setCell _ _ _ _ (by simp; omega))
          rw [List.replicate_succ']
          exact this
      have HBE : Hid (Below w.heap.size w (w3.setCell ⟨y, 2, none⟩ (.slice (some ⟨b3, 0, none⟩) (j + 1) cap3))) := by
        have e1 : Below w.heap.size w w3 := by
          refine ⟨o4.trans ?_, o5.trans ?_, o6.trans ?_, by have := HB.out.size; simp at z1 z3; omega, fun k hk => ?_⟩
          · rw [hW2]; exact o1.trans HB.out.os
          · rw [hW2]; exact o2.trans HB.out.tape
          · rw [hW2]; exact o3.trans HB.out.output
          · have hkb : vb.ownBlock ≠ some k := by
              rcases hgr with ⟨_, e1, _⟩ | ⟨yb, yh, c1, c2, c3, c4, p1, p2, p3, _⟩
              · rw [e1]; simp [Value.ownBlock]
              · rw [p1.val]; simp [Value.ownBlock]; omega
            have hkh : vh.ownBlock ≠ some k := by
              rcases hg2 with ⟨_, e1⟩ | ⟨yh, c3, c4, p2, p3, p4, p5⟩
              · rw [e1]; simp [Value.ownBlock]
              · rw [p2.val]; simp [Value.ownBlock]; omega
            rw [blk3 k (by simp; simp at z1; omega) hkh, Below.heap_alloc _ _ _ (by simp at z1; omega), blk2 k (by omega), blk1 k (by simp; omega) hkb, Below.heap_alloc _ _ _ (by omega)]
            exact HB.out.block k hk
        exact e1.trans (((Kept.refl y y w3).set _ _).below (by omega) (by omega) e1.size)
      clear hr1 hr3 hW2 hgr hg2 own1 own2 own3 own4 at1 at3 blk1 blk2 blk3 o1 o2 o3 o4 o5 o6 hvh hvb hy2 hy3 hy1 HG z1 z3
      rw [← hy0]
      have HY0 := hide hy0
      clear hy0 hy
      go_wp2_with (first
        | (at_builtin; refine wpList_app_run _ rfl _ _ 46 46 rfl _ _ rfl rfl HR1.out ?_)
        | (at_builtin; rw [← HW2.out]; refine wpList_app_run _ rfl _ _ 47 47 rfl _ _ rfl rfl HR3.out ?_))
      go_roundw
      case rel =>
        refine ⟨j + 1, by omega, by go_num, ⟨_, _, HEND.out.1, HEND.out.2⟩, ?_⟩
        have hbe := HBE.out
        rw [← HY0.out] at hbe
        exact hbe
      case measure => simp [intOf]; omega
    · obtain rfl : j = bl := by omega
      go_wp2_with fail
      go_ret2
      refine ⟨rfl, ?_, HB.out⟩
      have hbl : ∀ (k : Nat), k < j → (allFree j).getD k true = true → False := fun k hk h => by rw [allFree_getD] at h; simp at h; omega
      rcases hgr with ⟨e0, e1, e2⟩ | ⟨yb, yh, c1, c2, c3, c4, p1, p2, p3, p4, p5, hj0⟩
      · refine ⟨fun k => k = w.heap.size, ⟨vb, vh, [], fun _ => 0, w.heap.size + 1, w.heap.size + 2, ⟨hy, by simp [allFree], by rw [e0]; rfl, hb, hs, HZL.out, Or.inl ⟨e0, e1⟩, Or.inl ⟨e0, e2⟩, by omega, by omega, by omega, fun k hk h => (hbl k hk h).elim, fun k i hk _ h _ _ => (hbl k hk h).elim, rfl, fun h => by omega, fun k hk => by rw [hk]; exact hyl, HZB.out⟩⟩, fun k hk => by omega⟩
      · refine ⟨fun k => k = w.heap.size ∨ k = yb ∨ k = yh, ⟨vb, vh, _, fun _ => 0, yb, yh, ⟨hy, by simp [allFree], by simp, hb, hs, HZL.out, Or.inr ⟨hj0, c1, c2, p1⟩, Or.inr ⟨hj0, c3, c4, by rw [allFree, List.map_replicate]; exact p2⟩, by omega, by omega, p5, fun k hk h => (hbl k hk h).elim, fun k i hk _ h _ _ => (hbl k hk h).elim, Or.inl rfl, fun _ => ⟨Or.inr (Or.inl rfl), Or.inr (Or.inr rfl)⟩, fun k hk => by have := p1.lt; have := p2.lt; omega, HZB.out⟩⟩, fun k hk => by omega⟩

end Go.Proofs.YtnikjcinleghbaaDoor
