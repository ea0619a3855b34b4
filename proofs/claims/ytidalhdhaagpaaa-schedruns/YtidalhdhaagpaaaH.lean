/-
  ownTick and ownGap of package sched; conditions as each theorem has them.
-/
import Derived.Test.YtidalhdhaagpaaaG
set_option linter.unusedSimpArgs false
set_option linter.unusedVariables false
namespace Go.Proofs.Ytidalhdhaagpaaa
open Go.RowKit

set_option maxHeartbeats 400000 in
theorem tick_go (j k pf pk : Nat) (x : Int) (w : World) (hf : w.heap[pf]? = some (boxI x)) (hk : w.heap[pk]? = some (boxI (k + 1 : Nat))) (hne : pf ≠ pk) (hkm : k ≤ 1000) :
    Calls Try.prog 39 #[.int .i64 j, .pointer (some ⟨pf, 0, none⟩), .pointer (some ⟨pk, 0, none⟩)] w fun e w' => e = .returned (.bool true) ∧ w' = (w.setCell ⟨pf, 0, none⟩ (.int .i64 j)).setCell ⟨pk, 0, none⟩ (.int .i64 k) := by
  have c0 := boxI_cell hf
  have c1 := boxI_cell hk
  have f0 := cells_frozen hf 0
  have f1 := cells_frozen hk 0
  have hne' : ¬ pk = pf := fun e => hne e.symm
  clear hf hk
  have e1 : ((k + 1 : Nat) : Int) - 1 = (k : Int) := by omega
  have e2 : decide (0 ≤ (k : Int)) = true := by simp
  go_enter Try.func39, Try.ntmps39
  go_wp2
  go_ret
  exact ⟨rfl, rfl⟩

set_option maxHeartbeats 400000 in
theorem tick_stop (j pf pk : Nat) (x : Int) (w : World) (hf : w.heap[pf]? = some (boxI x)) (hk : w.heap[pk]? = some (boxI 0)) (hne : pf ≠ pk) :
    Calls Try.prog 39 #[.int .i64 j, .pointer (some ⟨pf, 0, none⟩), .pointer (some ⟨pk, 0, none⟩)] w fun e w' => e = .returned (.bool false) ∧ w' = (w.setCell ⟨pf, 0, none⟩ (.int .i64 j)).setCell ⟨pk, 0, none⟩ (.int .i64 (-1)) := by
  have c0 := boxI_cell hf
  have c1 := boxI_cell hk
  have f0 := cells_frozen hf 0
  have f1 := cells_frozen hk 0
  have hne' : ¬ pk = pf := fun e => hne e.symm
  clear hf hk
  go_enter Try.func39, Try.ntmps39
  go_wp2
  go_ret
  exact ⟨rfl, rfl⟩

theorem enters39 : ∀ (args : Array Value) (w : World), (callFunc 39 args).run Try.prog w = .ok (.enter 39 args) w := Go.Proofs.enters_of Try.func39 (by kernel_rfl) rfl

structure TickI (T : List (Int × Int)) (t : Int) (k : Nat) (w : World) (j : Nat) (wx : World) : Prop where
  le : C T t j ≤ k
  bk : wx.heap[w.heap.size]? = some (boxI (k - C T t j : Nat))
  bf : ∃ x, wx.heap[w.heap.size + 1]? = some (boxI x)
  bel : Below w.heap.size w wx

theorem tick_visits (T : List (Int × Int)) (t : Int) (b o n k : Nat) (w : World) (h : Tab w (some ⟨b, o, none⟩) b o n T) (hg : Good T) (hk : k < C T t n) :
    Visits T t b o n 39 #[.pointer (some ⟨w.heap.size + 1, 0, none⟩), .pointer (some ⟨w.heap.size, 0, none⟩)] (TickI T t k w) (fun wx => ∃ x : Nat, IsWhen T t k x ∧ wx.heap[w.heap.size + 1]? = some (boxI x) ∧ Below w.heap.size w wx) where
  len := h.len
  pos := by have := hg.pos; rw [h.len] at this; exact this
  max := by have := hg.max; rw [h.len] at this; exact this
  tab := fun j wx i => h.below i.bel
  alloc := fun j wx x i => ⟨i.le, alloc_old _ i.bk, by obtain ⟨y, hy⟩ := i.bf; exact ⟨y, alloc_old _ hy⟩, Below.alw i.bel _⟩
  skip := fun j wx hn i => ⟨by rw [C_not hn]; exact i.le, by rw [C_not hn]; exact i.bk, i.bf, i.bel⟩
  visit := fun j wx hj ho i => by
    have hmax := hg.max
    rw [h.len] at hmax
    obtain ⟨y, hy⟩ := i.bf
    have hle := i.le
    have hcn := C_le T t n
    rcases Nat.lt_or_ge (C T t j) k with hl | hl
    · have hbk := i.bk
      rw [show k - C T t j = (k - C T t j - 1) + 1 by omega] at hbk
      refine (tick_go j (k - C T t j - 1) (w.heap.size + 1) w.heap.size y wx hy hbk (by omega) (by omega)).mono ?_
      rintro x w2 ⟨rfl, rfl⟩
      refine Or.inl ⟨rfl, by rw [C_own ho]; omega, ?_, ⟨j, set_other (boxI_set hy _) (by omega) _ _⟩, below_set (below_set i.bel (by omega) _ _) (by omega) _ _⟩
      rw [C_own ho, show k - (C T t j + 1) = k - C T t j - 1 by omega]
      exact boxI_set (set_other hbk (by omega) _ _) _
    · have hbk := i.bk
      rw [show k - C T t j = 0 by omega] at hbk
      refine (tick_stop j (w.heap.size + 1) w.heap.size y wx hy hbk (by omega)).mono ?_
      rintro x w2 ⟨rfl, rfl⟩
      exact Or.inr ⟨rfl, j, ⟨ho, by omega⟩, set_other (boxI_set hy _) (by omega) _ _, below_set (below_set i.bel (by omega) _ _) (by omega) _ _⟩
  fin := fun wx i => by
    have h1 := i.le
    have h2 := C_add T t n
    rw [h.len] at h2
    rw [show 2 * n = n + n by omega] at h1
    omega

set_option maxHeartbeats 1000000 in
theorem ownTick_at (T : List (Int × Int)) (t : Int) (b o n cp k : Nat) (w : World) (h : Tab w (some ⟨b, o, none⟩) b o n T) (hg : Good T) (hk : k < C T t n) :
    Calls Try.prog 34 #[.slice (some ⟨b, o, none⟩) n cp, .int .i64 t, .int .i64 k] w fun x w' => ∃ y : Nat, x = .returned (.int .i64 y) ∧ IsWhen T t k y ∧ Below w.heap.size w w' := by
  have hmf : ∀ (fn : Fn) (first cap : Array Value) (w : World), (Instr.makeFunc fn first cap).run Try.prog w = .ok (.func fn first cap) w := fun _ _ _ _ => rfl
  have HR := hide (round_at T t b o n cp 39 _ _ _ (tick_visits T t b o n k w h hg hk) ((w.alloc (boxI k)).alloc (boxI 0)) ⟨Nat.zero_le _, alloc_old _ (alloc_new _ _), ⟨0, by
    have := alloc_new (w.alloc (boxI k)) (boxI 0)
    simpa using this⟩, Below.alw (Below.alw (Below.refl _ _) _) _⟩ enters39)
  clear h hg hk
  go_enter Try.func34, Try.ntmps34
  go_wp2_with fail
  refine HR.out.mono ?_
  rintro x w2 ⟨rfl, y, hw, hbc, hb⟩
  have c0 := boxI_cell hbc
  have HB := hide hb
  have HW := hide hw
  clear hbc hb HR hw
  go_wp2_with fail
  go_ret
  exact ⟨y, rfl, HW.out, HB.out⟩

set_option maxHeartbeats 400000 in
theorem gap_first (j pl pm : Nat) (l : Int) (w : World) (hl : w.heap[pl]? = some (boxI l)) (hn : l < 0) :
    Calls Try.prog 40 #[.int .i64 j, .pointer (some ⟨pl, 0, none⟩), .pointer (some ⟨pm, 0, none⟩)] w fun e w' => e = .returned (.bool true) ∧ w' = w.setCell ⟨pl, 0, none⟩ (.int .i64 j) := by
  have c0 := boxI_cell hl
  have f0 := cells_frozen hl 0
  have e1 : decide (0 ≤ l) = false := by simp; omega
  clear hl
  go_enter Try.func40, Try.ntmps40
  go_wp2
  go_ret
  exact ⟨rfl, rfl⟩

set_option maxHeartbeats 400000 in
theorem gap_next (j pl pm l m : Nat) (w : World) (hl : w.heap[pl]? = some (boxI l)) (hm : w.heap[pm]? = some (boxI m)) (hne : pl ≠ pm) (hlj : l < j) (hj : j ≤ 1000) (hmm : m ≤ 1000) :
    Calls Try.prog 40 #[.int .i64 j, .pointer (some ⟨pl, 0, none⟩), .pointer (some ⟨pm, 0, none⟩)] w fun e w' => e = .returned (.bool true) ∧ w' = (w.setCell ⟨pm, 0, none⟩ (.int .i64 (max (m : Int) (j - l)))).setCell ⟨pl, 0, none⟩ (.int .i64 j) := by
  have c0 := boxI_cell hl
  have c1 := boxI_cell hm
  have f0 := cells_frozen hl 0
  have f1 := cells_frozen hm 0
  have hne' : ¬ pm = pl := fun e => hne e.symm
  have e1 : decide (0 ≤ (l : Int)) = true := by simp
  clear hl hm
  go_enter Try.func40, Try.ntmps40
  go_wp2
  · go_ret
    rw [show max (m : Int) (j - l) = j - l by omega]
    exact ⟨rfl, rfl⟩
  · go_ret
    rw [show max (m : Int) (j - l) = m by omega]
    exact ⟨rfl, rfl⟩

theorem enters40 : ∀ (args : Array Value) (w : World), (callFunc 40 args).run Try.prog w = .ok (.enter 40 args) w := Go.Proofs.enters_of Try.func40 (by kernel_rfl) rfl

structure GapI (T : List (Int × Int)) (t : Int) (w : World) (j : Nat) (wx : World) : Prop where
  up : ∃ l m, GapUp T t j l m ∧ wx.heap[w.heap.size + 1]? = some (boxI l) ∧ wx.heap[w.heap.size]? = some (boxI m)
  bel : Below w.heap.size w wx

theorem gap_visits (T : List (Int × Int)) (t : Int) (b o n : Nat) (w : World) (h : Tab w (some ⟨b, o, none⟩) b o n T) (hg : Good T) (hk : 0 < C T t n) :
    Visits T t b o n 40 #[.pointer (some ⟨w.heap.size + 1, 0, none⟩), .pointer (some ⟨w.heap.size, 0, none⟩)] (GapI T t w) (fun wx => ∃ g : Nat, IsGap T t g ∧ wx.heap[w.heap.size]? = some (boxI g) ∧ Below w.heap.size w wx) where
  len := h.len
  pos := by have := hg.pos; rw [h.len] at this; exact this
  max := by have := hg.max; rw [h.len] at this; exact this
  tab := fun j wx i => h.below i.bel
  alloc := fun j wx x i => ⟨by obtain ⟨l, m, h1, h2, h3⟩ := i.up; exact ⟨l, m, h1, alloc_old _ h2, alloc_old _ h3⟩, Below.alw i.bel _⟩
  skip := fun j wx hn i => ⟨by obtain ⟨l, m, h1, h2, h3⟩ := i.up; exact ⟨l, m, h1.skip hn, h2, h3⟩, i.bel⟩
  visit := fun j wx hj ho i => by
    have hmax := hg.max
    rw [h.len] at hmax
    obtain ⟨l, m, h1, h2, h3⟩ := i.up
    rcases Int.lt_or_le l 0 with hl | hl
    · refine (gap_first j (w.heap.size + 1) w.heap.size l wx h2 hl).mono ?_
      rintro x w2 ⟨rfl, rfl⟩
      exact Or.inl ⟨rfl, ⟨j, m, h1.first ho hl, boxI_set h2 _, set_other h3 (by omega) _ _⟩, below_set i.bel (by omega) _ _⟩
    · obtain ⟨l', rfl⟩ := Int.eq_ofNat_of_zero_le hl
      have hm : ∃ m' : Nat, m = m' ∧ m' ≤ j ∧ l' < j := by
        rcases h1 with ⟨e, _, _⟩ | ⟨a, c, e1, e2, e3, e4, _⟩
        · omega
        · exact ⟨c, e2, e4, by omega⟩
      obtain ⟨m', rfl, hm1, hm2⟩ := hm
      refine (gap_next j (w.heap.size + 1) w.heap.size l' m' wx h2 h3 (by omega) hm2 (by omega) (by omega)).mono ?_
      rintro x w2 ⟨rfl, rfl⟩
      exact Or.inl ⟨rfl, ⟨j, _, h1.next ho hl, boxI_set (set_other h2 (by omega) _ _) _, set_other (boxI_set h3 _) (by omega) _ _⟩, below_set (below_set i.bel (by omega) _ _) (by omega) _ _⟩
  fin := fun wx i => by
    obtain ⟨l, m, h1, h2, h3⟩ := i.up
    have hlen := h.len
    subst hlen
    obtain ⟨g, rfl, hg2⟩ := h1.gap hk
    exact ⟨g, hg2, h3, i.bel⟩

set_option maxHeartbeats 1000000 in
theorem ownGap_at (T : List (Int × Int)) (t : Int) (b o n cp : Nat) (w : World) (h : Tab w (some ⟨b, o, none⟩) b o n T) (hg : Good T) (hk : 0 < C T t n) :
    Calls Try.prog 35 #[.slice (some ⟨b, o, none⟩) n cp, .int .i64 t] w fun x w' => ∃ g : Nat, x = .returned (.int .i64 g) ∧ IsGap T t g ∧ Below w.heap.size w w' := by
  have hmf : ∀ (fn : Fn) (first cap : Array Value) (w : World), (Instr.makeFunc fn first cap).run Try.prog w = .ok (.func fn first cap) w := fun _ _ _ _ => rfl
  have HR := hide (round_at T t b o n cp 40 _ _ _ (gap_visits T t b o n w h hg hk) ((w.alloc (boxI 0)).alloc (boxI (-1))) ⟨⟨-1, 0, GapUp.start T t, by
    have := alloc_new (w.alloc (boxI 0)) (boxI (-1))
    simpa using this, alloc_old _ (alloc_new _ _)⟩, Below.alw (Below.alw (Below.refl _ _) _) _⟩ enters40)
  clear h hg hk
  go_enter Try.func35, Try.ntmps35
  go_wp2_with fail
  refine HR.out.mono ?_
  rintro x w2 ⟨rfl, y, hw, hbc, hb⟩
  have c0 := boxI_cell hbc
  have HB := hide hb
  have HW := hide hw
  clear hbc hb HR hw
  go_wp2_with fail
  go_ret
  exact ⟨y, rfl, HW.out, HB.out⟩

end Go.Proofs.Ytidalhdhaagpaaa
