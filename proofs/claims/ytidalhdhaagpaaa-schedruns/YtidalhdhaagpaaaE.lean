/-
  Run, Frame and Boundary of package sched, Run and Frame of the reference; conditions as each theorem has them.
-/
import Derived.Test.YtidalhdhaagpaaaD
set_option linter.unusedSimpArgs false
set_option linter.unusedVariables false
namespace Go.Proofs.Ytidalhdhaagpaaa
open Go.RowKit

theorem res_cell_tmp {P : Program} {fn : Func} {p u : Tmp} {ty : TypeId} (h : fn.results = #[.cell p ty, .tmp u]) (tmps : Array Value) (w : World) (g : Nat) (t : TypeId) (cs : Array Value) (fr : Nat × Nat) (d : TypeDesc)
    (hp : tmps.getD p undef = .pointer (some ⟨g, 0, none⟩)) (hg : w.heap[g]? = some (.cells cs t fr))
    (hu : P.underlying ty = some d) (hd : (match d with | .struct _ | .array _ _ => true | _ => false) = true) (hi : (P.info? ty).map (·.size) = some cs.size) :
    (results fn tmps).run P w = .ok (.tuple #[.agg cs, tmps.getD u undef]) w := by
  have hp' : tmps[p]?.getD undef = .pointer (some ⟨g, 0, none⟩) := by simpa using hp
  rw [results_cell_tmp h]
  simp [hp', asAddr, run_loadVar_row w g t ty cs fr d hg hu hd hi, Result.andThen]

theorem info25 : (Try.prog.info? 25).map (·.size) = some 2 := by kernel_rfl

theorem box_set {w : World} {b : Nat} {x y : Int} (h : w.heap[b]? = some (boxS x y)) (p q : Int) : ((w.setCell ⟨b, 0, none⟩ (.int .i64 p)).setCell ⟨b, 1, none⟩ (.int .i64 q)).heap[b]? = some (boxS p q) := by
  rw [heap_setCell_same (heap_setCell_same h _ _)]
  rfl
theorem below_set {B : Nat} {w w' : World} (h : Below B w w') {b : Nat} (hb : B ≤ b) (o : Nat) (v : Value) : Below B w (w'.setCell ⟨b, o, none⟩ v) :=
  ⟨h.os, h.tape, h.output, by simp [World.setCell]; exact h.size, fun k hk => (Below.heap_setCell _ _ _ _ (by simp; omega)).trans (h.block k hk)⟩
theorem tab_set {w : World} {a : Option Addr} {b o n g : Nat} {T : List (Int × Int)} (h : Tab w a b o n T) (hg : 0 < n → b ≠ g) (x : Nat) (v : Value) : Tab (w.setCell ⟨g, x, none⟩ v) a b o n T :=
  ⟨h.len, fun h0 => ⟨(h.ptr h0).1, by simp [World.setCell]; exact (h.ptr h0).2⟩, fun i p hp => by
    have h0 : 0 < n := by have := (List.getElem?_eq_some_iff.1 hp).1; have := h.len; omega
    obtain ⟨c0, c1⟩ := h.cells i p hp
    have e : (w.setCell ⟨g, x, none⟩ v).heap[b]? = w.heap[b]? := Below.heap_setCell _ _ _ _ (by have := hg h0; simp; omega)
    exact ⟨(World.cell?_of_block (a := ⟨b, o + i * 2, none⟩) e).trans c0, (World.cell?_of_block (a := ⟨b, o + i * 2 + 1, none⟩) e).trans c1⟩, h.max⟩

set_option maxHeartbeats 1000000 in
theorem run_bad (a : Option Addr) (b o n cap : Nat) (T : List (Int × Int)) (k : Int) (c : Int) (w : World) (h : Tab w a b o n T) (hc : errK T k = c) (hc0 : c = 50 ∨ c = 2) :
    Calls Try.prog 9 #[.slice a n cap, .int .i64 k] w fun e w' => e = .returned (.tuple #[slt 0 0, .int .i64 c]) ∧ Below w.heap.size w w' := by
  have HC := hide (tick_at a b o n cap T k (w.alloc (boxS 0 0)) (h.alloc _))
  rw [hc] at HC
  clear h hc
  rcases hc0 with rfl | rfl
  all_goals
    go_enter Try.func9, Try.ntmps9
    go_wp2_with fail
    refine HC.out.mono ?_
    rintro e w2 ⟨rfl, hb2⟩
    have hbx : w2.heap[w.heap.size]? = some (boxS 0 0) := (hb2.block w.heap.size (by simp)).trans (alloc_new _ _)
    have b0 : w2.cell? ⟨w.heap.size, 0, none⟩ = some (.int .i64 0) := by simp only [World.cell?, hbx]; rfl
    have b1 : w2.cell? ⟨w.heap.size, 1, none⟩ = some (.int .i64 0) := by simp only [World.cell?, hbx]; rfl
    have f0 := cells_frozen hbx 0
    have f1 := cells_frozen hbx 1
    have HB := hide (below_new _ hb2)
    have HX := hide hbx
    clear hb2 hbx HC
    go_wp2_with fail
    refine bodyPost_ret (res_cell_tmp rfl _ _ w.heap.size 25 #[.int .i64 0, .int .i64 0] (0, 0) _ rfl (box_set HX.out 0 0) Try.underlying25 rfl info25) rfl ?_
    exact ⟨rfl, below_set (below_set HB.out (Nat.le_refl _) _ _) (Nat.le_refl _) _ _⟩

theorem rem_nat (k n : Nat) : ((k : Int).tmod (n : Int)) = ((k % n : Nat) : Int) := by
  rw [Int.tmod_eq_emod_of_nonneg (by omega)]; rfl
theorem quo_nat (k n : Nat) : ((k : Int).tdiv (n : Int)) = ((k / n : Nat) : Int) := by
  rw [Int.tdiv_eq_ediv_of_nonneg (by omega)]; rfl

set_option maxHeartbeats 1000000 in
theorem run_ok (a : Option Addr) (b o n cap : Nat) (T : List (Int × Int)) (k : Nat) (p : Int × Int) (w : World) (h : Tab w a b o n T) (hg : Good T) (hk : k ≤ 1099511627776) (hp : T[k % n]? = some p) :
    Calls Try.prog 9 #[.slice a n cap, .int .i64 k] w fun e w' => e = .returned (.tuple #[slt p.1 p.2, .int .i64 0]) ∧ Below w.heap.size w w' := by
  have HC := hide (tick_at a b o n cap T k (w.alloc (boxS 0 0)) (h.alloc _))
  rw [errK_ok hg (by omega)] at HC
  have hn0 : 0 < n := by have := hg.pos; rw [h.len] at this; exact this
  have hmax := h.max
  obtain ⟨rfl, hb⟩ := h.ptr hn0
  obtain ⟨r, hr⟩ : ∃ r, r = k % n := ⟨_, rfl⟩
  have hrn : r < n := by rw [hr]; exact Nat.mod_lt _ hn0
  have hrem : (k : Int).tmod (n : Int) = (r : Int) := by rw [hr]; exact rem_nat k n
  rw [← hr] at hp
  have hnz : ¬ ((n : Int) = 0) := by omega
  have H := hide h
  obtain ⟨x, y⟩ := p
  have HP := hide hp
  clear h hr hg hp
  go_enter Try.func9, Try.ntmps9
  go_wp2_with fail
  refine HC.out.mono ?_
  rintro e w2 ⟨rfl, hb2⟩
  have hbx : w2.heap[w.heap.size]? = some (boxS 0 0) := (hb2.block w.heap.size (by simp)).trans (alloc_new _ _)
  have b0 : w2.cell? ⟨w.heap.size, 0, none⟩ = some (.int .i64 0) := by simp only [World.cell?, hbx]; rfl
  have b1 : w2.cell? ⟨w.heap.size, 1, none⟩ = some (.int .i64 0) := by simp only [World.cell?, hbx]; rfl
  have f0 := cells_frozen hbx 0
  have f1 := cells_frozen hbx 1
  have HB := hide (below_new _ hb2)
  have HX := hide hbx
  obtain ⟨c0, c1⟩ := (H.out.below HB.out).cells r _ HP.out
  simp only at c0 c1
  clear hb2 hbx HC
  go_wp2_with fail
  refine bodyPost_ret (res_cell_tmp rfl _ _ w.heap.size 25 #[.int .i64 x, .int .i64 y] (0, 0) _ rfl (box_set HX.out x y) Try.underlying25 rfl info25) rfl ?_
  exact ⟨rfl, below_set (below_set HB.out (Nat.le_refl _) _ _) (Nat.le_refl _) _ _⟩

set_option maxHeartbeats 1000000 in
theorem rrun_bad (a : Option Addr) (b o n cap : Nat) (T : List (Int × Int)) (k : Int) (c : Int) (w : World) (h : Tab w a b o n T) (hc : errK T k = c) (hc0 : c = 50 ∨ c = 2) :
    Calls Try.prog 10 #[.slice a n cap, .int .i64 k] w fun e w' => e = .returned (.tuple #[slt 0 0, .int .i64 c]) ∧ Below w.heap.size w w' := by
  have HC := hide (rlook_at a b o n cap T k (w.alloc (boxS 0 0)) (h.alloc _))
  rw [hc] at HC
  clear h hc
  rcases hc0 with rfl | rfl
  all_goals
    go_enter Try.func10, Try.ntmps10
    go_wp2_with fail
    refine HC.out.mono ?_
    rintro e w2 ⟨rfl, hb2⟩
    have hbx : w2.heap[w.heap.size]? = some (boxS 0 0) := (hb2.block w.heap.size (by simp)).trans (alloc_new _ _)
    have b0 : w2.cell? ⟨w.heap.size, 0, none⟩ = some (.int .i64 0) := by simp only [World.cell?, hbx]; rfl
    have b1 : w2.cell? ⟨w.heap.size, 1, none⟩ = some (.int .i64 0) := by simp only [World.cell?, hbx]; rfl
    have f0 := cells_frozen hbx 0
    have f1 := cells_frozen hbx 1
    have HB := hide (below_new _ hb2)
    have HX := hide hbx
    clear hb2 hbx HC
    go_wp2_with fail
    refine bodyPost_ret (res_cell_tmp rfl _ _ w.heap.size 25 #[.int .i64 0, .int .i64 0] (0, 0) _ rfl (box_set HX.out 0 0) Try.underlying25 rfl info25) rfl ?_
    exact ⟨rfl, below_set (below_set HB.out (Nat.le_refl _) _ _) (Nat.le_refl _) _ _⟩

set_option maxHeartbeats 1000000 in
theorem rrun_ok (a : Option Addr) (b o n cap : Nat) (T : List (Int × Int)) (k : Nat) (p : Int × Int) (w : World) (h : Tab w a b o n T) (hg : Good T) (hk : k ≤ 1099511627776) (hp : T[k % n]? = some p) :
    Calls Try.prog 10 #[.slice a n cap, .int .i64 k] w fun e w' => e = .returned (.tuple #[slt p.1 p.2, .int .i64 0]) ∧ Below w.heap.size w w' := by
  have HC := hide (rlook_at a b o n cap T k (w.alloc (boxS 0 0)) (h.alloc _))
  rw [errK_ok hg (by omega)] at HC
  have hn0 : 0 < n := by have := hg.pos; rw [h.len] at this; exact this
  have hmax := h.max
  obtain ⟨rfl, hb⟩ := h.ptr hn0
  obtain ⟨r, hr⟩ : ∃ r, r = k % n := ⟨_, rfl⟩
  have hrn : r < n := by rw [hr]; exact Nat.mod_lt _ hn0
  have hrem : (k : Int).tmod (n : Int) = (r : Int) := by rw [hr]; exact rem_nat k n
  rw [← hr] at hp
  have hnz : ¬ ((n : Int) = 0) := by omega
  have H := hide h
  obtain ⟨x, y⟩ := p
  have HP := hide hp
  clear h hr hg hp
  go_enter Try.func10, Try.ntmps10
  go_wp2_with fail
  refine HC.out.mono ?_
  rintro e w2 ⟨rfl, hb2⟩
  have hbx : w2.heap[w.heap.size]? = some (boxS 0 0) := (hb2.block w.heap.size (by simp)).trans (alloc_new _ _)
  have b0 : w2.cell? ⟨w.heap.size, 0, none⟩ = some (.int .i64 0) := by simp only [World.cell?, hbx]; rfl
  have b1 : w2.cell? ⟨w.heap.size, 1, none⟩ = some (.int .i64 0) := by simp only [World.cell?, hbx]; rfl
  have f0 := cells_frozen hbx 0
  have f1 := cells_frozen hbx 1
  have HB := hide (below_new _ hb2)
  have HX := hide hbx
  obtain ⟨c0, c1⟩ := (H.out.below HB.out).cells r _ HP.out
  simp only at c0 c1
  clear hb2 hbx HC
  go_wp2_with fail
  refine bodyPost_ret (res_cell_tmp rfl _ _ w.heap.size 25 #[.int .i64 x, .int .i64 y] (0, 0) _ rfl (box_set HX.out x y) Try.underlying25 rfl info25) rfl ?_
  exact ⟨rfl, below_set (below_set HB.out (Nat.le_refl _) _ _) (Nat.le_refl _) _ _⟩

set_option maxHeartbeats 1000000 in
theorem frame_bad (a : Option Addr) (b o n cap : Nat) (T : List (Int × Int)) (k : Int) (c : Int) (w : World) (h : Tab w a b o n T) (hc : errK T k = c) (hc0 : c = 50 ∨ c = 2) :
    Calls Try.prog 11 #[.slice a n cap, .int .i64 k] w fun e w' => e = .returned (.tuple #[.int .i64 0, .int .i64 c]) ∧ Below w.heap.size w w' := by
  have HC := hide (tick_at a b o n cap T k w h)
  rw [hc] at HC
  clear h hc
  rcases hc0 with rfl | rfl
  all_goals
    go_enter Try.func11, Try.ntmps11
    go_wp2_with fail
    refine HC.out.mono ?_
    rintro e w2 ⟨rfl, hb2⟩
    have HB := hide hb2
    clear hb2 HC
    go_wp2_with fail
    go_ret2
    exact ⟨rfl, HB.out⟩

set_option maxHeartbeats 1000000 in
theorem frame_ok (a : Option Addr) (b o n cap : Nat) (T : List (Int × Int)) (k : Nat) (w : World) (h : Tab w a b o n T) (hg : Good T) (hk : k ≤ 1099511627776) :
    Calls Try.prog 11 #[.slice a n cap, .int .i64 k] w fun e w' => e = .returned (.tuple #[.int .i64 (k / n : Nat), .int .i64 0]) ∧ Below w.heap.size w w' := by
  have HC := hide (tick_at a b o n cap T k w h)
  rw [errK_ok hg (by omega)] at HC
  have hn0 : 0 < n := by have := hg.pos; rw [h.len] at this; exact this
  have hmax := h.max
  have hnz : ¬ ((n : Int) = 0) := by omega
  obtain ⟨r, hr⟩ : ∃ r, r = k / n := ⟨_, rfl⟩
  have hrk : r ≤ k := by rw [hr]; exact Nat.div_le_self _ _
  have hquo : (k : Int).tdiv (n : Int) = (r : Int) := by rw [hr]; exact quo_nat k n
  rw [← hr]
  clear hr
  clear h hg
  go_enter Try.func11, Try.ntmps11
  go_wp2_with fail
  refine HC.out.mono ?_
  rintro e w2 ⟨rfl, hb2⟩
  have HB := hide hb2
  clear hb2 HC
  go_wp2_with fail
  go_ret2
  exact ⟨rfl, HB.out⟩

set_option maxHeartbeats 1000000 in
theorem rframe_bad (a : Option Addr) (b o n cap : Nat) (T : List (Int × Int)) (k : Int) (c : Int) (w : World) (h : Tab w a b o n T) (hc : errK T k = c) (hc0 : c = 50 ∨ c = 2) :
    Calls Try.prog 12 #[.slice a n cap, .int .i64 k] w fun e w' => e = .returned (.tuple #[.int .i64 0, .int .i64 c]) ∧ Below w.heap.size w w' := by
  have HC := hide (rlook_at a b o n cap T k w h)
  rw [hc] at HC
  clear h hc
  rcases hc0 with rfl | rfl
  all_goals
    go_enter Try.func12, Try.ntmps12
    go_wp2_with fail
    refine HC.out.mono ?_
    rintro e w2 ⟨rfl, hb2⟩
    have HB := hide hb2
    clear hb2 HC
    go_wp2_with fail
    go_ret2
    exact ⟨rfl, HB.out⟩

set_option maxHeartbeats 1000000 in
theorem rframe_ok (a : Option Addr) (b o n cap : Nat) (T : List (Int × Int)) (k : Nat) (w : World) (h : Tab w a b o n T) (hg : Good T) (hk : k ≤ 1099511627776) :
    Calls Try.prog 12 #[.slice a n cap, .int .i64 k] w fun e w' => e = .returned (.tuple #[.int .i64 (k / n : Nat), .int .i64 0]) ∧ Below w.heap.size w w' := by
  have HC := hide (rlook_at a b o n cap T k w h)
  rw [errK_ok hg (by omega)] at HC
  have hn0 : 0 < n := by have := hg.pos; rw [h.len] at this; exact this
  have hmax := h.max
  have hnz : ¬ ((n : Int) = 0) := by omega
  obtain ⟨r, hr⟩ : ∃ r, r = k / n := ⟨_, rfl⟩
  have hrk : r ≤ k := by rw [hr]; exact Nat.div_le_self _ _
  have hquo : (k : Int).tdiv (n : Int) = (r : Int) := by rw [hr]; exact quo_nat k n
  rw [← hr]
  clear hr
  clear h hg
  go_enter Try.func12, Try.ntmps12
  go_wp2_with fail
  refine HC.out.mono ?_
  rintro e w2 ⟨rfl, hb2⟩
  have HB := hide hb2
  clear hb2 HC
  go_wp2_with fail
  go_ret2
  exact ⟨rfl, HB.out⟩

set_option maxHeartbeats 1000000 in
theorem bound_bad (a : Option Addr) (b o n cap : Nat) (T : List (Int × Int)) (k : Int) (c : Int) (w : World) (h : Tab w a b o n T) (hc : errK T k = c) (hc0 : c = 50 ∨ c = 2) :
    Calls Try.prog 13 #[.slice a n cap, .int .i64 k] w fun e w' => e = .returned (.tuple #[.bool false, .int .i64 c]) ∧ Below w.heap.size w w' := by
  have HC := hide (tick_at a b o n cap T k w h)
  rw [hc] at HC
  clear h hc
  rcases hc0 with rfl | rfl
  all_goals
    go_enter Try.func13, Try.ntmps13
    go_wp2_with fail
    refine HC.out.mono ?_
    rintro e w2 ⟨rfl, hb2⟩
    have HB := hide hb2
    clear hb2 HC
    go_wp2_with fail
    go_ret2
    exact ⟨rfl, HB.out⟩

set_option maxHeartbeats 1000000 in
theorem bound_ok (a : Option Addr) (b o n cap : Nat) (T : List (Int × Int)) (k : Nat) (w : World) (h : Tab w a b o n T) (hg : Good T) (hk : k ≤ 1099511627776) :
    Calls Try.prog 13 #[.slice a n cap, .int .i64 k] w fun e w' => e = .returned (.tuple #[.bool (decide (k % n = 0)), .int .i64 0]) ∧ Below w.heap.size w w' := by
  have HC := hide (tick_at a b o n cap T k w h)
  rw [errK_ok hg (by omega)] at HC
  have hn0 : 0 < n := by have := hg.pos; rw [h.len] at this; exact this
  have hmax := h.max
  have hnz : ¬ ((n : Int) = 0) := by omega
  obtain ⟨r, hr⟩ : ∃ r, r = k % n := ⟨_, rfl⟩
  have hrn : r < n := by rw [hr]; exact Nat.mod_lt _ hn0
  have hrem : (k : Int).tmod (n : Int) = (r : Int) := by rw [hr]; exact rem_nat k n
  rw [← hr]
  clear hr
  clear h hg
  rcases Nat.eq_zero_or_pos r with h0 | h0
  · subst h0
    go_enter Try.func13, Try.ntmps13
    go_wp2_with fail
    refine HC.out.mono ?_
    rintro e w2 ⟨rfl, hb2⟩
    have HB := hide hb2
    clear hb2 HC
    go_wp2_with fail
    go_ret2
    exact ⟨rfl, HB.out⟩
  · have e1 : ((r : Int) == 0) = false := by simp; omega
    have e2 : decide (r = 0) = false := by simp; omega
    have e3 : ¬ (r = 0) := by omega
    rw [e2]
    go_enter Try.func13, Try.ntmps13
    go_wp2_with fail
    refine HC.out.mono ?_
    rintro e w2 ⟨rfl, hb2⟩
    have HB := hide hb2
    clear hb2 HC
    go_wp2_with fail
    go_ret2
    exact ⟨rfl, HB.out⟩

end Go.Proofs.Ytidalhdhaagpaaa
