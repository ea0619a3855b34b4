/-
  The reference's port is made; conditions as each theorem has them.
-/
import Derived.Test.YtjojhnkibgkleaaYP
import Derived.Test.YtjojhnkibgkleaaW
set_option linter.unusedSimpArgs false
set_option linter.unusedVariables false
set_option maxRecDepth 8000
namespace Go.Proofs.Ytjojhnkibgkleaa
open Go.RowKit Go.Lib

def rCs (Y : Nat → Nat) (k : Nat) : List Value := (List.range k).flatMap fun i => reC (rp Y i) (z 0)
theorem reC_len (p : Value) (x : En) : (reC p x).length = 6 := rfl
theorem rCs_len (Y : Nat → Nat) (k : Nat) : (rCs Y k).length = k * 6 := by
  induction k with
  | zero => rfl
  | succ k ih => unfold rCs at ih ⊢; rw [List.range_succ, List.flatMap_append, List.length_append, ih]; simp [reC_len]; omega
theorem rCs_succ (Y : Nat → Nat) (k yn : Nat) : rCs (fun i => if i = k then yn else Y i) (k + 1) = rCs Y k ++ reC (.pointer (some ⟨yn, 0, none⟩)) (z 0) := by
  unfold rCs
  rw [List.range_succ, List.flatMap_append]
  congr 1
  · rw [List.flatMap_def, List.flatMap_def]
    congr 1
    apply List.map_congr_left
    intro i hi
    rw [List.mem_range] at hi
    simp [rp, show i ≠ k by omega]
  · simp [rp]
theorem rCs_get (Y : Nat → Nat) (k i j : Nat) (hi : i < k) (hj : j < 6) : (rCs Y k)[i * 6 + j]? = (reC (rp Y i) (z 0))[j]? := by
  induction k with
  | zero => omega
  | succ k ih =>
    have e : rCs Y (k + 1) = rCs Y k ++ reC (rp Y k) (z 0) := by unfold rCs; rw [List.range_succ, List.flatMap_append]; simp
    rw [e]
    by_cases h : i < k
    · rw [List.getElem?_append_left (by rw [rCs_len]; omega)]
      exact ih h
    · obtain rfl : i = k := by omega
      rw [List.getElem?_append_right (by rw [rCs_len]; omega), rCs_len, show i * 6 + j - i * 6 = j by omega]
theorem undE : Try.prog.underlying 50 = some (.slice 92) := by kernel_rfl
theorem infE : ∃ i, Try.prog.info? 92 = some i ∧ i.zero = some (.agg zEndC) ∧ i.size = 6 ∧ i.bytes = 32 := info_parts (by kernel_rfl)
/-- The reference's port as New makes it: k of its endpoints so far. -/
structure RHalf (B : Nat) (w : World) (y c sz k : Nat) (v : Value) (Y : Nat → Nat) : Prop where
  head : w.heap[y]? = some (.cells #[.int .i64 c, .int .i64 sz, v, .slice none 0 0, .slice none 0 0] 54)
  hy : B ≤ y
  own : w.ownsRow 0 92 6 v k (rCs Y k)
  ob : ∀ g, v.ownBlock = some g → B ≤ g
  ring : ∀ i, i < k → B ≤ Y i ∧ RR w (Y i) sz [] (.slice none 0 0)
  inj : ∀ i j, i < k → j < k → i ≠ j → Y i ≠ Y j
theorem RHalf.cells {B : Nat} {w : World} {y c sz k : Nat} {v : Value} {Y : Nat → Nat} (h : RHalf B w y c sz k v Y) : w.cell? ⟨y, 1, none⟩ = some (.int .i64 sz) ∧ w.cell? ⟨y, 2, none⟩ = some v ∧ w.frozen? ⟨y, 2, none⟩ = false := by
  have := h.head
  simp [World.cell?, World.frozen?, this]
theorem RHalf.step {B : Nat} {w w1 : World} {y c sz k : Nat} {v : Value} {Y : Nat → Nat} (h : RHalf B w y c sz k v Y) (hB : B ≤ w.heap.size) (hk : k ≤ 128) (b1 : Below w.heap.size w w1) (yn : Nat) (hyn : w.heap.size ≤ yn) (hr : RR w1 yn sz [] (.slice none 0 0)) :
    w1.cell? ⟨y, 2, none⟩ = some v ∧ (w1.alloc (.cells #[.int .i64 0, .int .i64 0, .bool false, .bool false, .bool false, .pointer (some ⟨yn, 0, none⟩)] 92)).cell? ⟨y, 2, none⟩ = some v ∧
    ∃ av cv w3, apOk Try.prog 50 v (.slice (some ⟨w1.heap.size, 0, none⟩) 1 1) (w1.alloc (.cells #[.int .i64 0, .int .i64 0, .bool false, .bool false, .bool false, .pointer (some ⟨yn, 0, none⟩)] 92)) = true ∧
      apV Try.prog 50 v (.slice (some ⟨w1.heap.size, 0, none⟩) 1 1) (w1.alloc (.cells #[.int .i64 0, .int .i64 0, .bool false, .bool false, .bool false, .pointer (some ⟨yn, 0, none⟩)] 92)) = .slice av (k + 1) cv ∧
      apW Try.prog 50 v (.slice (some ⟨w1.heap.size, 0, none⟩) 1 1) (w1.alloc (.cells #[.int .i64 0, .int .i64 0, .bool false, .bool false, .bool false, .pointer (some ⟨yn, 0, none⟩)] 92)) = w3 ∧
      w3.cell? ⟨y, 2, none⟩ = some v ∧ w3.frozen? ⟨y, 2, none⟩ = false ∧ RHalf B (w3.setCell ⟨y, 2, none⟩ (.slice av (k + 1) cv)) y c sz (k + 1) (.slice av (k + 1) cv) (fun i => if i = k then yn else Y i) ∧ Below B w (w3.setCell ⟨y, 2, none⟩ (.slice av (k + 1) cv)) := by
  obtain ⟨c1, c2, f2⟩ := h.cells
  have hyl := lt_of_some h.head
  have b2 : Below w.heap.size w (w1.alloc (.cells #[.int .i64 0, .int .i64 0, .bool false, .bool false, .bool false, .pointer (some ⟨yn, 0, none⟩)] 92)) := b1.alloc b1.size _
  have hown : (w1.alloc (.cells #[.int .i64 0, .int .i64 0, .bool false, .bool false, .bool false, .pointer (some ⟨yn, 0, none⟩)] 92)).ownsRow 0 92 6 v k (rCs Y k) := own_keep h.own (fun g hg => by
    obtain ⟨cur, hc⟩ := own_block h.own hg
    exact b2.block g (lt_of_some hc))
  obtain ⟨v', w3, hrun, ho3, hg3, hn3⟩ := app_gen 50 92 _ 6 32 undE infE rfl (by omega) hown ⟨w1.heap.size, 0, none⟩ 1 1 (reC (.pointer (some ⟨yn, 0, none⟩)) (z 0)) rfl (fun j u hu => by
    rw [add_none, Nat.zero_add, show (w1.alloc (.cells #[.int .i64 0, .int .i64 0, .bool false, .bool false, .bool false, .pointer (some ⟨yn, 0, none⟩)] 92)).cell? ⟨w1.heap.size, j, none⟩ = _ from World.cell?_alloc_new w1 _ _ j]
    simpa [reC, z] using hu) (by
      intro u hu
      simp only [reC, z, List.mem_cons, List.mem_nil_iff, or_false] at hu
      rcases hu with rfl | rfl | rfl | rfl | rfl | rfl <;> rfl) (by unfold maxLen; omega) (by omega) (by omega)
  obtain ⟨av, cv, rfl⟩ := own_shape ho3
  obtain ⟨q1, q2, q3⟩ := ap_of hrun
  rw [← rCs_succ] at ho3
  have tn : ∀ x cs t f, w.heap[x]? = some (Obj.cells cs t f) → t ≠ 92 → w3.heap[x]? = w.heap[x]? := fun x cs t f hx ht => by
    rw [hg3.block x (Nat.lt_of_lt_of_le (lt_of_some hx) b2.size) (fun e => by
      obtain ⟨cur, hc⟩ := own_block h.own e.symm
      rw [hx] at hc
      simp at hc
      exact ht hc.2.1), b2.block x (lt_of_some hx)]
  have hy3 : w3.heap[y]? = w.heap[y]? := tn y _ _ _ h.head (by decide)
  have hys := setHead (hy3.trans h.head) 2 (.slice av (k + 1) cv) (D := #[.int .i64 c, .int .i64 sz, .slice av (k + 1) cv, .slice none 0 0, .slice none 0 0]) rfl
  have nb : ∀ x cs t f, w3.heap[x]? = some (Obj.cells cs t f) → t ≠ 54 → (w3.setCell ⟨y, 2, none⟩ (.slice av (k + 1) cv)).heap[x]? = w3.heap[x]? := fun x cs t f hx ht => Below.heap_setCell _ _ _ _ (ty_ne hx (hy3.trans h.head) ht)
  have hrn : RR (w3.setCell ⟨y, 2, none⟩ (.slice av (k + 1) cv)) yn sz [] (.slice none 0 0) := by
    obtain ⟨cn, en⟩ := hr.head
    have e2 : (w1.alloc (.cells #[.int .i64 0, .int .i64 0, .bool false, .bool false, .bool false, .pointer (some ⟨yn, 0, none⟩)] 92)).heap[yn]? = some (.cells cn 108) := alloc_old _ en
    have e3 : w3.heap[yn]? = w1.heap[yn]? := by
      rw [hg3.block yn (lt_of_some e2) (fun e => by
        obtain ⟨cur, hc⟩ := own_block hown e.symm
        rw [e2] at hc
        simp at hc), Below.heap_alloc _ _ _ (lt_of_some en)]
    exact hr.keep ((nb yn _ _ _ (e3.trans en) (by decide)).trans e3) (fun g hg => by cases hg)
  refine ⟨(b1.cell (p := ⟨y, 2, none⟩) hyl).trans c2, (b2.cell (p := ⟨y, 2, none⟩) hyl).trans c2, av, cv, w3, q1, q2, q3, by rw [World.cell?_of_block hy3, c2], by rw [World.frozen?_of_block hy3]; exact f2, ⟨hys, h.hy, own_keep ho3 (fun g hg => ?_), fun g hg => ?_, fun i hi => ?_, fun i j hi hj hij => ?_⟩, ?_⟩
  · obtain ⟨cur, hc⟩ := own_block ho3 hg
    exact nb g _ _ _ hc (by decide)
  · rcases hn3 g hg with h1 | h1
    · exact h.ob g h1
    · have := b2.size; omega
  · by_cases e : i = k
    · simp only [e, if_true]
      exact ⟨by omega, hrn⟩
    · simp only [e, if_false]
      obtain ⟨r1, r2⟩ := h.ring i (by omega)
      obtain ⟨ci, ei⟩ := r2.head
      have e3 := tn _ _ _ _ ei (by decide)
      exact ⟨r1, r2.keep ((nb _ _ _ _ (e3.trans ei) (by decide)).trans e3) (fun g hg => by cases hg)⟩
  · have yl : ∀ a, a < k → Y a < w.heap.size := fun a ha => by
      obtain ⟨r1, r2⟩ := h.ring a ha
      obtain ⟨ci, ei⟩ := r2.head
      exact lt_of_some ei
    by_cases e : i = k
    · have e2 : ¬ j = k := fun e2 => hij (e.trans e2.symm)
      simp only [e, if_true, e2, if_false]
      have := yl j (by omega)
      omega
    · by_cases e2 : j = k
      · simp only [e, if_false, e2, if_true]
        have := yl i (by omega)
        omega
      · simp only [e, if_false, e2]
        exact h.inj i j (by omega) (by omega) hij
  · have b3 : Below B w w3 := ⟨hg3.os.trans b2.os, hg3.tape.trans b2.tape, hg3.output.trans b2.output, Nat.le_trans b2.size hg3.size, fun x hx => by
      rw [hg3.block x (by have := b2.size; omega) (fun e => by
        have := h.ob x e.symm
        omega), b2.block x (by omega)]⟩
    exact b3.setCell h.hy _
theorem RHalf.done {B : Nat} {w : World} {y c s sz : Nat} {v : Value} {Y : Nat → Nat} (h : RHalf B w y c sz (c + s) v Y) (hc : c ≤ 64) (hs : s ≤ 64) (h1 : 1 ≤ sz) (h2 : sz ≤ 65536) : RPort w (fun k => B ≤ k ∧ k < w.heap.size) y (newP c s sz) := by
  have hl : (newP c s sz).L.length = c + s := newP_len c s sz
  have hbl : ∀ x cs t f, w.heap[x]? = some (Obj.cells cs t f) → x < w.heap.size := fun x cs t f hx => lt_of_some hx
  obtain ⟨a, cp, rfl⟩ := own_shape h.own
  refine ⟨a.elim 0 Addr.block, cp, a, .slice none 0 0, .slice none 0 0, Y, fun _ => .slice none 0 0, fun _ => 0, ⟨by rw [hl]; exact h.head, ?_, fun h0 => ?_, fun i hi => ?_, fun i j hi hj hij => ⟨h.inj i j (by omega) (by omega) hij, fun g hg => by cases hg⟩, ⟨⟨none, 0, 0, 0, rfl, Nat.le_refl _, Nat.zero_le _, fun h => by omega⟩, fun j hj => by simp [newP] at hj⟩, fun i j _ hj => by simp [newP] at hj, ⟨rfl, Or.inl ⟨rfl, rfl⟩⟩, newP_ok hc hs h1 h2, fun k hk => hk.2, ⟨h.hy, lt_of_some h.head⟩, fun i hi => ?_, fun g hg => by cases hg⟩⟩
  · rcases h.own.2 with ⟨e, e0⟩ | ⟨x, cap, cur, e, _, _, q1, q2, _⟩
    · simp at e; rw [hl]; unfold maxLen; omega
    · simp at e; rw [hl]; omega
  · rcases h.own.2 with ⟨e, e0⟩ | ⟨x, cap, cur, e, _, hh, q1, q2, q3, q4⟩
    · simp at e; rw [hl] at h0; omega
    · simp at e
      obtain ⟨rfl, _, rfl⟩ := e
      refine ⟨rfl, ⟨cur.toList, by simpa using hh, by rw [hl]; simp; omega, fun i hi j hj => ?_⟩, ⟨h.ob _ rfl, lt_of_some hh⟩⟩
      rw [hl] at hi
      rw [newP_at, ← rCs_get Y (c + s) i j hi hj, ← q4, List.getElem?_take, if_pos (by omega)]
  · rw [hl] at hi
    rw [newP_at]
    exact (h.ring i hi).2
  · rw [hl] at hi
    obtain ⟨r1, r2⟩ := h.ring i hi
    obtain ⟨ci, ei⟩ := r2.head
    exact ⟨⟨r1, lt_of_some ei⟩, fun g hg => by cases hg⟩
attribute [local go_sem ↓] run_apE Go.wp_at_zero Go.wp_at_succ
set_option maxRecDepth 100000 in
set_option maxHeartbeats 1000000 in
theorem rnew_at (c s n : Nat) (w : World) (hc : c ≤ 64) (hs : s ≤ 64) (h1 : 1 ≤ n) (h2 : n ≤ 65536) :
    Calls Try.prog 10 #[.int .i64 c, .int .i64 s, .int .i64 n] w fun e w' => ∃ y, e = .returned (.tuple #[.pointer (some ⟨y, 0, none⟩), .int .i64 0]) ∧ RPort w' (fun k => w.heap.size ≤ k ∧ k < w'.heap.size) y (newP c s n) ∧ Below w.heap.size w w' := by
  obtain ⟨N, hN⟩ : ∃ N, N = c + s := ⟨_, rfl⟩
  have hNN : (c : Int) + (s : Int) = (N : Int) := by omega
  have hN8 : N ≤ 128 := by omega
  have HNN := hide hN
  have HC := hide hc
  have HS := hide hs
  have H12 := hide (And.intro h1 h2)
  have n1 : decide ((c : Int) < 0) = false := by simp
  have n2 : decide ((c : Int) > 64) = false := by simp; omega
  have n3 : decide ((s : Int) < 0) = false := by simp
  have n4 : decide ((s : Int) > 64) = false := by simp; omega
  have n5 : decide ((n : Int) < 1) = false := by simp; omega
  have n6 : decide ((n : Int) > 65536) = false := by simp; omega
  clear hN
  go_enter Try.func10, Try.ntmps10
  go_wp2_with fail
  have HH : Hid (RHalf w.heap.size (w.alloc (.cells #[.int .i64 c, .int .i64 n, .slice none 0 0, .slice none 0 0, .slice none 0 0] 54)) w.heap.size c n 0 (.slice none 0 0) (fun _ => 0)) :=
    ⟨alloc_new _ _, Nat.le_refl _, ⟨rfl, Or.inl ⟨rfl, rfl⟩⟩, (fun g hg => by cases hg), (fun i hi => by omega), (fun i j hi hj => by omega)⟩
  have HB : Hid (Below w.heap.size w (w.alloc (.cells #[.int .i64 c, .int .i64 n, .slice none 0 0, .slice none 0 0, .slice none 0 0] 54))) := (Below.refl _ _).alloc (Nat.le_refl _) _
  go_loopw [9] (fun i wr => ∃ (k : Nat) (v : Value) (Y : Nat → Nat), k ≤ N ∧ i = .int .i64 k ∧ Hid (RHalf w.heap.size wr w.heap.size c n k v Y) ∧ Hid (Below w.heap.size w wr)) (fun i _ => N - (Go.RowKit.intOf i).toNat)
  case atStart => exact ⟨0, _, _, Nat.zero_le _, rfl, HH, HB⟩
  case round =>
    obtain ⟨k, v, Y, hk, rfl, HJ, HBJ⟩ := hrel
    obtain ⟨c1, c2, f2⟩ := HJ.out.cells
    have hBs := HBJ.out.size
    by_cases hlt : k < N
    · have HST := hide (fun w1 b1 yn hyn hr => HJ.out.step hBs (by omega) (w1 := w1) b1 yn hyn hr)
      go_wp2_with fail
      go_region_with (go_at_call 40; refine (fresh_w w.heap.size n 0 _ ?_ H12.out.2).mono ?_; exact c1; rintro x w1 ⟨yn, rfl, hyn, hr, b1⟩; obtain ⟨d2, d2', av, cv, w3, q1, q2, q3, q4, q5, q6, q7⟩ := HST.out w1 ((Below.refl _ _).drew.trans b1) yn hyn hr; have HQ6 := hide q6; have HQ7 := hide q7; clear hyn hr b1 q6 q7)
      all_goals
        go_wp2_with fail
        go_roundw
        case rel => exact ⟨k + 1, _, _, by omega, by go_num, HQ6.out, HBJ.out.trans HQ7.out⟩
        case measure => simp [Go.RowKit.intOf]; omega
    · have hkN : k = N := by omega
      have HD : Hid (RPort wr (fun k => w.heap.size ≤ k ∧ k < wr.heap.size) w.heap.size (newP c s n)) := RHalf.done (by rw [← HNN.out, ← hkN]; exact HJ.out) HC.out HS.out H12.out.1 H12.out.2
      go_wp2_with fail
      go_ret2
      exact ⟨_, rfl, HD.out, HBJ.out⟩

end Go.Proofs.Ytjojhnkibgkleaa
