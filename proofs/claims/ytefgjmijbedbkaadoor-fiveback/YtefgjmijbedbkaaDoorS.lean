/-
  The reader of package five: stop, take, next, version, zero, count, counted; conditions as each theorem has them.
-/
import Derived.Test.YtefgjmijbedbkaaDoorR
set_option linter.unusedSimpArgs false
set_option linter.unusedVariables false
namespace Go.Proofs.YtefgjmijbedbkaaDoor
open Go.RowKit

/-- The block g is a reader of the bytes b that stands so. -/
structure Rdr (w : World) (g : Nat) (a : Option Addr) (n c : Nat) (b : List Nat) (s : Sr) : Prop where
  row : ∃ v, Row w g 74 [.slice a n c, .int .i64 (s.1 : Nat), v] ∧ IsF w s.2 v
  src : Src w a n c b
  off : Off a n g
  le : s.1 ≤ n
theorem IsF.kept {w w' : World} {e : Er} {v : Value} {g : Nat} {C : List Value} (h : IsF w e v) (hr : Row w g 74 C) (k : Kept g g w w') : IsF w' e v :=
  h.keep fun b C' hb => by
    have : b ≠ g := fun e => by subst e; unfold Row at hr; rw [hb] at hr; simp at hr
    exact k.block b (lt_of_some hb) this this
theorem IsEr.kept {w w' : World} {e : Er} {v : Value} {g : Nat} {C : List Value} (h : IsEr w e v) (hr : Row w g 74 C) (k : Kept g g w w') : IsEr w' e v := by
  have ne : ∀ (b : Nat) (C' : Array Value), w.heap[b]? = some (.cells C' 102) → w'.heap[b]? = w.heap[b]? := fun b C' hb => by
    have : b ≠ g := fun e => by subst e; unfold Row at hr; rw [hb] at hr; simp at hr
    exact k.block b (lt_of_some hb) this this
  cases e with
  | ok => exact h
  | one a c => obtain ⟨b, hv, hb⟩ := h; exact ⟨b, hv, (ne b _ hb).trans hb⟩
  | two a a2 c => obtain ⟨b, b2, hv, hb, hb2⟩ := h; exact ⟨b, b2, hv, (ne b _ hb).trans hb, (ne b2 _ hb2).trans hb2⟩
theorem Rdr.below {w w' : World} {g : Nat} {a : Option Addr} {n c : Nat} {b : List Nat} {s : Sr} (h : Rdr w g a n c b s) (k : Below w.heap.size w w') : Rdr w' g a n c b s := by
  obtain ⟨⟨v, h1, h2⟩, h3, h4, h5⟩ := h
  exact ⟨⟨v, h1.keep (k.block g h1.lt), h2.below k⟩, h3.below k, h4, h5⟩
theorem Rdr.lt {w : World} {g : Nat} {a : Option Addr} {n c : Nat} {b : List Nat} {s : Sr} (h : Rdr w g a n c b s) : g < w.heap.size := by obtain ⟨⟨v, h1, h2⟩, _⟩ := h; exact h1.lt
theorem Rdr.new (w : World) {a : Option Addr} {n c : Nat} {b : List Nat} (h : Src w a n c b) : Rdr (w.alloc (.cells #[.slice a n c, .int .i64 0, .nilIface] 74)) w.heap.size a n c b (0, .ok) :=
  ⟨⟨.nilIface, Row.new w #[.slice a n c, .int .i64 0, .nilIface] 74, rfl⟩, h.below ((Below.refl _ _).alloc (Nat.le_refl _) _), h.off (Nat.le_refl _), Nat.zero_le _⟩
theorem Kept.drew {r g : Nat} {a b : World} (h : Kept r g a b) : Kept r g a b.drew := ⟨h.os, h.tape, h.output, h.size, h.block⟩
theorem Kept.of_drew {r g : Nat} {a b : World} (h : Kept r g a.drew b) : Kept r g a b := ⟨h.os, h.tape, h.output, h.size, h.block⟩
theorem Src.drew {w : World} {a : Option Addr} {n c : Nat} {b : List Nat} (h : Src w a n c b) : Src w.drew a n c b := h.keep (fun _ _ _ _ => rfl) (Nat.le_refl _)
theorem Rdr.drew {w : World} {g : Nat} {a : Option Addr} {n c : Nat} {b : List Nat} {s : Sr} (h : Rdr w g a n c b s) : Rdr w.drew g a n c b s := by
  obtain ⟨⟨v, h1, h2⟩, h3, h4, h5⟩ := h
  exact ⟨⟨v, h1, h2.keep fun _ _ _ => rfl⟩, h3.drew, h4, h5⟩
/-- A fault is set. -/
theorem Rdr.fault {w : World} {g : Nat} {a : Option Addr} {n c : Nat} {b : List Nat} {s : Sr} (h : Rdr w g a n c b s) (C : Array Value) (e : Er)
    (he : ∀ W : World, W.heap[w.heap.size]? = some (.cells C 102) → (∀ (b : Nat) (C : Array Value), w.heap[b]? = some (.cells C 102) → W.heap[b]? = w.heap[b]?) → IsF W e (.iface 99 (.pointer (some ⟨w.heap.size, 0, none⟩)))) :
    Rdr ((w.setCell ⟨g, 2, none⟩ (.iface 99 (.pointer (some ⟨w.heap.size, 0, none⟩)))).alloc (.cells C 102)) g a n c b (s.1, e) ∧ Kept g g w ((w.setCell ⟨g, 2, none⟩ (.iface 99 (.pointer (some ⟨w.heap.size, 0, none⟩)))).alloc (.cells C 102)) := by
  obtain ⟨⟨v, h1, h2⟩, h3, h4, h5⟩ := h
  have r1 := h1.set 2 (.iface 99 (.pointer (some ⟨w.heap.size, 0, none⟩)))
  have r2 := r1.alloc (.cells C 102)
  have k1 : Kept g g w (w.setCell ⟨g, 2, none⟩ (.iface 99 (.pointer (some ⟨w.heap.size, 0, none⟩)))) := (Kept.refl g g _).set 2 _
  have k2 := k1.alloc (.cells C 102)
  have hn : ((w.setCell ⟨g, 2, none⟩ (.iface 99 (.pointer (some ⟨w.heap.size, 0, none⟩)))).alloc (.cells C 102)).heap[w.heap.size]? = some (.cells C 102) := by
    have := alloc_new (w.setCell ⟨g, 2, none⟩ (.iface 99 (.pointer (some ⟨w.heap.size, 0, none⟩)))) (.cells C 102)
    rwa [show (w.setCell ⟨g, 2, none⟩ (.iface 99 (.pointer (some ⟨w.heap.size, 0, none⟩)))).heap.size = w.heap.size by simp [World.setCell]] at this
  refine ⟨⟨⟨_, by simpa using r2, he _ hn fun b C' hb => ?_⟩, h3.kept k2 h4, h4, h5⟩, k2⟩
  have : b ≠ g := fun e => by subst e; unfold Row at h1; rw [hb] at h1; simp at h1
  exact k2.block b (lt_of_some hb) this this

set_option maxHeartbeats 1000000 in
theorem stop_at (g : Nat) (a : Option Addr) (n c : Nat) (b : List Nat) (s : Sr) (p k : Nat) (w : World) (h : Rdr w g a n c b s) :
    Calls Tryd.prog 58 #[.pointer (some ⟨g, 0, none⟩), .int .i64 p, .iface 31 (.int .i64 k)] w fun e w' => e = .returned (.tuple #[]) ∧ Rdr w' g a n c b (stS b p k s) ∧ Kept g g w w' := by
  have H := hide h
  obtain ⟨⟨v, h1, h2⟩, h3, h4, h5⟩ := h
  have hg := h1.lt
  have c0 : w.cell? ⟨g, 0, none⟩ = some (.slice a n c) := h1.cell 0
  have c2 : w.cell? ⟨g, 2, none⟩ = some v := h1.cell 2
  have f2 := h1.frozen 2
  have hne : g ≠ w.heap.size := by omega
  have HN : Hid (b.length = n) := h3.hlen
  have hcm := h3.hmax
  have hcl := h3.hcap
  unfold maxLen at hcm
  by_cases hok : s.2 = .ok
  · obtain rfl := h2.nil hok
    have HS : Hid (stS b p k s = (s.1, .one (if k = 6 then b.length else p) k)) := by show _ = _; unfold stS; rw [if_pos hok]
    rw [HS.out]
    clear h1 h2 h3 h4 h5 hok HS
    by_cases h6 : k = 6
    · have HF := hide (H.out.fault #[.string ⟨#[102, 105, 118, 101]⟩, .int .i64 n, .iface 31 (.int .i64 k)] (.one n k) fun W h _ => ⟨_, rfl, h⟩)
      rw [if_pos h6, HN.out]
      have H6 : Hid (true = decide (k = 6)) := by simp [h6, Hid]
      clear h6
      go_enter Tryd.func58, Tryd.ntmps58
      go_wp2_with fail
      refine (eis_num k true H6.out _).mono ?_
      rintro e w1 ⟨rfl, rfl⟩
      go_wp2_with fail
      go_end0
      exact ⟨rfl, HF.out⟩
    · have HF := hide (H.out.fault #[.string ⟨#[102, 105, 118, 101]⟩, .int .i64 p, .iface 31 (.int .i64 k)] (.one p k) fun W h _ => ⟨_, rfl, h⟩)
      rw [if_neg h6]
      have H6 : Hid (false = decide (k = 6)) := by simp [h6, Hid]
      clear h6
      go_enter Tryd.func58, Tryd.ntmps58
      go_wp2_with fail
      refine (eis_num k false H6.out _).mono ?_
      rintro e w1 ⟨rfl, rfl⟩
      go_wp2_with fail
      go_end0
      exact ⟨rfl, HF.out⟩
  · obtain ⟨x, rfl⟩ := h2.ptr hok
    rw [stS_bad hok]
    clear h1 h2 h3 h4 h5 hok
    go_enter Tryd.func58, Tryd.ntmps58
    go_wp2_with fail
    refine bodyPost_ret (results_none rfl _ _ _) rfl ⟨rfl, H.out, Kept.refl _ _ _⟩
set_option maxHeartbeats 1000000 in
theorem stop_name (g : Nat) (a : Option Addr) (n c : Nat) (b : List Nat) (s : Sr) (p q k : Nat) (u : Value) (w : World) (h : Rdr w g a n c b s) (hok : s.2 = .ok) (hu : IsEr w (.one q k) u) (h6 : k ≠ 6) :
    Calls Tryd.prog 58 #[.pointer (some ⟨g, 0, none⟩), .int .i64 p, u] w fun e w' => e = .returned (.tuple #[]) ∧ Rdr w' g a n c b (s.1, .two p q k) ∧ Kept g g w w' := by
  have H := hide h
  obtain ⟨⟨v, h1, h2⟩, h3, h4, h5⟩ := h
  have hg := h1.lt
  have c0 : w.cell? ⟨g, 0, none⟩ = some (.slice a n c) := h1.cell 0
  have c2 : w.cell? ⟨g, 2, none⟩ = some v := h1.cell 2
  have f2 := h1.frozen 2
  have hne : g ≠ w.heap.size := by omega
  obtain rfl := h2.nil hok
  obtain ⟨b2, rfl, hb2⟩ := hu
  have HF := hide (H.out.fault #[.string ⟨#[102, 105, 118, 101]⟩, .int .i64 p, .iface 99 (.pointer (some ⟨b2, 0, none⟩))] (.two p q k) fun W h k => ⟨_, b2, rfl, h, (k b2 _ hb2).trans hb2⟩)
  have HE := hide (eis_flt ⟨#[104, 111, 115, 116]⟩ q k b2 w hb2 h6)
  clear h1 h2 h3 h4 h5 hok hb2 h6
  go_enter Tryd.func58, Tryd.ntmps58
  go_wp2_with fail
  refine HE.out.mono ?_
  rintro e w1 ⟨rfl, rfl⟩
  go_wp2_with fail
  go_end0
  exact ⟨rfl, HF.out⟩

theorem und22 : Tryd.prog.underlying 22 = some (.slice (Tryd.prog.elem 22)) := by kernel_rfl
theorem size22 (w : World) : (sizeOf (Tryd.prog.elem 22)).run Tryd.prog w = .ok 1 w := by kernel_rfl
theorem pc_length {b : List Nat} {k m : Nat} (h : k + m ≤ b.length) : (pc b k m).length = m := by unfold pc; rw [List.length_take, List.length_drop]; omega
theorem pc_getD {b : List Nat} {k m i : Nat} (hi : i < m) : (pc b k m).getD i 0 = b.getD (k + i) 0 := by
  unfold pc
  rw [List.getD, List.getD, List.getElem?_take, if_pos hi, List.getElem?_drop]
/-- 'b[k : k + m]' of a slice of bytes. -/
theorem run_cut (w : World) (a : Option Addr) (n c : Nat) (b : List Nat) (h : Src w a n c b) (k m : Nat) (hk : k + m ≤ n) : ∃ x : Option Addr,
    (∀ w, (Instr.sliceAt 22 (.slice a n c) (some (.int .i64 k)) (some (.int .i64 ((k : Int) + m))) none).run Tryd.prog w = .ok (.slice x m (c - k)) w) ∧
    (∀ w, (Instr.slice 22 (.slice a n c) (some (.int .i64 k)) (some (.int .i64 ((k : Int) + m))) none).run Tryd.prog w = .ok (.slice x m (c - k)) w) ∧ Src w x m (c - k) (pc b k m) ∧ ∀ g, Off a n g → Off x m g := by
  have hc := h.hcap
  have hmx := h.hmax
  have hl := h.hlen
  have key : ∀ w, (Instr.slice 22 (.slice a n c) (some (.int .i64 k)) (some (.int .i64 ((k : Int) + m))) none).run Tryd.prog w = .ok (sliced a k (k + m) c 1) w := fun w => by
    rw [run_slice_lh w 22 _ n c und22 .i64 .i64 k ((k : Int) + m) (by omega) (by omega) (by omega), size22]
    simp [Result.andThen, show ((k : Int) + m).toNat = k + m by omega]
  refine ⟨if c = k then a else a.map (·.add (k * 1)), fun w => ?_, fun w => ?_, ⟨pc_length (by omega), by omega, by omega, fun e => ?_, fun h0 => ?_, fun x hx => h.byte x (List.mem_of_mem_drop (List.mem_of_mem_take hx))⟩, fun g ho h0 => ?_⟩
  · rw [run_sliceAt_slice w 22 _ _ _ _ und22, key, sliced, show k + m - k = m by omega]
  · rw [key, sliced, show k + m - k = m by omega]
  · cases a with
    | none => have := h.nil rfl; omega
    | some x => split at e <;> simp at e
  · obtain ⟨x, o, rfl, hx, hcell⟩ := h.lies (by omega)
    rw [if_neg (by omega)]
    refine ⟨x, o + k, by rw [Option.map_some, add_none, Nat.mul_one], hx, fun i hi => ?_⟩
    rw [pc_getD hi, Nat.add_assoc]
    exact hcell (k + i) (by omega)
  · intro x o e
    rw [if_neg (by omega)] at e
    obtain ⟨x', o', rfl, _⟩ := h.lies (by omega)
    rw [Option.map_some, add_none] at e
    simp at e
    have := ho (by omega) x' o' rfl
    omega

set_option maxHeartbeats 1000000 in
theorem take_at (g : Nat) (a : Option Addr) (n c : Nat) (b : List Nat) (s : Sr) (m : Nat) (w : World) (h : Rdr w g a n c b s) (hm : m ≤ 255) :
    Calls Tryd.prog 59 #[.pointer (some ⟨g, 0, none⟩), .int .i64 m] w fun e w' => ∃ x l y, e = .returned (.slice x l y) ∧ Rdr w' g a n c b (tkS b m s) ∧ Kept g g w w' ∧ ((tkS b m s).2 = .ok → l = m ∧ Src w' x m y (pc b s.1 m) ∧ Off x m g) := by
  have H := hide h
  obtain ⟨⟨v, h1, h2⟩, h3, h4, h5⟩ := h
  have hg := h1.lt
  have c0 : w.cell? ⟨g, 0, none⟩ = some (.slice a n c) := h1.cell 0
  have c1 : w.cell? ⟨g, 1, none⟩ = some (.int .i64 (s.1 : Nat)) := h1.cell 1
  have c2 : w.cell? ⟨g, 2, none⟩ = some v := h1.cell 2
  have f1 := h1.frozen 1
  have hlen := h3.hlen
  have hcm := h3.hmax
  have hcl := h3.hcap
  unfold maxLen at hcm
  obtain ⟨k, er⟩ := s
  simp only at h2 h5 c1 ⊢
  by_cases hok : er = .ok
  · subst hok
    obtain rfl := h2.nil rfl
    by_cases hfit : k + m ≤ n
    · have hd : decide ((n : Int) - k < m) = false := decide_eq_false (by omega)
      have et : tkS b m (k, .ok) = (k + m, .ok) := by unfold tkS; rw [if_pos rfl, if_pos (by show k + m ≤ _; omega)]
      obtain ⟨x, q1, q2, q3, q4⟩ := run_cut w a n c b h3 k m hfit
      have ei : (k : Int) + m = ((k + m : Nat) : Int) := by omega
      have kp : Kept g g w (w.setCell ⟨g, 1, none⟩ (.int .i64 ((k : Int) + m))) := (Kept.refl g g _).set 1 _
      have r2 := h1.set 1 (.int .i64 ((k : Int) + m))
      have HR : Hid (Rdr (w.setCell ⟨g, 1, none⟩ (.int .i64 ((k : Int) + m))) g a n c b (k + m, .ok)) := ⟨⟨.nilIface, by simpa using r2, rfl⟩, h3.kept kp h4, h4, hfit⟩
      have HP : Hid (Src (w.setCell ⟨g, 1, none⟩ (.int .i64 ((k : Int) + m))) x m (c - k) (pc b k m) ∧ Off x m g) := ⟨q3.kept kp (q4 g h4), q4 g h4⟩
      have KP := hide kp
      rw [et]
      obtain ⟨y, hy⟩ : ∃ y, y = c - k := ⟨_, rfl⟩
      rw [← hy] at q1 q2 HP
      clear h1 h2 h3 h4 et q3 q4 kp r2 hy ei
      go_enter Tryd.func59, Tryd.ntmps59
      go_wp2_with fail
      go_region
      go_wp2_with fail
      go_region
      go_wp2_with fail
      go_ret
      exact ⟨x, m, y, rfl, HR.out.drew.drew, KP.out.drew.drew, fun _ => ⟨rfl, HP.out.1.drew.drew, HP.out.2⟩⟩
    · have hd : decide ((n : Int) - k < m) = true := decide_eq_true (by omega)
      have et : tkS b m (k, .ok) = (k, sh b) := by unfold tkS; rw [if_pos rfl, if_neg (by show ¬ k + m ≤ _; omega)]
      have es : stS b k 6 (k, .ok) = (k, sh b) := by unfold stS; rw [if_pos rfl, if_pos rfl]; rfl
      rw [et]
      have HS := hide (stop_at g a n c b (k, .ok) k 6 w.drew H.out.drew)
      rw [es] at HS
      clear h1 h2 h3 h4 et es
      go_enter Tryd.func59, Tryd.ntmps59
      go_wp2_with fail
      go_region
      go_wp2_with fail
      refine HS.out.mono ?_
      rintro e w1 ⟨rfl, r1, k1⟩
      have R1 := hide r1
      have K1 := hide k1
      obtain ⟨⟨v1, p1, p2⟩, _⟩ := r1
      obtain ⟨x1, rfl⟩ := p2.ptr (sh_ne b)
      have d2 : w1.cell? ⟨g, 2, none⟩ = some (.iface 99 (.pointer (some ⟨x1, 0, none⟩))) := p1.cell 2
      clear p1 p2 k1 c0 c1 c2 f1
      go_wp2_with fail
      go_ret
      exact ⟨none, 0, 0, rfl, R1.out, K1.out.of_drew, fun e => absurd e (sh_ne b)⟩
  · obtain ⟨x, rfl⟩ := h2.ptr hok
    have et : tkS b m (k, er) = (k, er) := tkS_bad hok
    have es : stS b k 6 (k, er) = (k, er) := stS_bad hok
    rw [et]
    have HS := hide (stop_at g a n c b (k, er) k 6 w.drew H.out.drew)
    rw [es] at HS
    have HOK := hide hok
    clear h1 h2 h3 h4 et es hok
    by_cases hfit : (n : Int) - k < m
    · have hd : decide ((n : Int) - k < m) = true := decide_eq_true hfit
      go_enter Tryd.func59, Tryd.ntmps59
      go_wp2_with fail
      go_region
      go_wp2_with fail
      refine HS.out.mono ?_
      rintro e w1 ⟨rfl, r1, k1⟩
      have R1 := hide r1
      have K1 := hide k1
      obtain ⟨⟨v1, p1, p2⟩, _⟩ := r1
      obtain ⟨x1, rfl⟩ := p2.ptr HOK.out
      have d2 : w1.cell? ⟨g, 2, none⟩ = some (.iface 99 (.pointer (some ⟨x1, 0, none⟩))) := p1.cell 2
      clear p1 p2 k1 c0 c1 c2 f1
      go_wp2_with fail
      go_ret
      exact ⟨none, 0, 0, rfl, R1.out, K1.out.of_drew, fun e => absurd e HOK.out⟩
    · have hd : decide ((n : Int) - k < m) = false := decide_eq_false hfit
      go_enter Tryd.func59, Tryd.ntmps59
      go_wp2_with fail
      go_region
      go_wp2_with fail
      go_ret
      exact ⟨none, 0, 0, rfl, H.out.drew, (Kept.refl _ _ _).drew, fun e => absurd e HOK.out⟩

set_option maxHeartbeats 1000000 in
theorem next_at (g : Nat) (a : Option Addr) (n c : Nat) (b : List Nat) (s : Sr) (w : World) (h : Rdr w g a n c b s) :
    Calls Tryd.prog 57 #[.pointer (some ⟨g, 0, none⟩)] w fun e w' => e = .returned (.int .u8 (nxV b s : Nat)) ∧ Rdr w' g a n c b (tkS b 1 s) ∧ Kept g g w w' := by
  have HT := hide (take_at g a n c b s 1 w h (by omega))
  have hle := h.le
  have hln := h.src.hlen
  clear h
  go_enter Tryd.func57, Tryd.ntmps57
  go_wp2_with fail
  refine HT.out.mono ?_
  rintro e w1 ⟨x, l, y, rfl, r1, k1, p1⟩
  have R1 := hide r1
  have K1 := hide k1
  obtain ⟨⟨v1, q1, q2⟩, _⟩ := r1
  have d2 : w1.cell? ⟨g, 2, none⟩ = some v1 := q1.cell 2
  by_cases hok : (tkS b 1 s).2 = .ok
  · obtain ⟨rfl, s1, o1⟩ := p1 hok
    obtain rfl := q2.nil hok
    have hb := s1.byte
    obtain ⟨xb, xo, rfl, hxl, hc⟩ := s1.lies (by omega)
    have hc0 := hc 0 (by omega)
    rw [pc_getD (by omega), Nat.add_zero, Nat.add_zero] at hc0
    have HV : Hid (nxV b s = b.getD s.1 0) := by show _ = _; unfold nxV; rw [if_pos hok]
    have hy := s1.hcap
    clear q1 q2 k1 p1 hok s1 o1 hc hb HT
    go_wp2_with fail
    go_ret
    exact ⟨by rw [HV.out]; rfl, R1.out, K1.out⟩
  · obtain ⟨x1, rfl⟩ := q2.ptr hok
    have HV : Hid (nxV b s = 0) := by show _ = _; unfold nxV; rw [if_neg hok]
    clear q1 q2 k1 p1 hok HT
    go_wp2_with fail
    go_ret
    exact ⟨by rw [HV.out]; rfl, R1.out, K1.out⟩
theorem nx_lt {b : List Nat} (h : ∀ x ∈ b, x < 256) (s : Sr) : nxV b s < 256 := by
  unfold nxV
  split
  · exact getD_lt h _
  · omega
set_option maxHeartbeats 1000000 in
theorem version_at (g : Nat) (a : Option Addr) (n c : Nat) (b : List Nat) (s : Sr) (v : Nat) (w : World) (h : Rdr w g a n c b s) (hv : v < 256) :
    Calls Tryd.prog 38 #[.pointer (some ⟨g, 0, none⟩), .int .u8 v] w fun e w' => e = .returned (.tuple #[]) ∧ Rdr w' g a n c b (wantS b v 70 s) ∧ Kept g g w w' := by
  have HT := hide (next_at g a n c b s w h)
  have c1 : w.cell? ⟨g, 1, none⟩ = some (.int .i64 (s.1 : Nat)) := by obtain ⟨⟨v, h1, h2⟩, _⟩ := h; exact h1.cell 1
  have hlt := nx_lt h.src.byte s
  clear h
  by_cases hq : nxV b s = v
  · have et : wantS b v 70 s = tkS b 1 s := by unfold wantS; rw [if_pos hq]
    rw [et]
    have hb : ((nxV b s : Int) != (v : Int)) = false := by simp; omega
    clear et hq
    generalize nxV b s = q at HT hb hlt
    go_enter Tryd.func38, Tryd.ntmps38
    go_wp2_with fail
    refine HT.out.mono ?_
    rintro e w1 ⟨rfl, r1, k1⟩
    have R1 := hide r1
    have K1 := hide k1
    clear r1 k1
    go_wp2_with fail
    go_end0
    exact ⟨rfl, R1.out, K1.out⟩
  · have et : wantS b v 70 s = stS b s.1 70 (tkS b 1 s) := by unfold wantS; rw [if_neg hq]
    rw [et]
    have hb : ((nxV b s : Int) != (v : Int)) = true := by simp; omega
    clear et hq
    generalize nxV b s = q at HT hb hlt
    go_enter Tryd.func38, Tryd.ntmps38
    go_wp2_with fail
    refine HT.out.mono ?_
    rintro e w1 ⟨rfl, r1, k1⟩
    have HS := hide (stop_at g a n c b _ s.1 70 w1 r1)
    have K1 := hide k1
    clear r1 k1 c1
    go_wp2_with fail
    refine HS.out.mono ?_
    rintro e w2 ⟨rfl, r2, k2⟩
    have R2 := hide r2
    have K2 := hide (K1.out.trans k2)
    clear r2 k2
    go_wp2_with fail
    go_end0
    exact ⟨rfl, R2.out, K2.out⟩
set_option maxHeartbeats 1000000 in
theorem zero_at (g : Nat) (a : Option Addr) (n c : Nat) (b : List Nat) (s : Sr) (w : World) (h : Rdr w g a n c b s) :
    Calls Tryd.prog 61 #[.pointer (some ⟨g, 0, none⟩)] w fun e w' => e = .returned (.tuple #[]) ∧ Rdr w' g a n c b (wantS b 0 72 s) ∧ Kept g g w w' := by
  have HT := hide (next_at g a n c b s w h)
  have c1 : w.cell? ⟨g, 1, none⟩ = some (.int .i64 (s.1 : Nat)) := by obtain ⟨⟨v, h1, h2⟩, _⟩ := h; exact h1.cell 1
  have hlt := nx_lt h.src.byte s
  clear h
  by_cases hq : nxV b s = 0
  · have et : wantS b 0 72 s = tkS b 1 s := by unfold wantS; rw [if_pos hq]
    rw [et]
    have hb : ((nxV b s : Int) != 0) = false := by simp; omega
    clear et hq
    generalize nxV b s = q at HT hb hlt
    go_enter Tryd.func61, Tryd.ntmps61
    go_wp2_with fail
    refine HT.out.mono ?_
    rintro e w1 ⟨rfl, r1, k1⟩
    have R1 := hide r1
    have K1 := hide k1
    clear r1 k1
    go_wp2_with fail
    go_end0
    exact ⟨rfl, R1.out, K1.out⟩
  · have et : wantS b 0 72 s = stS b s.1 72 (tkS b 1 s) := by unfold wantS; rw [if_neg hq]
    rw [et]
    have hb : ((nxV b s : Int) != 0) = true := by simp; omega
    clear et hq
    generalize nxV b s = q at HT hb hlt
    go_enter Tryd.func61, Tryd.ntmps61
    go_wp2_with fail
    refine HT.out.mono ?_
    rintro e w1 ⟨rfl, r1, k1⟩
    have HS := hide (stop_at g a n c b _ s.1 72 w1 r1)
    have K1 := hide k1
    clear r1 k1 c1
    go_wp2_with fail
    refine HS.out.mono ?_
    rintro e w2 ⟨rfl, r2, k2⟩
    have R2 := hide r2
    have K2 := hide (K1.out.trans k2)
    clear r2 k2
    go_wp2_with fail
    go_end0
    exact ⟨rfl, R2.out, K2.out⟩
theorem isCount_at (n : Int) (m : Nat) (w : World) (q : Bool) (hq : q = decide (1 ≤ n ∧ n ≤ m)) : Calls Tryd.prog 50 #[.int .i64 n, .int .i64 m] w fun e w' => e = .returned (.bool q) ∧ w = w' := by
  subst hq
  by_cases h1 : 1 ≤ n
  · go_enter Tryd.func50, Tryd.ntmps50
    go_wp2
    go_ret
    exact ⟨by simp [h1], rfl⟩
  · go_enter Tryd.func50, Tryd.ntmps50
    go_wp2
    go_ret
    exact ⟨by simp; omega, rfl⟩
set_option maxHeartbeats 1000000 in
theorem count_at (g : Nat) (a : Option Addr) (n c : Nat) (b : List Nat) (s : Sr) (m : Nat) (w : World) (h : Rdr w g a n c b s) :
    Calls Tryd.prog 60 #[.pointer (some ⟨g, 0, none⟩), .int .i64 m] w fun e w' => e = .returned (.int .i64 (nxV b s : Nat)) ∧ Rdr w' g a n c b (cnS b m s) ∧ Kept g g w w' := by
  have HT := hide (next_at g a n c b s w h)
  have c1 : w.cell? ⟨g, 1, none⟩ = some (.int .i64 (s.1 : Nat)) := by obtain ⟨⟨v, h1, h2⟩, _⟩ := h; exact h1.cell 1
  have hlt := nx_lt h.src.byte s
  clear h
  by_cases hq : 1 ≤ nxV b s ∧ nxV b s ≤ m
  · have et : cnS b m s = tkS b 1 s := by unfold cnS; rw [if_pos hq]
    rw [et]
    have HB : Hid (true = decide (1 ≤ ((nxV b s : Nat) : Int) ∧ ((nxV b s : Nat) : Int) ≤ (m : Nat))) := by show _ = _; symm; apply decide_eq_true; omega
    clear et hq
    generalize nxV b s = q at HT HB hlt
    go_enter Tryd.func60, Tryd.ntmps60
    go_wp2_with fail
    refine HT.out.mono ?_
    rintro e w1 ⟨rfl, r1, k1⟩
    have R1 := hide r1
    have K1 := hide k1
    clear r1 k1
    go_wp2_with fail
    refine (isCount_at (q : Int) m _ true HB.out).mono ?_
    rintro e w2 ⟨rfl, rfl⟩
    go_wp2_with fail
    go_ret
    exact ⟨rfl, R1.out, K1.out⟩
  · have et : cnS b m s = stS b s.1 72 (tkS b 1 s) := by unfold cnS; rw [if_neg hq]
    rw [et]
    have HB : Hid (false = decide (1 ≤ ((nxV b s : Nat) : Int) ∧ ((nxV b s : Nat) : Int) ≤ (m : Nat))) := by show _ = _; symm; apply decide_eq_false; omega
    clear et hq
    generalize nxV b s = q at HT HB hlt
    go_enter Tryd.func60, Tryd.ntmps60
    go_wp2_with fail
    refine HT.out.mono ?_
    rintro e w1 ⟨rfl, r1, k1⟩
    have HS := hide (stop_at g a n c b _ s.1 72 w1 r1)
    have K1 := hide k1
    clear r1 k1 c1
    go_wp2_with fail
    refine (isCount_at (q : Int) m _ false HB.out).mono ?_
    rintro e w1' ⟨rfl, rfl⟩
    go_wp2_with fail
    refine HS.out.mono ?_
    rintro e w2 ⟨rfl, r2, k2⟩
    have R2 := hide r2
    have K2 := hide (K1.out.trans k2)
    clear r2 k2
    go_wp2_with fail
    go_ret
    exact ⟨rfl, R2.out, K2.out⟩
theorem cnS_ok {b : List Nat} {m : Nat} {s : Sr} (h : (cdS b m s).2 = .ok) : (cnS b m s).2 = .ok ∧ (cnS b m s).1 = s.1 + 1 := by
  have h1 : (cnS b m s).2 = .ok := by
    apply Decidable.byContradiction
    intro hn
    unfold cdS at h
    rw [tkS_bad hn] at h
    exact hn h
  have h2 : s.2 = .ok := by
    apply Decidable.byContradiction
    intro hn
    rw [cnS_bad hn] at h1
    exact hn h1
  refine ⟨h1, ?_⟩
  obtain ⟨k, e⟩ := s
  simp only at h2
  subst h2
  by_cases hl : k < b.length
  · obtain ⟨e1, e2⟩ := nx_in hl
    unfold cnS at h1 ⊢
    rw [e2] at h1 ⊢
    split
    · rfl
    · rename_i hq
      rw [if_neg hq] at h1
      simp [stS] at h1
  · obtain ⟨e1, e2⟩ := nx_out (b := b) (k := k) (by omega)
    unfold cnS at h1
    rw [e1, if_neg (by omega), e2, stS_bad (sh_ne b)] at h1
    exact absurd h1 (sh_ne b)
set_option maxHeartbeats 1000000 in
theorem counted_at (g : Nat) (a : Option Addr) (n c : Nat) (b : List Nat) (s : Sr) (m : Nat) (w : World) (h : Rdr w g a n c b s) :
    Calls Tryd.prog 39 #[.pointer (some ⟨g, 0, none⟩), .int .i64 m] w fun e w' => ∃ x l y, e = .returned (.slice x l y) ∧ Rdr w' g a n c b (cdS b m s) ∧ Kept g g w w' ∧ ((cdS b m s).2 = .ok → l = nxV b s ∧ Src w' x l y (pc b (s.1 + 1) (nxV b s)) ∧ Off x l g) := by
  have HT := hide (count_at g a n c b s m w h)
  have hlt := nx_lt h.src.byte s
  clear h
  go_enter Tryd.func39, Tryd.ntmps39
  go_wp2_with fail
  refine HT.out.mono ?_
  rintro e w1 ⟨rfl, r1, k1⟩
  have HS := hide (take_at g a n c b _ (nxV b s) w1 r1 (by omega))
  have K1 := hide k1
  clear r1 k1
  go_wp2_with fail
  refine HS.out.mono ?_
  rintro e w2 ⟨x, l, y, rfl, r2, k2, p2⟩
  have R2 := hide r2
  have K2 := hide (K1.out.trans k2)
  have P2 : Hid ((cdS b m s).2 = .ok → l = nxV b s ∧ Src w2 x l y (pc b (s.1 + 1) (nxV b s)) ∧ Off x l g) := fun hok => by
    obtain ⟨e1, e2, e3⟩ := p2 hok
    subst e1
    rw [(cnS_ok hok).2] at e2
    exact ⟨rfl, e2, e3⟩
  clear r2 k2 p2
  go_wp2_with fail
  go_ret
  exact ⟨x, l, y, rfl, R2.out, K2.out, P2.out⟩
end Go.Proofs.YtefgjmijbedbkaaDoor
