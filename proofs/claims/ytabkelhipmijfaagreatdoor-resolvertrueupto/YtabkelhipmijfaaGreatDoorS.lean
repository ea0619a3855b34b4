/-
  The reader of numbers of package dns: refuse, stop, take, number; conditions as each theorem has them.
-/
import Derived.Test.YtabkelhipmijfaaGreatDoorJoined1
set_option linter.unusedSimpArgs false
set_option linter.unusedVariables false
namespace Go.Proofs.YtabkelhipmijfaaGreatDoor
open Go.RowKit


/-- The block g, of the type ty, begins with a reader of the bytes b that stands so; behind it lies R. -/
structure Rdr (w : World) (g : Nat) (ty : TypeId) (R : List Value) (a : Option Addr) (n c : Nat) (b : List Nat) (s : Sr) : Prop where
  row : ∃ v, Row w g ty (.slice a n c :: .int .i64 (s.1 : Nat) :: v :: R) ∧ IsF w s.2 v
  src : Src w a n c b
  off : Off a n g
  hty : ty ≠ 158
  lt : s.1 < 9223372036854775808
theorem IsF.kept {w w' : World} {e : Er} {v : Value} {g : Nat} {ty : TypeId} {C : List Value} (h : IsF w e v) (hr : Row w g ty C) (ht : ty ≠ 158) (k : Kept g g w w') : IsF w' e v :=
  h.keep fun b C' hb => by
    have : b ≠ g := fun e => by subst e; unfold Row at hr; rw [hb] at hr; simp at hr; exact ht hr.2.symm
    exact k.block b (lt_of_some hb) this this
theorem Rdr.below {w w' : World} {g : Nat} {ty : TypeId} {R : List Value} {a : Option Addr} {n c : Nat} {b : List Nat} {s : Sr} (h : Rdr w g ty R a n c b s) (k : Below w.heap.size w w') : Rdr w' g ty R a n c b s := by
  obtain ⟨⟨v, h1, h2⟩, h3, h4, h5, h6⟩ := h
  exact ⟨⟨v, h1.keep (k.block g h1.lt), h2.below k⟩, h3.below k, h4, h5, h6⟩
theorem Rdr.block {w : World} {g : Nat} {ty : TypeId} {R : List Value} {a : Option Addr} {n c : Nat} {b : List Nat} {s : Sr} (h : Rdr w g ty R a n c b s) : g < w.heap.size := by obtain ⟨⟨v, h1, h2⟩, _⟩ := h; exact h1.lt
theorem Kept.drew {r g : Nat} {a b : World} (h : Kept r g a b) : Kept r g a b.drew := ⟨h.os, h.tape, h.output, h.size, h.block⟩
theorem Kept.of_drew {r g : Nat} {a b : World} (h : Kept r g a.drew b) : Kept r g a b := ⟨h.os, h.tape, h.output, h.size, h.block⟩
theorem Src.drew {w : World} {a : Option Addr} {n c : Nat} {b : List Nat} (h : Src w a n c b) : Src w.drew a n c b := h.keep (fun _ _ _ _ => rfl) (Nat.le_refl _)
theorem Rdr.drew {w : World} {g : Nat} {ty : TypeId} {R : List Value} {a : Option Addr} {n c : Nat} {b : List Nat} {s : Sr} (h : Rdr w g ty R a n c b s) : Rdr w.drew g ty R a n c b s := by
  obtain ⟨⟨v, h1, h2⟩, h3, h4, h5, h6⟩ := h
  exact ⟨⟨v, h1, h2.keep fun _ _ _ => rfl⟩, h3.drew, h4, h5, h6⟩
/-- What lies behind the reader, or where it stands, is another. -/
theorem Rdr.with {w w' : World} {g : Nat} {ty : TypeId} {R R' : List Value} {a : Option Addr} {n c : Nat} {b : List Nat} {s : Sr} (h : Rdr w g ty R a n c b s) (k : Kept g g w w') (p : Nat) (hp : p < 9223372036854775808)
    (hr : ∀ v, Row w g ty (.slice a n c :: .int .i64 (s.1 : Nat) :: v :: R) → Row w' g ty (.slice a n c :: .int .i64 (p : Nat) :: v :: R')) : Rdr w' g ty R' a n c b (p, s.2) := by
  obtain ⟨⟨v, h1, h2⟩, h3, h4, h5, h6⟩ := h
  exact ⟨⟨v, hr v h1, h2.kept h1 h5 k⟩, h3.kept k h4, h4, h5, hp⟩
/-- A fault of package dns in memory. -/
def dflt (p k : Nat) : Obj := fltL ⟨#[100, 110, 115]⟩ p (.iface 24 (.int .i64 (k : Nat)))
/-- A fault is set. -/
theorem Rdr.fault {w : World} {g : Nat} {ty : TypeId} {R : List Value} {a : Option Addr} {n c : Nat} {b : List Nat} {s : Sr} (h : Rdr w g ty R a n c b s) (p k : Nat) :
    Rdr ((w.alloc (dflt p k)).setCell ⟨g, 2, none⟩ (.iface 156 (.pointer (some ⟨w.heap.size, 0, none⟩)))) g ty R a n c b (s.1, .one p k) ∧ Kept g g w ((w.alloc (dflt p k)).setCell ⟨g, 2, none⟩ (.iface 156 (.pointer (some ⟨w.heap.size, 0, none⟩)))) := by
  obtain ⟨⟨v, h1, h2⟩, h3, h4, h5, h6⟩ := h
  have hg := h1.lt
  have r1 := h1.alloc (dflt p k)
  have r2 := r1.set 2 (.iface 156 (.pointer (some ⟨w.heap.size, 0, none⟩)))
  have k1 : Kept g g w (w.alloc (dflt p k)) := (Kept.refl g g _).alloc _
  have k2 := k1.set 2 (.iface 156 (.pointer (some ⟨w.heap.size, 0, none⟩)))
  have hn : ((w.alloc (dflt p k)).setCell ⟨g, 2, none⟩ (.iface 156 (.pointer (some ⟨w.heap.size, 0, none⟩)))).heap[w.heap.size]? = some (dflt p k) := by
    rw [Below.heap_setCell _ _ _ _ (by show w.heap.size ≠ g; omega)]
    exact alloc_new _ _
  exact ⟨⟨⟨_, by simpa using r2, ⟨_, rfl, hn⟩⟩, h3.kept k2 h4, h4, h5, h6⟩, k2⟩
theorem drefuse_at (p k : Nat) (w : World) : Calls Tryz.prog 56 #[.int .i64 p, .int .i64 k] w fun e w' => e = .returned (.iface 156 (.pointer (some ⟨w.heap.size, 0, none⟩))) ∧ w' = w.alloc (dflt p k) := by
  go_enter Tryz.func56, Tryz.ntmps56
  go_wp2
  go_ret
  exact ⟨rfl, rfl⟩
set_option maxHeartbeats 1000000 in
theorem stop_at (g : Nat) (ty : TypeId) (R : List Value) (a : Option Addr) (n c : Nat) (b : List Nat) (s : Sr) (p : Int) (q k : Nat) (w : World) (h : Rdr w g ty R a n c b s) (hp : s.2 = .ok → p = (q : Nat)) :
    Calls Tryz.prog 105 #[.pointer (some ⟨g, 0, none⟩), .int .i64 p, .int .i64 k] w fun e w' => e = .returned (.tuple #[]) ∧ Rdr w' g ty R a n c b (stp q k s) ∧ Kept g g w w' := by
  have H := hide h
  obtain ⟨⟨v, h1, h2⟩, h3, h4, h5, h6⟩ := h
  have hg := h1.lt
  have c2 : w.cell? ⟨g, 2, none⟩ = some v := h1.cell 2
  have f2 := h1.frozen 2
  have hne : g ≠ w.heap.size := by omega
  by_cases hok : s.2 = .ok
  · obtain rfl := h2.nil hok
    rw [hp hok]
    have HS : Hid (stp q k s = (s.1, .one q k)) := by show _ = _; unfold stp; rw [if_pos hok]
    rw [HS.out]
    have HF := hide (H.out.fault q k)
    have HR := hide (drefuse_at q k w)
    have f3 : (w.alloc (dflt q k)).frozen? ⟨g, 2, none⟩ = false := (h1.alloc _).frozen 2
    have c3 : (w.alloc (dflt q k)).cell? ⟨g, 2, none⟩ = some .nilIface := (h1.alloc _).cell 2
    obtain ⟨W, hW⟩ : ∃ W, W = w.alloc (dflt q k) := ⟨_, rfl⟩
    rw [← hW] at HF HR f3 c3
    clear h1 h2 h3 h4 h5 h6 hok HS hp hW
    go_enter Tryz.func105, Tryz.ntmps105
    go_wp2_with fail
    refine HR.out.mono ?_
    rintro e w1 ⟨rfl, rfl⟩
    go_wp2_with fail
    go_end0
    exact ⟨rfl, HF.out⟩
  · obtain ⟨x, rfl⟩ := h2.ptr hok
    rw [stp_bad hok]
    clear h1 h2 h3 h4 h5 h6 hok hp
    go_enter Tryz.func105, Tryz.ntmps105
    go_wp2_with fail
    go_end0
    exact ⟨rfl, H.out, Kept.refl _ _ _⟩

theorem und22 : Tryz.prog.underlying 30 = some (.slice (Tryz.prog.elem 30)) := by kernel_rfl
theorem size22 (w : World) : (sizeOf (Tryz.prog.elem 30)).run Tryz.prog w = .ok 1 w := by kernel_rfl
theorem pc_length {b : List Nat} {k m : Nat} (h : k + m ≤ b.length) : (pc b k m).length = m := by unfold pc; rw [List.length_take, List.length_drop]; omega
theorem pc_getD {b : List Nat} {k m i : Nat} (hi : i < m) : (pc b k m).getD i 0 = b.getD (k + i) 0 := by
  unfold pc
  rw [List.getD, List.getD, List.getElem?_take, if_pos hi, List.getElem?_drop]
/-- 'b[k : k + m]' of a slice of bytes. -/
theorem run_cut (w : World) (a : Option Addr) (n c : Nat) (b : List Nat) (h : Src w a n c b) (k m : Nat) (hk : k + m ≤ n) : ∃ x : Option Addr,
    (∀ w, (Instr.sliceAt 30 (.slice a n c) (some (.int .i64 k)) (some (.int .i64 ((k : Int) + m))) none).run Tryz.prog w = .ok (.slice x m (c - k)) w) ∧
    (∀ w, (Instr.slice 30 (.slice a n c) (some (.int .i64 k)) (some (.int .i64 ((k : Int) + m))) none).run Tryz.prog w = .ok (.slice x m (c - k)) w) ∧ Src w x m (c - k) (pc b k m) ∧ ∀ g, Off a n g → Off x m g := by
  have hc := h.hcap
  have hmx := h.hmax
  have hl := h.hlen
  have key : ∀ w, (Instr.slice 30 (.slice a n c) (some (.int .i64 k)) (some (.int .i64 ((k : Int) + m))) none).run Tryz.prog w = .ok (sliced a k (k + m) c 1) w := fun w => by
    rw [run_slice_lh w 30 _ n c und22 .i64 .i64 k ((k : Int) + m) (by omega) (by omega) (by omega), size22]
    simp [Result.andThen, show ((k : Int) + m).toNat = k + m by omega]
  refine ⟨if c = k then a else a.map (·.add (k * 1)), fun w => ?_, fun w => ?_, ⟨pc_length (by omega), by omega, by omega, fun e => ?_, fun h0 => ?_, fun x hx => h.byte x (List.mem_of_mem_drop (List.mem_of_mem_take hx))⟩, fun g ho h0 => ?_⟩
  · rw [run_sliceAt_slice w 30 _ _ _ _ und22, key, sliced, show k + m - k = m by omega]
  · rw [key, sliced, show k + m - k = m by omega]
  · cases a with
    | none => have := h.nil rfl; omega
    | some x => split at e <;> simp at e
  · obtain ⟨x, o, rfl, hx, hcell⟩ := h.lies (by omega)
    rw [if_neg (by omega)]
    refine ⟨x, o + k, by rw [Option.map_some, add_none, Nat.mul_one], hx, fun i hi => ?_⟩
    rw [pc_getD hi, Nat.add_assoc]
    exact hcell (k + i) (by omega)
  · intro x o e
    rw [if_neg (by omega)] at e
    obtain ⟨x', o', rfl, _⟩ := h.lies (by omega)
    rw [Option.map_some, add_none] at e
    simp at e
    have := ho (by omega) x' o' rfl
    omega


set_option maxHeartbeats 1000000 in
theorem take_at (g : Nat) (ty : TypeId) (R : List Value) (a : Option Addr) (n c : Nat) (b : List Nat) (s : Sr) (m : Nat) (w : World) (h : Rdr w g ty R a n c b s) (hm : m ≤ 65535) :
    Calls Tryz.prog 107 #[.pointer (some ⟨g, 0, none⟩), .int .i64 m] w fun e w' => ∃ x l y, e = .returned (.slice x l y) ∧ Rdr w' g ty R a n c b (tk b m s) ∧ Kept g g w w' ∧ ((tk b m s).2 = .ok → l = m ∧ Src w' x m y (pc b s.1 m) ∧ ∀ g', Off a n g' → Off x m g') ∧ ((tk b m s).2 ≠ .ok → x = none ∧ l = 0 ∧ y = 0) := by
  have H := hide h
  obtain ⟨⟨v, h1, h2⟩, h3, h4, h5, h6⟩ := h
  have hg := h1.lt
  have c0 : w.cell? ⟨g, 0, none⟩ = some (.slice a n c) := h1.cell 0
  have c1 : w.cell? ⟨g, 1, none⟩ = some (.int .i64 (s.1 : Nat)) := h1.cell 1
  have c2 : w.cell? ⟨g, 2, none⟩ = some v := h1.cell 2
  have f1 := h1.frozen 1
  have hlen := h3.hlen
  have hcm := h3.hmax
  have hcl := h3.hcap
  unfold maxLen at hcm
  obtain ⟨k, er⟩ := s
  simp only at h2 h6 c1 ⊢
  by_cases hok : er = .ok
  · subst hok
    obtain rfl := h2.nil rfl
    by_cases hfit : k + m ≤ n
    · have hd : decide ((n : Int) - k < m) = false := decide_eq_false (by omega)
      have et : tk b m (k, .ok) = (k + m, .ok) := tk_in (by omega)
      obtain ⟨x, q1, q2, q3, q4⟩ := run_cut w a n c b h3 k m hfit
      have ei : (k : Int) + m = ((k + m : Nat) : Int) := by omega
      have kp : Kept g g w (w.setCell ⟨g, 1, none⟩ (.int .i64 ((k : Int) + m))) := (Kept.refl g g _).set 1 _
      have r2 := h1.set 1 (.int .i64 ((k : Int) + m))
      have HR : Hid (Rdr (w.setCell ⟨g, 1, none⟩ (.int .i64 ((k : Int) + m))) g ty R a n c b (k + m, .ok)) := ⟨⟨.nilIface, by simpa using r2, rfl⟩, h3.kept kp h4, h4, h5, by show k + m < _; omega⟩
      have HP : Hid (Src (w.setCell ⟨g, 1, none⟩ (.int .i64 ((k : Int) + m))) x m (c - k) (pc b k m) ∧ ∀ g', Off a n g' → Off x m g') := ⟨q3.kept kp (q4 g h4), q4⟩
      have KP := hide kp
      rw [et]
      obtain ⟨y, hy⟩ : ∃ y, y = c - k := ⟨_, rfl⟩
      rw [← hy] at q1 q2 HP
      clear h1 h2 h3 h4 h5 et q3 q4 kp r2 hy ei
      go_enter Tryz.func107, Tryz.ntmps107
      go_wp2_with fail
      go_region
      go_wp2_with fail
      go_region
      go_wp2_with fail
      go_ret
      exact ⟨x, m, y, rfl, HR.out.drew.drew, KP.out.drew.drew, fun _ => ⟨rfl, HP.out.1.drew.drew, HP.out.2⟩, fun e => absurd rfl e⟩
    · have hd : decide ((n : Int) - k < m) = true := decide_eq_true (by omega)
      have et : tk b m (k, .ok) = (k, .one n 6) := by unfold tk; rw [if_pos rfl, if_neg (by show ¬ k + m ≤ _; omega), hlen]
      have es : stp n 6 (k, .ok) = (k, .one n 6) := rfl
      rw [et]
      have HS := hide (stop_at g ty R a n c b (k, .ok) n n 6 w.drew H.out.drew (fun _ => rfl))
      rw [es] at HS
      clear h1 h2 h3 h4 et es
      go_enter Tryz.func107, Tryz.ntmps107
      go_wp2_with fail
      go_region
      go_wp2_with fail
      refine HS.out.mono ?_
      rintro e w1 ⟨rfl, r1, k1⟩
      have R1 := hide r1
      have K1 := hide k1
      obtain ⟨⟨v1, p1, p2⟩, _⟩ := r1
      obtain ⟨x1, rfl⟩ := p2.ptr (by simp)
      have d2 : w1.cell? ⟨g, 2, none⟩ = some (.iface 156 (.pointer (some ⟨x1, 0, none⟩))) := p1.cell 2
      clear p1 p2 k1 c0 c1 c2 f1
      go_wp2_with fail
      go_ret
      exact ⟨none, 0, 0, rfl, R1.out, K1.out.of_drew, (by intro e; cases e), fun _ => ⟨rfl, rfl, rfl⟩⟩
  · obtain ⟨x, rfl⟩ := h2.ptr hok
    have et : tk b m (k, er) = (k, er) := tk_bad hok
    have es : stp n 6 (k, er) = (k, er) := stp_bad hok
    rw [et]
    have HS := hide (stop_at g ty R a n c b (k, er) n n 6 w.drew H.out.drew (fun _ => rfl))
    rw [es] at HS
    have HOK := hide hok
    clear h1 h2 h3 h4 et es hok
    by_cases hfit : (n : Int) - k < m
    · have hd : decide ((n : Int) - k < m) = true := decide_eq_true hfit
      go_enter Tryz.func107, Tryz.ntmps107
      go_wp2_with fail
      go_region
      go_wp2_with fail
      refine HS.out.mono ?_
      rintro e w1 ⟨rfl, r1, k1⟩
      have R1 := hide r1
      have K1 := hide k1
      obtain ⟨⟨v1, p1, p2⟩, _⟩ := r1
      obtain ⟨x1, rfl⟩ := p2.ptr HOK.out
      have d2 : w1.cell? ⟨g, 2, none⟩ = some (.iface 156 (.pointer (some ⟨x1, 0, none⟩))) := p1.cell 2
      clear p1 p2 k1 c0 c1 c2 f1
      go_wp2_with fail
      go_ret
      exact ⟨none, 0, 0, rfl, R1.out, K1.out.of_drew, fun e => absurd e HOK.out, fun _ => ⟨rfl, rfl, rfl⟩⟩
    · have hd : decide ((n : Int) - k < m) = false := decide_eq_false hfit
      go_enter Tryz.func107, Tryz.ntmps107
      go_wp2_with fail
      go_region
      go_wp2_with fail
      go_ret
      exact ⟨none, 0, 0, rfl, H.out.drew, (Kept.refl _ _ _).drew, fun e => absurd e HOK.out, fun _ => ⟨rfl, rfl, rfl⟩⟩
theorem or_i64 (a b : Nat) (ha : a < 256) (hb : b < 256) : bits .or .i64 ((a : Int) * 256) (b : Int) = ((a * 256 + b : Nat) : Int) := by
  have e : (a : Int) * 256 = ((a * 256 : Nat) : Int) := by omega
  rw [e]
  have ho : (a * 256) ||| b = a * 256 + b := by
    have := Nat.two_pow_add_eq_or_of_lt (i := 8) (b := b) hb a
    rw [show (2 : Nat) ^ 8 * a = a * 256 by omega] at this
    exact this.symm
  have h1 : (BitVec.ofInt 64 ((a * 256 : Nat) : Int)).toNat = a * 256 := by
    rw [BitVec.ofInt_natCast, BitVec.toNat_ofNat]; exact Nat.mod_eq_of_lt (by omega)
  have h2 : (BitVec.ofInt 64 (b : Int)).toNat = b := by
    rw [BitVec.ofInt_natCast, BitVec.toNat_ofNat]; exact Nat.mod_eq_of_lt (by omega)
  show IntKind.i64.wrap ((BitVec.ofInt 64 ((a * 256 : Nat) : Int) ||| BitVec.ofInt 64 (b : Int)).toNat : Int) = _
  rw [BitVec.toNat_or, h1, h2, IntKind.wrap_i64, ho]
  omega

set_option maxHeartbeats 1000000 in
theorem number_at (g : Nat) (ty : TypeId) (R : List Value) (a : Option Addr) (n c : Nat) (b : List Nat) (s : Sr) (w : World) (h : Rdr w g ty R a n c b s) :
    Calls Tryz.prog 106 #[.pointer (some ⟨g, 0, none⟩)] w fun e w' => e = .returned (.int .i64 (nu b s : Nat)) ∧ Rdr w' g ty R a n c b (tk b 2 s) ∧ Kept g g w w' := by
  have HT := hide (take_at g ty R a n c b s 2 w h (by omega))
  have hbyt := h.src.byte
  clear h
  go_enter Tryz.func106, Tryz.ntmps106
  go_wp2_with fail
  refine HT.out.mono ?_
  rintro e w1 ⟨x, l, y, rfl, r1, k1, p1, p2⟩
  have R1 := hide r1
  have K1 := hide k1
  obtain ⟨⟨v1, q1, q2⟩, _⟩ := r1
  have d2 : w1.cell? ⟨g, 2, none⟩ = some v1 := q1.cell 2
  by_cases hok : (tk b 2 s).2 = .ok
  · obtain ⟨rfl, s1, o1⟩ := p1 hok
    obtain rfl := q2.nil hok
    obtain ⟨xb, xo, rfl, hxl, hc⟩ := s1.lies (by omega)
    have hc0 := hc 0 (by omega)
    have hc1 := hc 1 (by omega)
    rw [pc_getD (by omega), Nat.add_zero, Nat.add_zero] at hc0
    rw [pc_getD (by omega)] at hc1
    have l0 := getD_lt hbyt s.1
    have l1 := getD_lt hbyt (s.1 + 1)
    have HV : Hid (nu b s = b.getD s.1 0 * 256 + b.getD (s.1 + 1) 0) := by show _ = _; unfold nu; rw [if_pos hok]
    have HO := hide (or_i64 _ _ l0 l1)
    have hy := s1.hcap
    obtain ⟨v0, hv0⟩ : ∃ v0, v0 = b.getD s.1 0 := ⟨_, rfl⟩
    obtain ⟨v1, hv1⟩ : ∃ v1, v1 = b.getD (s.1 + 1) 0 := ⟨_, rfl⟩
    rw [← hv0] at hc0 l0 HO
    rw [← hv1] at hc1 l1 HO
    rw [← hv0, ← hv1] at HV
    have hor := HO.out
    clear q1 q2 k1 p1 p2 hok s1 o1 hc HT hv0 hv1 hbyt
    go_wp2_with fail
    go_region
    go_wp2_with fail
    go_ret
    exact ⟨by rw [HV.out]; simp, R1.out.drew, K1.out.drew⟩
  · obtain ⟨x1, rfl⟩ := q2.ptr hok
    have HV : Hid (nu b s = 0) := by show _ = _; unfold nu; rw [if_neg hok]
    clear q1 q2 k1 p1 p2 hok HT hbyt
    go_wp2_with fail
    go_ret
    exact ⟨by rw [HV.out]; rfl, R1.out, K1.out⟩
end Go.Proofs.YtabkelhipmijfaaGreatDoor
