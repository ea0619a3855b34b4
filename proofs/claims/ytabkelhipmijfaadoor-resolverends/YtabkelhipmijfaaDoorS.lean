/-
  The reader of numbers of package dns: refuse, stop, take, number; conditions as each theorem has them.
-/
import Derived.Test.YtabkelhipmijfaaDoorJoinedD
set_option linter.unusedSimpArgs false
set_option linter.unusedVariables false
namespace Go.Proofs.YtabkelhipmijfaaDoor
open Go.RowKit


/-- The block g, of the type ty, begins with a reader of the bytes b that stands so; behind it lies R. -/
structure Rdr (w : World) (g : Nat) (ty : TypeId) (R : List Value) (a : Option Addr) (n c : Nat) (b : List Nat) (s : Sr) : Prop where
  row : ∃ v, Row w g ty (.slice a n c :: .int .i64 (s.1 : Nat) :: v :: R) ∧ IsF w s.2 v
  src : Src w a n c b
  off : Off a n g
  hty : ty ≠ 109
  lt : s.1 < 9223372036854775808
theorem IsF.kept {w w' : World} {e : Er} {v : Value} {g : Nat} {ty : TypeId} {C : List Value} (h : IsF w e v) (hr : Row w g ty C) (ht : ty ≠ 109) (k : Kept g g w w') : IsF w' e v :=
  h.keep fun b C' hb => by
    have : b ≠ g := fun e => by subst e; unfold Row at hr; rw [hb] at hr; simp at hr; exact ht hr.2.symm
    exact k.block b (lt_of_some hb) this this
theorem Rdr.below {w w' : World} {g : Nat} {ty : TypeId} {R : List Value} {a : Option Addr} {n c : Nat} {b : List Nat} {s : Sr} (h : Rdr w g ty R a n c b s) (k : Below w.heap.size w w') : Rdr w' g ty R a n c b s := by
  obtain ⟨⟨v, h1, h2⟩, h3, h4, h5, h6⟩ := h
  exact ⟨⟨v, h1.keep (k.block g h1.lt), h2.below k⟩, h3.below k, h4, h5, h6⟩
theorem Rdr.block {w : World} {g : Nat} {ty : TypeId} {R : List Value} {a : Option Addr} {n c : Nat} {b : List Nat} {s : Sr} (h : Rdr w g ty R a n c b s) : g < w.heap.size := by obtain ⟨⟨v, h1, h2⟩, _⟩ := h; exact h1.lt
theorem Kept.drew {r g : Nat} {a b : World} (h : Kept r g a b) : Kept r g a b.drew := ⟨h.os, h.tape, h.output, h.size, h.block⟩
theorem Kept.of_drew {r g : Nat} {a b : World} (h : Kept r g a.drew b) : Kept r g a b := ⟨h.os, h.tape, h.output, h.size, h.block⟩
theorem Src.drew {w : World} {a : Option Addr} {n c : Nat} {b : List Nat} (h : Src w a n c b) : Src w.drew a n c b := h.keep (fun _ _ _ _ => rfl) (Nat.le_refl _)
theorem Rdr.drew {w : World} {g : Nat} {ty : TypeId} {R : List Value} {a : Option Addr} {n c : Nat} {b : List Nat} {s : Sr} (h : Rdr w g ty R a n c b s) : Rdr w.drew g ty R a n c b s := by
  obtain ⟨⟨v, h1, h2⟩, h3, h4, h5, h6⟩ := h
  exact ⟨⟨v, h1, h2.keep fun _ _ _ => rfl⟩, h3.drew, h4, h5, h6⟩
/-- What lies behind the reader, or where it stands, is another. -/
theorem Rdr.with {w w' : World} {g : Nat} {ty : TypeId} {R R' : List Value} {a : Option Addr} {n c : Nat} {b : List Nat} {s : Sr} (h : Rdr w g ty R a n c b s) (k : Kept g g w w') (p : Nat) (hp : p < 9223372036854775808)
    (hr : ∀ v, Row w g ty (.slice a n c :: .int .i64 (s.1 : Nat) :: v :: R) → Row w' g ty (.slice a n c :: .int .i64 (p : Nat) :: v :: R')) : Rdr w' g ty R' a n c b (p, s.2) := by
  obtain ⟨⟨v, h1, h2⟩, h3, h4, h5, h6⟩ := h
  exact ⟨⟨v, hr v h1, h2.kept h1 h5 k⟩, h3.kept k h4, h4, h5, hp⟩
/-- A fault of package dns in memory. -/
def dflt (p k : Nat) : Obj := fltL ⟨#[100, 110, 115]⟩ p (.iface 25 (.int .i64 (k : Nat)))
/-- A fault is set. -/
theorem Rdr.fault {w : World} {g : Nat} {ty : TypeId} {R : List Value} {a : Option Addr} {n c : Nat} {b : List Nat} {s : Sr} (h : Rdr w g ty R a n c b s) (p k : Nat) :
    Rdr ((w.alloc (dflt p k)).setCell ⟨g, 2, none⟩ (.iface 107 (.pointer (some ⟨w.heap.size, 0, none⟩)))) g ty R a n c b (s.1, .one p k) ∧ Kept g g w ((w.alloc (dflt p k)).setCell ⟨g, 2, none⟩ (.iface 107 (.pointer (some ⟨w.heap.size, 0, none⟩)))) := by
  obtain ⟨⟨v, h1, h2⟩, h3, h4, h5, h6⟩ := h
  have hg := h1.lt
  have r1 := h1.alloc (dflt p k)
  have r2 := r1.set 2 (.iface 107 (.pointer (some ⟨w.heap.size, 0, none⟩)))
  have k1 : Kept g g w (w.alloc (dflt p k)) := (Kept.refl g g _).alloc _
  have k2 := k1.set 2 (.iface 107 (.pointer (some ⟨w.heap.size, 0, none⟩)))
  have hn : ((w.alloc (dflt p k)).setCell ⟨g, 2, none⟩ (.iface 107 (.pointer (some ⟨w.heap.size, 0, none⟩)))).heap[w.heap.size]? = some (dflt p k) := by
    rw [Below.heap_setCell _ _ _ _ (by show w.heap.size ≠ g; omega)]
    exact alloc_new _ _
  exact ⟨⟨⟨_, by simpa using r2, ⟨_, rfl, hn⟩⟩, h3.kept k2 h4, h4, h5, h6⟩, k2⟩
theorem und22 : Tryd.prog.underlying 38 = some (.slice (Tryd.prog.elem 38)) := by kernel_rfl
theorem size22 (w : World) : (sizeOf (Tryd.prog.elem 38)).run Tryd.prog w = .ok 1 w := by kernel_rfl
theorem pc_length {b : List Nat} {k m : Nat} (h : k + m ≤ b.length) : (pc b k m).length = m := by unfold pc; rw [List.length_take, List.length_drop]; omega
theorem pc_getD {b : List Nat} {k m i : Nat} (hi : i < m) : (pc b k m).getD i 0 = b.getD (k + i) 0 := by
  unfold pc
  rw [List.getD, List.getD, List.getElem?_take, if_pos hi, List.getElem?_drop]
/-- 'b[k : k + m]' of a slice of bytes. -/
theorem run_cut (w : World) (a : Option Addr) (n c : Nat) (b : List Nat) (h : Src w a n c b) (k m : Nat) (hk : k + m ≤ n) : ∃ x : Option Addr,
    (∀ w, (Instr.sliceAt 38 (.slice a n c) (some (.int .i64 k)) (some (.int .i64 ((k : Int) + m))) none).run Tryd.prog w = .ok (.slice x m (c - k)) w) ∧
    (∀ w, (Instr.slice 38 (.slice a n c) (some (.int .i64 k)) (some (.int .i64 ((k : Int) + m))) none).run Tryd.prog w = .ok (.slice x m (c - k)) w) ∧ Src w x m (c - k) (pc b k m) ∧ ∀ g, Off a n g → Off x m g := by
  have hc := h.hcap
  have hmx := h.hmax
  have hl := h.hlen
  have key : ∀ w, (Instr.slice 38 (.slice a n c) (some (.int .i64 k)) (some (.int .i64 ((k : Int) + m))) none).run Tryd.prog w = .ok (sliced a k (k + m) c 1) w := fun w => by
    rw [run_slice_lh w 38 _ n c und22 .i64 .i64 k ((k : Int) + m) (by omega) (by omega) (by omega), size22]
    simp [Result.andThen, show ((k : Int) + m).toNat = k + m by omega]
  refine ⟨if c = k then a else a.map (·.add (k * 1)), fun w => ?_, fun w => ?_, ⟨pc_length (by omega), by omega, by omega, fun e => ?_, fun h0 => ?_, fun x hx => h.byte x (List.mem_of_mem_drop (List.mem_of_mem_take hx))⟩, fun g ho h0 => ?_⟩
  · rw [run_sliceAt_slice w 38 _ _ _ _ und22, key, sliced, show k + m - k = m by omega]
  · rw [key, sliced, show k + m - k = m by omega]
  · cases a with
    | none => have := h.nil rfl; omega
    | some x => split at e <;> simp at e
  · obtain ⟨x, o, rfl, hx, hcell⟩ := h.lies (by omega)
    rw [if_neg (by omega)]
    refine ⟨x, o + k, by rw [Option.map_some, add_none, Nat.mul_one], hx, fun i hi => ?_⟩
    rw [pc_getD hi, Nat.add_assoc]
    exact hcell (k + i) (by omega)
  · intro x o e
    rw [if_neg (by omega)] at e
    obtain ⟨x', o', rfl, _⟩ := h.lies (by omega)
    rw [Option.map_some, add_none] at e
    simp at e
    have := ho (by omega) x' o' rfl
    omega


theorem or_i64 (a b : Nat) (ha : a < 256) (hb : b < 256) : bits .or .i64 ((a : Int) * 256) (b : Int) = ((a * 256 + b : Nat) : Int) := by
  have e : (a : Int) * 256 = ((a * 256 : Nat) : Int) := by omega
  rw [e]
  have ho : (a * 256) ||| b = a * 256 + b := by
    have := Nat.two_pow_add_eq_or_of_lt (i := 8) (b := b) hb a
    rw [show (2 : Nat) ^ 8 * a = a * 256 by omega] at this
    exact this.symm
  have h1 : (BitVec.ofInt 64 ((a * 256 : Nat) : Int)).toNat = a * 256 := by
    rw [BitVec.ofInt_natCast, BitVec.toNat_ofNat]; exact Nat.mod_eq_of_lt (by omega)
  have h2 : (BitVec.ofInt 64 (b : Int)).toNat = b := by
    rw [BitVec.ofInt_natCast, BitVec.toNat_ofNat]; exact Nat.mod_eq_of_lt (by omega)
  show IntKind.i64.wrap ((BitVec.ofInt 64 ((a * 256 : Nat) : Int) ||| BitVec.ofInt 64 (b : Int)).toNat : Int) = _
  rw [BitVec.toNat_or, h1, h2, IntKind.wrap_i64, ho]
  omega

end Go.Proofs.YtabkelhipmijfaaDoor
