/-
  Faults of package dns in memory, and what the reference's base tells of an error; Slices of bytes wherever they lie, errors.Is, and the reader of package five: stop, take, next, version, zero, count, counted; conditions as each theorem has them.
-/
import Derived.Test.YtabkelhipmijfaaDoorC
import Derived.ChangeKeysEq
import Derived.Test.YtabkelhipmijfaaDoorN
import Derived.LaidEql
import Derived.Stop.Asserts
import Derived.RowKitTokens
set_option linter.unusedSimpArgs false
set_option linter.unusedVariables false
namespace Go.Proofs.YtabkelhipmijfaaDoor
open Go.RowKit

/-- A fault of a layer in memory. -/
def fltL (L : ByteArray) (a : Nat) (e : Value) : Obj := .cells #[.string L, .int .i64 a, e] 109
theorem flt_L (a : Nat) (e : Value) : flt a e = fltL ⟨#[104, 111, 115, 116]⟩ a e := rfl
/-- The error value v tells e: a fault of package dns, with a fault of package host within. -/
def IsF (w : World) : Er → Value → Prop
  | .ok, v => v = .nilIface
  | .one a c, v => ∃ b, v = .iface 107 (.pointer (some ⟨b, 0, none⟩)) ∧ w.heap[b]? = some (fltL ⟨#[100, 110, 115]⟩ a (.iface 25 (.int .i64 c)))
  | .two a a2 c, v => ∃ b b2, v = .iface 107 (.pointer (some ⟨b, 0, none⟩)) ∧ w.heap[b]? = some (fltL ⟨#[100, 110, 115]⟩ a (.iface 107 (.pointer (some ⟨b2, 0, none⟩)))) ∧ w.heap[b2]? = some (fltL ⟨#[104, 111, 115, 116]⟩ a2 (.iface 25 (.int .i64 c)))
theorem IsF.keep {w w' : World} {e : Er} {v : Value} (h : IsF w e v) (k : ∀ (b : Nat) (C : Array Value), w.heap[b]? = some (.cells C 109) → w'.heap[b]? = w.heap[b]?) : IsF w' e v := by
  cases e with
  | ok => exact h
  | one a c =>
    obtain ⟨b, hv, hb⟩ := h
    exact ⟨b, hv, (k b _ hb).trans hb⟩
  | two a a2 c =>
    obtain ⟨b, b2, hv, hb, hb2⟩ := h
    exact ⟨b, b2, hv, (k b _ hb).trans hb, (k b2 _ hb2).trans hb2⟩
theorem IsF.below {w w' : World} {e : Er} {v : Value} (h : IsF w e v) (k : Below w.heap.size w w') : IsF w' e v := h.keep fun b C hb => k.block b (lt_of_some hb)
theorem IsF.nil {w : World} {e : Er} {v : Value} (h : IsF w e v) (he : e = .ok) : v = .nilIface := by subst he; exact h
theorem IsF.ptr {w : World} {e : Er} {v : Value} (h : IsF w e v) (he : e ≠ .ok) : ∃ b, v = .iface 107 (.pointer (some ⟨b, 0, none⟩)) := by
  cases e with
  | ok => exact absurd rfl he
  | one a c => obtain ⟨b, hv, _⟩ := h; exact ⟨b, hv⟩
  | two a a2 c => obtain ⟨b, b2, hv, _⟩ := h; exact ⟨b, hv⟩
/-- What the reference tells of it. -/
def badF : Er → Value
  | .ok => badV .ok
  | .one a c => .agg #[.int .i64 1, .string ⟨#[100, 110, 115]⟩, .string ⟨#[]⟩, .string ⟨#[]⟩, .string ⟨#[]⟩, .int .i64 a, .int .i64 0, .int .i64 0, .int .i64 0, .int .i64 c]
  | .two a b c => .agg #[.int .i64 2, .string ⟨#[100, 110, 115]⟩, .string ⟨#[104, 111, 115, 116]⟩, .string ⟨#[]⟩, .string ⟨#[]⟩, .int .i64 a, .int .i64 b, .int .i64 0, .int .i64 0, .int .i64 c]
def badG : Er → Array Value
  | e => match badF e with
    | .agg c => c
    | _ => #[]
theorem badF_badG (e : Er) : badF e = .agg (badG e) := by cases e <;> rfl
theorem badG_size (e : Er) : (badG e).size = 10 := by cases e <;> rfl
theorem badG_one (e : Er) : (badG e).all (·.oneCell') = true := by cases e <;> simp [badG, badF, badV, Value.oneCell']
theorem badG_ok : badG .ok = badC .ok := rfl
theorem ta1 (v : Value) (w : World) : (Instr.typeAssert (.iface 107 v) 96 25 true).run Tryd.prog w = .ok (.tuple #[.int .i64 0, .bool false]) w := by kernel_rfl
theorem ta2 (v : Value) (w : World) : (Instr.typeAssert (.iface 107 v) 96 107 true).run Tryd.prog w = .ok (.tuple #[v, .bool true]) w := by kernel_rfl
theorem ta3 (v : Value) (w : World) : (Instr.typeAssert (.iface 25 v) 96 25 true).run Tryd.prog w = .ok (.tuple #[v, .bool true]) w := by kernel_rfl
theorem fltL_cells {w : World} {b a : Nat} {L : ByteArray} {e : Value} (h : w.heap[b]? = some (fltL L a e)) : w.cell? ⟨b, 0, none⟩ = some (.string L) ∧ w.cell? ⟨b, 1, none⟩ = some (.int .i64 a) ∧ w.cell? ⟨b, 2, none⟩ = some e := by
  refine ⟨?_, ?_, ?_⟩ <;> simp [World.cell?, h, fltL]

end Go.Proofs.YtabkelhipmijfaaDoor

set_option linter.unusedSimpArgs false
set_option linter.unusedVariables false
namespace Go.Proofs.YtabkelhipmijfaaDoor
open Go.RowKit Go.Extern.Stop Go.Stop Go.Extern

/-- A slice of the bytes l, wherever it lies. -/
structure Src (w : World) (a : Option Addr) (len cap : Nat) (l : List Nat) : Prop where
  hlen : l.length = len
  hcap : len ≤ cap
  hmax : cap ≤ maxLen
  nil : a = none → cap = 0
  lies : 0 < len → ∃ b o, a = some ⟨b, o, none⟩ ∧ b < w.heap.size ∧ ∀ i, i < len → w.cell? ⟨b, o + i, none⟩ = some (.int .u8 (l.getD i 0 : Nat))
  byte : ∀ x ∈ l, x < 256
/-- It does not lie in block r. -/
def Off (a : Option Addr) (len r : Nat) : Prop := 0 < len → ∀ b o, a = some ⟨b, o, none⟩ → b ≠ r
theorem Src.keep {w w' : World} {a : Option Addr} {len cap : Nat} {l : List Nat} (h : Src w a len cap l) (hk : 0 < len → ∀ b o, a = some ⟨b, o, none⟩ → w'.heap[b]? = w.heap[b]?) (hs : w.heap.size ≤ w'.heap.size) : Src w' a len cap l := by
  refine ⟨h.hlen, h.hcap, h.hmax, h.nil, fun h0 => ?_, h.byte⟩
  obtain ⟨b, o, e, hb, hc⟩ := h.lies h0
  exact ⟨b, o, e, by omega, fun i hi => (World.cell?_of_block (hk h0 b o e)).trans (hc i hi)⟩
theorem Src.lt {w : World} {a : Option Addr} {len cap : Nat} {l : List Nat} (h : Src w a len cap l) (h0 : 0 < len) {b o : Nat} (e : a = some ⟨b, o, none⟩) : b < w.heap.size := by
  obtain ⟨b', o', e', hb, hc⟩ := h.lies h0
  rw [e] at e'
  simp only [Option.some.injEq, Addr.mk.injEq, and_true] at e'
  omega
theorem Src.below {w w' : World} {a : Option Addr} {len cap : Nat} {l : List Nat} (h : Src w a len cap l) (k : Below w.heap.size w w') : Src w' a len cap l :=
  h.keep (fun h0 b o e => k.block b (h.lt h0 e)) k.size
theorem Src.kept {w w' : World} {a : Option Addr} {len cap g : Nat} {l : List Nat} (h : Src w a len cap l) (k : Kept g g w w') (ho : Off a len g) : Src w' a len cap l :=
  h.keep (fun h0 b o e => k.block b (h.lt h0 e) (ho h0 b o e) (ho h0 b o e)) k.size
theorem Src.off {w : World} {a : Option Addr} {len cap : Nat} {l : List Nat} (h : Src w a len cap l) {r : Nat} (hr : w.heap.size ≤ r) : Off a len r := by
  intro h0 b o e
  have := h.lt h0 e
  omega
theorem Src.nilS (w : World) : Src w none 0 0 [] := ⟨rfl, Nat.le_refl _, Nat.zero_le _, fun _ => rfl, fun h => by omega, by simp⟩

/-! ### errors.Is of a number, and of a fault that holds one, and ErrLabel -/
theorem eqn_num (c : Nat) (h6 : c ≠ 61) (w : World) : (binOp .eql 96 (.iface 25 (.int .i64 c)) (.iface 25 (.int .i64 61))).run Tryd.prog w = .ok (.bool false) w := by
  have h31 : (Tryd.prog.info? 25).map (·.comparable) = some true := by kernel_rfl
  obtain ⟨i, hi, hcmp⟩ := Option.map_eq_some_iff.1 h31
  have hc : ((c : Int) == 61) = false := by simp; omega
  have h : ∀ d : Nat, (Op.equalIn (d + 2) 96 (.iface 25 (.int .i64 c)) (.iface 25 (.int .i64 61))).run Tryd.prog w = .ok false w := fun d => by
    simp [Op.equalIn, run_underlying Tryd.underlying96, run_underlying Tryd.underlying25, typeInfo, hi, hcmp, hc]
  simp only [binOp]
  simp [Op.equal, Op.maxDepth, h 9998]
end Go.Proofs.YtabkelhipmijfaaDoor
