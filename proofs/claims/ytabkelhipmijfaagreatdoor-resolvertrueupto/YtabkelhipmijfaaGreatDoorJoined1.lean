/-
  Faults of package dns in memory, and what the reference's base tells of an error; Slices of bytes wherever they lie, errors.Is, and the reader of package five: stop, take, next, version, zero, count, counted; conditions as each theorem has them.
-/
import Derived.Test.YtabkelhipmijfaaGreatDoorC
import Derived.ChangeKeysEq
import Derived.Test.YtabkelhipmijfaaGreatDoorN
import Derived.LaidEql
import Derived.Stop.Asserts
import Derived.RowKitTokens
set_option linter.unusedSimpArgs false
set_option linter.unusedVariables false
namespace Go.Proofs.YtabkelhipmijfaaGreatDoor
open Go.RowKit

/-- A fault of a layer in memory. -/
def fltL (L : ByteArray) (a : Nat) (e : Value) : Obj := .cells #[.string L, .int .i64 a, e] 158
theorem flt_L (a : Nat) (e : Value) : flt a e = fltL ⟨#[104, 111, 115, 116]⟩ a e := rfl
/-- The error value v tells e: a fault of package dns, with a fault of package host within. -/
def IsF (w : World) : Er → Value → Prop
  | .ok, v => v = .nilIface
  | .one a c, v => ∃ b, v = .iface 156 (.pointer (some ⟨b, 0, none⟩)) ∧ w.heap[b]? = some (fltL ⟨#[100, 110, 115]⟩ a (.iface 24 (.int .i64 c)))
  | .two a a2 c, v => ∃ b b2, v = .iface 156 (.pointer (some ⟨b, 0, none⟩)) ∧ w.heap[b]? = some (fltL ⟨#[100, 110, 115]⟩ a (.iface 156 (.pointer (some ⟨b2, 0, none⟩)))) ∧ w.heap[b2]? = some (fltL ⟨#[104, 111, 115, 116]⟩ a2 (.iface 24 (.int .i64 c)))
theorem IsF.keep {w w' : World} {e : Er} {v : Value} (h : IsF w e v) (k : ∀ (b : Nat) (C : Array Value), w.heap[b]? = some (.cells C 158) → w'.heap[b]? = w.heap[b]?) : IsF w' e v := by
  cases e with
  | ok => exact h
  | one a c =>
    obtain ⟨b, hv, hb⟩ := h
    exact ⟨b, hv, (k b _ hb).trans hb⟩
  | two a a2 c =>
    obtain ⟨b, b2, hv, hb, hb2⟩ := h
    exact ⟨b, b2, hv, (k b _ hb).trans hb, (k b2 _ hb2).trans hb2⟩
theorem IsF.below {w w' : World} {e : Er} {v : Value} (h : IsF w e v) (k : Below w.heap.size w w') : IsF w' e v := h.keep fun b C hb => k.block b (lt_of_some hb)
theorem IsF.nil {w : World} {e : Er} {v : Value} (h : IsF w e v) (he : e = .ok) : v = .nilIface := by subst he; exact h
theorem IsF.ptr {w : World} {e : Er} {v : Value} (h : IsF w e v) (he : e ≠ .ok) : ∃ b, v = .iface 156 (.pointer (some ⟨b, 0, none⟩)) := by
  cases e with
  | ok => exact absurd rfl he
  | one a c => obtain ⟨b, hv, _⟩ := h; exact ⟨b, hv⟩
  | two a a2 c => obtain ⟨b, b2, hv, _⟩ := h; exact ⟨b, hv⟩
/-- What the reference tells of it. -/
def badF : Er → Value
  | .ok => badV .ok
  | .one a c => .agg #[.int .i64 1, .string ⟨#[100, 110, 115]⟩, .string ⟨#[]⟩, .string ⟨#[]⟩, .string ⟨#[]⟩, .int .i64 a, .int .i64 0, .int .i64 0, .int .i64 0, .int .i64 c]
  | .two a b c => .agg #[.int .i64 2, .string ⟨#[100, 110, 115]⟩, .string ⟨#[104, 111, 115, 116]⟩, .string ⟨#[]⟩, .string ⟨#[]⟩, .int .i64 a, .int .i64 b, .int .i64 0, .int .i64 0, .int .i64 c]
def badG : Er → Array Value
  | e => match badF e with
    | .agg c => c
    | _ => #[]
theorem badF_badG (e : Er) : badF e = .agg (badG e) := by cases e <;> rfl
theorem badG_size (e : Er) : (badG e).size = 10 := by cases e <;> rfl
theorem badG_one (e : Er) : (badG e).all (·.oneCell') = true := by cases e <;> simp [badG, badF, badV, Value.oneCell']
theorem badG_ok : badG .ok = badC .ok := rfl
theorem badGI (e : Er) : (Tryz.prog.info? 95).map (·.size) = some (badG e).size := by rw [badG_size]; exact info32

theorem ta1 (v : Value) (w : World) : (Instr.typeAssert (.iface 156 v) 67 24 true).run Tryz.prog w = .ok (.tuple #[.int .i64 0, .bool false]) w := by kernel_rfl
theorem ta2 (v : Value) (w : World) : (Instr.typeAssert (.iface 156 v) 67 156 true).run Tryz.prog w = .ok (.tuple #[v, .bool true]) w := by kernel_rfl
theorem ta3 (v : Value) (w : World) : (Instr.typeAssert (.iface 24 v) 67 24 true).run Tryz.prog w = .ok (.tuple #[v, .bool true]) w := by kernel_rfl
theorem fltL_cells {w : World} {b a : Nat} {L : ByteArray} {e : Value} (h : w.heap[b]? = some (fltL L a e)) : w.cell? ⟨b, 0, none⟩ = some (.string L) ∧ w.cell? ⟨b, 1, none⟩ = some (.int .i64 a) ∧ w.cell? ⟨b, 2, none⟩ = some e := by
  refine ⟨?_, ?_, ?_⟩ <;> simp [World.cell?, h, fltL]

end Go.Proofs.YtabkelhipmijfaaGreatDoor

set_option linter.unusedSimpArgs false
set_option linter.unusedVariables false
namespace Go.Proofs.YtabkelhipmijfaaGreatDoor
open Go.RowKit Go.Extern.Stop Go.Stop Go.Extern

/-- A slice of the bytes l, wherever it lies. -/
structure Src (w : World) (a : Option Addr) (len cap : Nat) (l : List Nat) : Prop where
  hlen : l.length = len
  hcap : len ≤ cap
  hmax : cap ≤ maxLen
  nil : a = none → cap = 0
  lies : 0 < len → ∃ b o, a = some ⟨b, o, none⟩ ∧ b < w.heap.size ∧ ∀ i, i < len → w.cell? ⟨b, o + i, none⟩ = some (.int .u8 (l.getD i 0 : Nat))
  byte : ∀ x ∈ l, x < 256
/-- It does not lie in block r. -/
def Off (a : Option Addr) (len r : Nat) : Prop := 0 < len → ∀ b o, a = some ⟨b, o, none⟩ → b ≠ r
theorem Src.keep {w w' : World} {a : Option Addr} {len cap : Nat} {l : List Nat} (h : Src w a len cap l) (hk : 0 < len → ∀ b o, a = some ⟨b, o, none⟩ → w'.heap[b]? = w.heap[b]?) (hs : w.heap.size ≤ w'.heap.size) : Src w' a len cap l := by
  refine ⟨h.hlen, h.hcap, h.hmax, h.nil, fun h0 => ?_, h.byte⟩
  obtain ⟨b, o, e, hb, hc⟩ := h.lies h0
  exact ⟨b, o, e, by omega, fun i hi => (World.cell?_of_block (hk h0 b o e)).trans (hc i hi)⟩
theorem Src.lt {w : World} {a : Option Addr} {len cap : Nat} {l : List Nat} (h : Src w a len cap l) (h0 : 0 < len) {b o : Nat} (e : a = some ⟨b, o, none⟩) : b < w.heap.size := by
  obtain ⟨b', o', e', hb, hc⟩ := h.lies h0
  rw [e] at e'
  simp only [Option.some.injEq, Addr.mk.injEq, and_true] at e'
  omega
theorem Src.below {w w' : World} {a : Option Addr} {len cap : Nat} {l : List Nat} (h : Src w a len cap l) (k : Below w.heap.size w w') : Src w' a len cap l :=
  h.keep (fun h0 b o e => k.block b (h.lt h0 e)) k.size
theorem Src.kept {w w' : World} {a : Option Addr} {len cap g : Nat} {l : List Nat} (h : Src w a len cap l) (k : Kept g g w w') (ho : Off a len g) : Src w' a len cap l :=
  h.keep (fun h0 b o e => k.block b (h.lt h0 e) (ho h0 b o e) (ho h0 b o e)) k.size
theorem Src.off {w : World} {a : Option Addr} {len cap : Nat} {l : List Nat} (h : Src w a len cap l) {r : Nat} (hr : w.heap.size ≤ r) : Off a len r := by
  intro h0 b o e
  have := h.lt h0 e
  omega
theorem Src.nilS (w : World) : Src w none 0 0 [] := ⟨rfl, Nat.le_refl _, Nat.zero_le _, fun _ => rfl, fun h => by omega, by simp⟩

/-! ### errors.Is of a number, and of a fault that holds one, and ErrLabel -/
theorem tO31 (v : Value) (w : World) : (ReflectliteType.typeOf #[.iface 24 v]).run Tryz.prog w = .ok (.iface 197 (.agg #[.pointer (some ⟨3, 24, none⟩)])) w := by kernel_rfl
theorem cT31 (w : World) : (callFunc 169 #[.agg #[.pointer (some ⟨3, 24, none⟩)]]).run Tryz.prog w = .ok (.value (.bool true)) w := by
  rw [@run_callFunc_extern Tryz.prog 169 _ (ReflectliteType.method fun t => do Rtype.noPackHeld "Comparable" t; pure (.bool (← typeInfo t).comparable)) Tryz.func169 (by kernel_rfl) (by kernel_rfl) (by kernel_rfl) (by kernel_rfl)]
  kernel_rfl
theorem nE1 (v : Value) (xT : TypeId) (w : World) : (Instr.typeAssert (.iface 24 v) xT 199 true).run Tryz.prog w = .ok (.tuple #[.nilIface, .bool false]) w := run_typeAssert_lacksB Tryz.underlying199 (by kernel_rfl) (by kernel_rfl) v xT w
theorem nE2 (v : Value) (xT : TypeId) (w : World) : (Instr.typeAssert (.iface 24 v) xT 202 true).run Tryz.prog w = .ok (.tuple #[.nilIface, .bool false]) w := run_typeAssert_lacksB Tryz.underlying202 (by kernel_rfl) (by kernel_rfl) v xT w
theorem nE3 (v : Value) (xT : TypeId) (w : World) : (Instr.typeAssert (.iface 24 v) xT 204 true).run Tryz.prog w = .ok (.tuple #[.nilIface, .bool false]) w := run_typeAssert_lacksB Tryz.underlying204 (by kernel_rfl) (by kernel_rfl) v xT w
theorem nF1 (v : Value) (xT : TypeId) (w : World) : (Instr.typeAssert (.iface 156 v) xT 199 true).run Tryz.prog w = .ok (.tuple #[.nilIface, .bool false]) w := run_typeAssert_lacksB Tryz.underlying199 (by kernel_rfl) (by kernel_rfl) v xT w
theorem hF2 (v : Value) (xT : TypeId) (w : World) : (Instr.typeAssert (.iface 156 v) xT 202 true).run Tryz.prog w = .ok (.tuple #[.iface 156 v, .bool true]) w := run_typeAssert_hasB Tryz.underlying202 (by kernel_rfl) v xT w
theorem eqn_num (c : Nat) (h6 : c ≠ 61) (w : World) : (binOp .eql 67 (.iface 24 (.int .i64 c)) (.iface 24 (.int .i64 61))).run Tryz.prog w = .ok (.bool false) w := by
  have h31 : (Tryz.prog.info? 24).map (·.comparable) = some true := by kernel_rfl
  obtain ⟨i, hi, hcmp⟩ := Option.map_eq_some_iff.1 h31
  have hc : ((c : Int) == 61) = false := by simp; omega
  have h : ∀ d : Nat, (Op.equalIn (d + 2) 67 (.iface 24 (.int .i64 c)) (.iface 24 (.int .i64 61))).run Tryz.prog w = .ok false w := fun d => by
    simp [Op.equalIn, run_underlying Tryz.underlying67, run_underlying Tryz.underlying24, typeInfo, hi, hcmp, hc]
  simp only [binOp]
  simp [Op.equal, Op.maxDepth, h 9998]
set_option maxHeartbeats 1000000 in
theorem eis_num (c : Nat) (b : Bool) (hb : b = decide (c = 61)) (w : World) : Calls Tryz.prog 77 #[.iface 24 (.int .i64 c), .iface 24 (.int .i64 61)] w fun e w' => e = .returned (.bool b) ∧ w' = w := by
  have h8 := @run_callFunc_extern Tryz.prog 98 _ ReflectliteType.typeOf Tryz.func98 (by kernel_rfl) (by kernel_rfl) (by kernel_rfl) (by kernel_rfl)
  have tT := tO31
  have cT := cT31
  have n1 := nE1
  have n2 := nE2
  have n3 := nE3
  subst hb
  by_cases h6 : c = 61
  · subst h6
    have heq : ∀ w, (binOp .eql 67 (.iface 24 (.int .i64 61)) (.iface 24 (.int .i64 61))).run Tryz.prog w = .ok (.bool true) w := fun w => by kernel_rfl
    go_enter Tryz.func77, Tryz.ntmps77
    go_wp2
    refine wp_loop_rounds 1 ?_
    rw [rounds_succ]
    go_wp2
    go_ret
    exact ⟨rfl, rfl⟩
  · have heq : ∀ w, (binOp .eql 67 (.iface 24 (.int .i64 c)) (.iface 24 (.int .i64 61))).run Tryz.prog w = .ok (.bool false) w := fun w => eqn_num c h6 w
    go_enter Tryz.func77, Tryz.ntmps77
    go_wp2
    refine wp_loop_rounds 1 ?_
    rw [rounds_succ]
    go_wp2
    go_ret
    exact ⟨by simp [h6], rfl⟩
set_option maxHeartbeats 1000000 in
theorem eis_flt (L : ByteArray) (a c b : Nat) (w : World) (h : w.heap[b]? = some (fltL L a (.iface 24 (.int .i64 c)))) (h6 : c ≠ 61) : Calls Tryz.prog 77 #[.iface 156 (.pointer (some ⟨b, 0, none⟩)), .iface 24 (.int .i64 61)] w fun e w' => e = .returned (.bool false) ∧ w' = w := by
  have h8 := @run_callFunc_extern Tryz.prog 98 _ ReflectliteType.typeOf Tryz.func98 (by kernel_rfl) (by kernel_rfl) (by kernel_rfl) (by kernel_rfl)
  have tT := tO31
  have cT := cT31
  have n1 := nE1
  have n2 := nE2
  have n3 := nE3
  have f1 := nF1
  have f2 := hF2
  obtain ⟨_, _, c2⟩ := fltL_cells h
  have heq : ∀ w, (binOp .eql 67 (.iface 24 (.int .i64 c)) (.iface 24 (.int .i64 61))).run Tryz.prog w = .ok (.bool false) w := fun w => eqn_num c h6 w
  have hty := run_eql_iface_types (P := Tryz.prog) 156 24 (.pointer (some ⟨b, 0, none⟩)) (.int .i64 61) Tryz.underlying67 (by decide) w
  clear h h6
  go_enter Tryz.func77, Tryz.ntmps77
  go_wp2
  refine wp_loop_rounds 2 ?_
  rw [rounds_succ]
  go_wp2
  rw [rounds_succ]
  go_wp2
  go_ret
  exact ⟨rfl, rfl⟩
end Go.Proofs.YtabkelhipmijfaaGreatDoor
