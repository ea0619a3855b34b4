/-
  Slices of bytes wherever they lie, errors.Is, and the reader of package five: stop, take, next, version, zero, count, counted; conditions as each theorem has them.
-/
import Derived.Test.YtelfikbahcckaaaDoorD
import Derived.Test.YtelfikbahcckaaaDoorN
import Derived.LaidEql
import Derived.Stop.Asserts
import Derived.RowKitTokens
set_option linter.unusedSimpArgs false
set_option linter.unusedVariables false
namespace Go.Proofs.YtelfikbahcckaaaDoor
open Go.RowKit Go.Extern.Stop Go.Stop Go.Extern

/-- A slice of the bytes l, wherever it lies. -/
structure Src (w : World) (a : Option Addr) (len cap : Nat) (l : List Nat) : Prop where
  hlen : l.length = len
  hcap : len ≤ cap
  hmax : cap ≤ maxLen
  nil : a = none → cap = 0
  lies : 0 < len → ∃ b o, a = some ⟨b, o, none⟩ ∧ b < w.heap.size ∧ ∀ i, i < len → w.cell? ⟨b, o + i, none⟩ = some (.int .u8 (l.getD i 0 : Nat))
  byte : ∀ x ∈ l, x < 256
/-- It does not lie in block r. -/
def Off (a : Option Addr) (len r : Nat) : Prop := 0 < len → ∀ b o, a = some ⟨b, o, none⟩ → b ≠ r
theorem Src.keep {w w' : World} {a : Option Addr} {len cap : Nat} {l : List Nat} (h : Src w a len cap l) (hk : 0 < len → ∀ b o, a = some ⟨b, o, none⟩ → w'.heap[b]? = w.heap[b]?) (hs : w.heap.size ≤ w'.heap.size) : Src w' a len cap l := by
  refine ⟨h.hlen, h.hcap, h.hmax, h.nil, fun h0 => ?_, h.byte⟩
  obtain ⟨b, o, e, hb, hc⟩ := h.lies h0
  exact ⟨b, o, e, by omega, fun i hi => (World.cell?_of_block (hk h0 b o e)).trans (hc i hi)⟩
theorem Src.lt {w : World} {a : Option Addr} {len cap : Nat} {l : List Nat} (h : Src w a len cap l) (h0 : 0 < len) {b o : Nat} (e : a = some ⟨b, o, none⟩) : b < w.heap.size := by
  obtain ⟨b', o', e', hb, hc⟩ := h.lies h0
  rw [e] at e'
  simp only [Option.some.injEq, Addr.mk.injEq, and_true] at e'
  omega
theorem Src.below {w w' : World} {a : Option Addr} {len cap : Nat} {l : List Nat} (h : Src w a len cap l) (k : Below w.heap.size w w') : Src w' a len cap l :=
  h.keep (fun h0 b o e => k.block b (h.lt h0 e)) k.size
theorem Src.kept {w w' : World} {a : Option Addr} {len cap g : Nat} {l : List Nat} (h : Src w a len cap l) (k : Kept g g w w') (ho : Off a len g) : Src w' a len cap l :=
  h.keep (fun h0 b o e => k.block b (h.lt h0 e) (ho h0 b o e) (ho h0 b o e)) k.size
theorem Src.off {w : World} {a : Option Addr} {len cap : Nat} {l : List Nat} (h : Src w a len cap l) {r : Nat} (hr : w.heap.size ≤ r) : Off a len r := by
  intro h0 b o e
  have := h.lt h0 e
  omega
theorem Src.nilS (w : World) : Src w none 0 0 [] := ⟨rfl, Nat.le_refl _, Nat.zero_le _, fun _ => rfl, fun h => by omega, by simp⟩

/-! ### errors.Is of a number, and of a fault that holds one, and ErrLabel -/
theorem tO31 (v : Value) (w : World) : (ReflectliteType.typeOf #[.iface 30 v]).run Tryd.prog w = .ok (.iface 136 (.agg #[.pointer (some ⟨3, 30, none⟩)])) w := by kernel_rfl
theorem cT31 (w : World) : (callFunc 111 #[.agg #[.pointer (some ⟨3, 30, none⟩)]]).run Tryd.prog w = .ok (.value (.bool true)) w := by
  rw [@run_callFunc_extern Tryd.prog 111 _ (ReflectliteType.method fun t => do Rtype.noPackHeld "Comparable" t; pure (.bool (← typeInfo t).comparable)) Tryd.func111 (by kernel_rfl) (by kernel_rfl) (by kernel_rfl) (by kernel_rfl)]
  kernel_rfl
theorem nE1 (v : Value) (xT : TypeId) (w : World) : (Instr.typeAssert (.iface 30 v) xT 138 true).run Tryd.prog w = .ok (.tuple #[.nilIface, .bool false]) w := run_typeAssert_lacksB Tryd.underlying138 (by kernel_rfl) (by kernel_rfl) v xT w
theorem nE2 (v : Value) (xT : TypeId) (w : World) : (Instr.typeAssert (.iface 30 v) xT 141 true).run Tryd.prog w = .ok (.tuple #[.nilIface, .bool false]) w := run_typeAssert_lacksB Tryd.underlying141 (by kernel_rfl) (by kernel_rfl) v xT w
theorem nE3 (v : Value) (xT : TypeId) (w : World) : (Instr.typeAssert (.iface 30 v) xT 143 true).run Tryd.prog w = .ok (.tuple #[.nilIface, .bool false]) w := run_typeAssert_lacksB Tryd.underlying143 (by kernel_rfl) (by kernel_rfl) v xT w
theorem nF1 (v : Value) (xT : TypeId) (w : World) : (Instr.typeAssert (.iface 87 v) xT 138 true).run Tryd.prog w = .ok (.tuple #[.nilIface, .bool false]) w := run_typeAssert_lacksB Tryd.underlying138 (by kernel_rfl) (by kernel_rfl) v xT w
theorem hF2 (v : Value) (xT : TypeId) (w : World) : (Instr.typeAssert (.iface 87 v) xT 141 true).run Tryd.prog w = .ok (.tuple #[.iface 87 v, .bool true]) w := run_typeAssert_hasB Tryd.underlying141 (by kernel_rfl) v xT w
theorem eqn_num (c : Nat) (h6 : c ≠ 61) (w : World) : (binOp .eql 25 (.iface 30 (.int .i64 c)) (.iface 30 (.int .i64 61))).run Tryd.prog w = .ok (.bool false) w := by
  have h31 : (Tryd.prog.info? 30).map (·.comparable) = some true := by kernel_rfl
  obtain ⟨i, hi, hcmp⟩ := Option.map_eq_some_iff.1 h31
  have hc : ((c : Int) == 61) = false := by simp; omega
  have h : ∀ d : Nat, (Op.equalIn (d + 2) 25 (.iface 30 (.int .i64 c)) (.iface 30 (.int .i64 61))).run Tryd.prog w = .ok false w := fun d => by
    simp [Op.equalIn, run_underlying Tryd.underlying25, run_underlying Tryd.underlying30, typeInfo, hi, hcmp, hc]
  simp only [binOp]
  simp [Op.equal, Op.maxDepth, h 9998]
set_option maxHeartbeats 1000000 in
theorem eis_num (c : Nat) (b : Bool) (hb : b = decide (c = 61)) (w : World) : Calls Tryd.prog 71 #[.iface 30 (.int .i64 c), .iface 30 (.int .i64 61)] w fun e w' => e = .returned (.bool b) ∧ w' = w := by
  have h8 := @run_callFunc_extern Tryd.prog 77 _ ReflectliteType.typeOf Tryd.func77 (by kernel_rfl) (by kernel_rfl) (by kernel_rfl) (by kernel_rfl)
  have tT := tO31
  have cT := cT31
  have n1 := nE1
  have n2 := nE2
  have n3 := nE3
  subst hb
  by_cases h6 : c = 61
  · subst h6
    have heq : ∀ w, (binOp .eql 25 (.iface 30 (.int .i64 61)) (.iface 30 (.int .i64 61))).run Tryd.prog w = .ok (.bool true) w := fun w => by kernel_rfl
    go_enter Tryd.func71, Tryd.ntmps71
    go_wp2
    refine wp_loop_rounds 1 ?_
    rw [rounds_succ]
    go_wp2
    go_ret
    exact ⟨rfl, rfl⟩
  · have heq : ∀ w, (binOp .eql 25 (.iface 30 (.int .i64 c)) (.iface 30 (.int .i64 61))).run Tryd.prog w = .ok (.bool false) w := fun w => eqn_num c h6 w
    go_enter Tryd.func71, Tryd.ntmps71
    go_wp2
    refine wp_loop_rounds 1 ?_
    rw [rounds_succ]
    go_wp2
    go_ret
    exact ⟨by simp [h6], rfl⟩
set_option maxHeartbeats 1000000 in
theorem eis_flt (L : ByteArray) (a c b : Nat) (w : World) (h : w.heap[b]? = some (fltL L a (.iface 30 (.int .i64 c)))) (h6 : c ≠ 61) : Calls Tryd.prog 71 #[.iface 87 (.pointer (some ⟨b, 0, none⟩)), .iface 30 (.int .i64 61)] w fun e w' => e = .returned (.bool false) ∧ w' = w := by
  have h8 := @run_callFunc_extern Tryd.prog 77 _ ReflectliteType.typeOf Tryd.func77 (by kernel_rfl) (by kernel_rfl) (by kernel_rfl) (by kernel_rfl)
  have tT := tO31
  have cT := cT31
  have n1 := nE1
  have n2 := nE2
  have n3 := nE3
  have f1 := nF1
  have f2 := hF2
  obtain ⟨_, _, c2⟩ := fltL_cells h
  have heq : ∀ w, (binOp .eql 25 (.iface 30 (.int .i64 c)) (.iface 30 (.int .i64 61))).run Tryd.prog w = .ok (.bool false) w := fun w => eqn_num c h6 w
  have hty := run_eql_iface_types (P := Tryd.prog) 87 30 (.pointer (some ⟨b, 0, none⟩)) (.int .i64 61) Tryd.underlying25 (by decide) w
  clear h h6
  go_enter Tryd.func71, Tryd.ntmps71
  go_wp2
  refine wp_loop_rounds 2 ?_
  rw [rounds_succ]
  go_wp2
  rw [rounds_succ]
  go_wp2
  go_ret
  exact ⟨rfl, rfl⟩
end Go.Proofs.YtelfikbahcckaaaDoor
