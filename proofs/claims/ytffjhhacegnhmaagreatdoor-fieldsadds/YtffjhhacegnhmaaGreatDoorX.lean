/-
  ParsePort, Parse and ParseDest of package host; ParseDest of package host; ParsePort and Parse of the reference; Parse of the reference; Rows that are loaded where a guard is met; conditions as each theorem has them.
-/
import Derived.Test.YtffjhhacegnhmaaGreatDoorI
import Derived.Test.YtffjhhacegnhmaaGreatDoorJ
import Derived.Test.YtffjhhacegnhmaaGreatDoorQ
import Derived.Deep.DrawnRows
set_option linter.unusedSimpArgs false
set_option linter.unusedVariables false
namespace Go.Proofs.YtffjhhacegnhmaaGreatDoor
open Go.RowKit

/-- A host's cells. -/
def hoC (h : Ho) : Array Value := (nums .u8 h.1 ++ [Value.string (strN h.2)]).toArray
def z5 : Array Value := #[.int .u8 0, .int .u8 0, .int .u8 0, .int .u8 0, .string ⟨#[]⟩]
theorem z5_one : z5.all (·.oneCell') = true := by simp [z5, Value.oneCell']
theorem octs_four : ∀ (ps : List (List Nat)) (i a : Nat) (acc : List Nat), (octs i a ps acc).2 ≠ .ok → (octs i a ps acc).1 = [0, 0, 0, 0]
  | [], i, a, acc, h => absurd rfl h
  | p :: ps, i, a, acc, h => by
    unfold octs at h ⊢
    split
    · rfl
    · rename_i h4
      rw [if_neg h4] at h
      split
      · rfl
      · rename_i n hn
        rw [hn] at h
        exact octs_four ps _ _ _ h
theorem octs_some : ∀ (ps : List (List Nat)) (i a : Nat) (acc : List Nat), (octs i a ps acc).2 = .ok → i ≤ 4 → i + ps.length ≤ 4
  | [], i, a, acc, _, h => by simpa using h
  | p :: ps, i, a, acc, h, hi => by
    unfold octs at h
    split at h
    · cases h
    · rename_i h4
      split at h
      · cases h
      · have := octs_some ps _ _ _ h (by omega)
        simp; omega
theorem addr_len (l : List Nat) : (addr l).1.length = 4 := by
  unfold addr
  split
  · rfl
  · split
    · rfl
    · rename_i h1 h2
      by_cases hok : (octs 0 0 (pcs l) []).2 = .ok
      · have h3 := octs_len _ _ _ _ hok
        have h4 := octs_some _ _ _ _ hok (by omega)
        simp at h3
        have : ¬ (pcs l).length < 4 := fun h => h2 ⟨hok, h⟩
        omega
      · rw [octs_four _ _ _ _ hok]; rfl
theorem octs_bytes : ∀ (ps : List (List Nat)) (i a : Nat) (acc : List Nat), (∀ x ∈ acc, x < 256) → ∀ x ∈ (octs i a ps acc).1, x < 256
  | [], i, a, acc, h => h
  | p :: ps, i, a, acc, h => by
    unfold octs
    split
    · intro x hx; simp at hx; omega
    · split
      · intro x hx; simp at hx; omega
      · rename_i n hn
        refine octs_bytes ps _ _ _ ?_
        intro x hx
        simp at hx
        rcases hx with hx | rfl
        · exact h x hx
        · unfold rd at hn
          split at hn
          · rename_i hh; simp at hn; omega
          · cases hn
theorem addr_bytes (l : List Nat) : ∀ x ∈ (addr l).1, x < 256 := by
  unfold addr
  split
  · intro x hx; simp at hx; omega
  · split
    · intro x hx; simp at hx; omega
    · exact octs_bytes _ _ _ _ (by simp)
theorem four {A : List Nat} (h : A.length = 4) : ∃ x0 x1 x2 x3, A = [x0, x1, x2, x3] := by
  match A, h with
  | [a, b, c, d], _ => exact ⟨a, b, c, d, rfl⟩

end Go.Proofs.YtffjhhacegnhmaaGreatDoor

set_option linter.unusedSimpArgs false
set_option linter.unusedVariables false
namespace Go.Proofs.YtffjhhacegnhmaaGreatDoor
open Go.RowKit

theorem colon_spec : ∀ (l : List Nat) (i : Nat), (colon i l = none ∧ ∀ j, j < l.length → l.getD j 0 ≠ 58) ∨ ∃ j, colon i l = some (i + j) ∧ j < l.length ∧ l.getD j 0 = 58 ∧ ∀ k, j < k → k < l.length → l.getD k 0 ≠ 58
  | [], i => Or.inl ⟨rfl, fun j hj => by simp at hj⟩
  | c :: r, i => by
    rcases colon_spec r (i + 1) with ⟨h, hn⟩ | ⟨j, h, hj, hc, hn⟩
    · unfold colon
      rw [h]
      by_cases hc : c = 58
      · refine Or.inr ⟨0, by simp [hc], by simp, by simpa using hc, fun k h1 h2 => ?_⟩
        obtain ⟨m, rfl⟩ : ∃ m, k = m + 1 := ⟨k - 1, by omega⟩
        simpa using hn m (by simpa using h2)
      · refine Or.inl ⟨by simp [hc], fun k hk => ?_⟩
        cases k with
        | zero => simpa using hc
        | succ m => simpa using hn m (by simpa using hk)
    · unfold colon
      rw [h]
      refine Or.inr ⟨j + 1, by simp; omega, by simpa using hj, by simpa using hc, fun k h1 h2 => ?_⟩
      obtain ⟨m, rfl⟩ : ∃ m, k = m + 1 := ⟨k - 1, by omega⟩
      simpa using hn m (by omega) (by simpa using h2)
theorem bang_byt (t : ByteArray) (j : Nat) (h : j < t.size) : ((t.data[j]!).toNat : Int) = ((byt t).getD j 0 : Nat) := by
  have h' : j < t.data.toList.length := by rw [Array.length_toList]; exact h
  rw [getElem!_pos t.data j h, byt, List.getD, List.getElem?_map, List.getElem?_eq_getElem h']
  rfl
def colI (o : Option Nat) : Int := match o with | some c => (c : Int) | none => -1
theorem colon_lt {l : List Nat} {c : Nat} (h : colon 0 l = some c) : c < l.length := by
  rcases colon_spec l 0 with ⟨g, _⟩ | ⟨j, g, hj, _⟩
  · rw [g] at h; cases h
  · rw [g] at h; simp at h; omega
theorem host_len (l : List Nat) : (host l).1.1.length = 4 := by
  unfold host
  split
  · rfl
  · split
    · exact addr_len l
    · rfl
theorem port_two (l : List Nat) : (port l).2 = .ok ∨ (port l).2 = .one 0 62 := by
  unfold port
  split
  · split
    · exact Or.inr rfl
    · exact Or.inl rfl
  · exact Or.inr rfl
def deC (d : De) : Array Value := (nums .u8 d.1.1 ++ [Value.string (strN d.1.2), Value.int .i64 (d.2 : Nat)]).toArray
def z6 : Array Value := #[.int .u8 0, .int .u8 0, .int .u8 0, .int .u8 0, .string ⟨#[]⟩, .int .i64 0]
theorem z6_one : z6.all (·.oneCell') = true := by simp [z6, Value.oneCell']
theorem IsEr.some {w : World} {e : Er} {v : Value} (h : IsEr w e v) (he : e ≠ .ok) : ∃ b, v = .iface 138 (.pointer (some ⟨b, 0, none⟩)) := by
  cases e with
  | ok => exact absurd rfl he
  | one a c => obtain ⟨b, hv, _⟩ := h; exact ⟨b, hv⟩
  | two a a2 c => obtain ⟨b, b2, hv, _⟩ := h; exact ⟨b, hv⟩

end Go.Proofs.YtffjhhacegnhmaaGreatDoor

set_option linter.unusedSimpArgs false
set_option linter.unusedVariables false
namespace Go.Proofs.YtffjhhacegnhmaaGreatDoor
open Go.RowKit

theorem port_wh (l : List Nat) : port l = match wh l 5 with
    | some n => if n < 1 ∨ 65535 < n then (0, .one 0 62) else (n, .ok)
    | none => (0, .one 0 62) := by
  have h := wh_port l
  unfold port
  rw [← h]
  cases wh l 5 with
  | none => rfl
  | some n =>
    simp only
    by_cases h1 : 65535 < n
    · rw [if_pos h1, if_pos (Or.inr h1)]
    · rw [if_neg h1]
      simp only
      by_cases h0 : n = 0
      · rw [if_pos h0, if_pos (Or.inl (by omega))]
      · rw [if_neg h0, if_neg (by omega)]
theorem wh_lt {l : List Nat} {d n : Nat} (h : wh l d = some n) : n < 10 ^ d := by
  unfold wh at h
  split at h
  · rename_i hh
    simp at h
    have hall : l.all dig = true := by have := hh.1; rw [isNum_of] at this; simp only [Bool.and_eq_true] at this; exact this.1.2
    have := val_lt l hall
    rw [h] at this
    exact Nat.lt_of_lt_of_le this (Nat.pow_le_pow_right (n := 10) (by omega) hh.2)
  · cases h

theorem host_long {l : List Nat} (h : 253 < l.length) : host l = (([0, 0, 0, 0], []), .one 253 3) := by
  have h0 : l ≠ [] := fun e => by rw [e] at h; simp at h
  rw [host, if_neg h0]
  split
  · rw [addr, if_pos h]
  · rw [name, if_pos h]
theorem set5 {w : World} {B : Nat} {t : TypeId} {o0 o1 o2 o3 o4 : Value} (h : w.heap[B]? = some (.cells #[o0, o1, o2, o3, o4] t)) (v0 v1 v2 v3 v4 : Value) :
    (((((w.setCell ⟨B, 0, none⟩ v0).setCell ⟨B, 1, none⟩ v1).setCell ⟨B, 2, none⟩ v2).setCell ⟨B, 3, none⟩ v3).setCell ⟨B, 4, none⟩ v4).heap[B]? = some (.cells #[v0, v1, v2, v3, v4] t) := by
  rw [heap_setCell_same (heap_setCell_same (heap_setCell_same (heap_setCell_same (heap_setCell_same h _ _) _ _) _ _) _ _) _ _]
  rfl
theorem set10 {w : World} {B : Nat} {t : TypeId} {o0 o1 o2 o3 o4 o5 o6 o7 o8 o9 : Value} (h : w.heap[B]? = some (.cells #[o0, o1, o2, o3, o4, o5, o6, o7, o8, o9] t)) (v0 v1 v2 v3 v4 v5 v6 v7 v8 v9 : Value) :
    ((((((((((w.setCell ⟨B, 0, none⟩ v0).setCell ⟨B, 1, none⟩ v1).setCell ⟨B, 2, none⟩ v2).setCell ⟨B, 3, none⟩ v3).setCell ⟨B, 4, none⟩ v4).setCell ⟨B, 5, none⟩ v5).setCell ⟨B, 6, none⟩ v6).setCell ⟨B, 7, none⟩ v7).setCell ⟨B, 8, none⟩ v8).setCell ⟨B, 9, none⟩ v9).heap[B]? = some (.cells #[v0, v1, v2, v3, v4, v5, v6, v7, v8, v9] t) := by
  rw [heap_setCell_same (heap_setCell_same (heap_setCell_same (heap_setCell_same (heap_setCell_same (heap_setCell_same (heap_setCell_same (heap_setCell_same (heap_setCell_same (heap_setCell_same h _ _) _ _) _ _) _ _) _ _) _ _) _ _) _ _) _ _) _ _]
  kernel_rfl

end Go.Proofs.YtffjhhacegnhmaaGreatDoor

set_option linter.unusedSimpArgs false
set_option linter.unusedVariables false
namespace Go.Proofs.YtffjhhacegnhmaaGreatDoor
open Go.RowKit

/-- The cells of a block. -/
def rowOf (w : World) (g : Nat) : Array Value := match w.heap[g]? with | some (.cells cs _ _) => cs | _ => #[]
def isRow (w : World) (g n : Nat) : Bool := match w.heap[g]? with | some (.cells cs _ _) => cs.size == n | _ => false
def arrAt (w : World) : Value → Array Value
  | .pointer (some ⟨g, 0, none⟩) => rowOf w g
  | _ => #[]
def isAt (n : Nat) (w : World) : Value → Bool
  | .pointer (some ⟨g, 0, none⟩) => isRow w g n
  | _ => false
theorem arrAt_ptr (w : World) (g : Nat) : arrAt w (.pointer (some ⟨g, 0, none⟩)) = rowOf w g := rfl
theorem isAt_ptr (n : Nat) (w : World) (g : Nat) : isAt n w (.pointer (some ⟨g, 0, none⟩)) = isRow w g n := rfl
theorem rowOf_drew (w : World) (g : Nat) : rowOf w.drew g = rowOf w g := rfl
theorem isRow_drew (w : World) (g n : Nat) : isRow w.drew g n = isRow w g n := rfl
theorem rowOf_of {w : World} {g : Nat} {cs : Array Value} {t : TypeId} (h : w.heap[g]? = some (.cells cs t)) : rowOf w g = cs := by simp [rowOf, h]
theorem isRow_of {w : World} {g n : Nat} {cs : Array Value} {t : TypeId} (h : w.heap[g]? = some (.cells cs t)) (hn : cs.size = n) : isRow w g n = true := by simp [isRow, h, hn]
def canPut (n t : Nat) (w : World) : Value → Value → Bool
  | .pointer (some ⟨g, 0, none⟩), .agg cs => (match w.heap[g]? with | some (.cells old t' (0, 0)) => old.size == n && t' == t | _ => false) && cs.size == n && cs.all (·.oneCell')
  | _, _ => false
def putAt (w : World) : Value → Value → World
  | .pointer (some ⟨g, 0, none⟩), .agg cs => w.setRow g cs
  | _, _ => w
theorem putAt_ptr (w : World) (g : Nat) (cs : Array Value) : putAt w (.pointer (some ⟨g, 0, none⟩)) (.agg cs) = w.setRow g cs := rfl
theorem setRow_drew (w : World) (g : Nat) (cs : Array Value) : w.drew.setRow g cs = (w.setRow g cs).drew := rfl
theorem canPut_drew (n t : Nat) (w : World) (v u : Value) : canPut n t w.drew v u = canPut n t w v u := rfl
theorem canPut_row {w : World} {g n : Nat} {t : TypeId} {old cs : Array Value} (h : w.heap[g]? = some (.cells old t)) (ho : old.size = n) (hc : cs.size = n) (h1 : cs.all (·.oneCell') = true) : canPut n t w (.pointer (some ⟨g, 0, none⟩)) (.agg cs) = true := by
  simp only [canPut, h]
  rw [h1, Bool.and_true, Bool.and_eq_true, beq_iff_eq]
  exact ⟨by simp [ho], hc⟩
theorem run_opst40 (ρ : Operand → Value) (dst : Option Tmp) (x y : Operand) (ty : TypeId) (pos : String) (after : Array Edge) (guard : Option (Nat × Bool)) (w : World) (h : canPut 5 26 w (ρ x) (ρ y) = true) :
    (execOp ρ { dst, op := .store 26 x y, type := ty, pos, after, guard }).run Tryz.prog w = .ok .skip (putAt w (ρ x) (ρ y)) := by
  unfold canPut at h
  split at h
  · rename_i g cs e1 e2
    simp only [Bool.and_eq_true, beq_iff_eq] at h
    obtain ⟨⟨h0, h1⟩, h3⟩ := h
    split at h0
    · rename_i old t' hg
      simp only [Bool.and_eq_true, beq_iff_eq] at h0
      have := run_storeVar_row (P := Tryz.prog) w g t' 26 old cs hg (by rw [h1]; exact info39) (by omega) h3
      unfold execOp
      simp only [e1, e2, Instr.storeAt, Instr.sureAddr, Sem.run_bind, Sem.run_pure, Result.andThen_ok, this, putAt]
    · cases h0
  · cases h
attribute [local go_sem] rowOf_drew isRow_drew arrAt_ptr isAt_ptr putAt_ptr canPut_drew setRow_drew

end Go.Proofs.YtffjhhacegnhmaaGreatDoor

set_option linter.unusedSimpArgs false
set_option linter.unusedVariables false
namespace Go.Proofs.YtffjhhacegnhmaaGreatDoor
open Go.RowKit

theorem wpList_load_rowG {P : Program} {ops : Array Oper} {rest : List Oper} {o : Oper} {a : Act} {w : World} {Q : Exit → Act → World → Prop} (hgd : Region.wanted o (yielded ops a.tmps) = true) (ty : TypeId) (x : Operand) (ho : o.op = .load ty x)
    (g : Nat) (hx : a.eval x = .pointer (some ⟨g, 0, none⟩)) (t : TypeId) (cs : Array Value) (fr : Nat × Nat) (d : TypeDesc) (hg : w.heap[g]? = some (.cells cs t fr))
    (hu : P.underlying ty = some d) (hd : (match d with | .struct _ | .array _ _ => true | _ => false) = true) (hi : (P.info? ty).map (·.size) = some cs.size)
    (h : wpList P ops Q rest (a.put o.dst (.agg cs)) w) : wpList P ops Q (o :: rest) a w :=
  BigFrame.wpList_want hgd fun _ hK => wp_load_row ty x ho g hx t cs fr d hg hu hd hi (hK _ _ h)
theorem keepB {w w' : World} {b : Nat} {o : Obj} (k : Below w.heap.size w w') (h : w.heap[b]? = some o) : w'.heap[b]? = some o := (k.block b (lt_of_some h)).trans h
theorem badI (e : Er) : (Tryz.prog.info? 89).map (·.size) = some (badC e).size := by rw [badC_size]; exact info32

theorem lab_of (p : List Nat) (h : 1 ≤ p.length ∧ p.length ≤ 63 ∧ ∀ i, i < p.length → lbAt (p.getD i 0) i p.length = true) : labB p = true := (labB_iff p).2 h
end Go.Proofs.YtffjhhacegnhmaaGreatDoor
