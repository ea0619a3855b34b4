/-
  Hosts in numbers: pieces between points, whole numbers, labels, addresses, names, ports, destinations, what is printed of them, and how they come back; no program.; What stays of the memory, and numbers as they lie in memory; conditions as each theorem has them.
-/
import Derived.Test.YtccoddmdlbdfjaaGreatDoorRows
import Derived.WalkKit
import Derived.WalkSpells
import Derived.WalkLawsBesides
import Derived.BigQuiet
import Derived.BigRegion
import Derived.Deep.RegionHeld3
import Derived.Laws.CopyOwn
import Derived.Laws.IdiomCopy
import Derived.Deep.OwnRows
import Derived.Lib.SliceRun
import Derived.Handy
import Derived.Laws.Rows
import Derived.Laws.Tables
import Derived.Laws.ResultCell
import Derived.OwnWalk
set_option linter.unusedSimpArgs false
set_option linter.unusedVariables false
namespace Go.Proofs.YtccoddmdlbdfjaaGreatDoor

/-- A digit. -/
def dig (c : Nat) : Bool := decide (48 ≤ c) && decide (c ≤ 57)
theorem dig_iff (c : Nat) : dig c = true ↔ 48 ≤ c ∧ c ≤ 57 := by simp [dig]

/-- The pieces between points. -/
def pcs : List Nat → List (List Nat)
  | [] => [[]]
  | c :: r => if c = 46 then [] :: pcs r else ((c :: (pcs r).headD []) :: (pcs r).tail)
theorem pcs_ne : ∀ l, pcs l ≠ []
  | [] => by simp [pcs]
  | c :: r => by unfold pcs; split <;> simp
/-- Pieces with points between. -/
def jn : List (List Nat) → List Nat
  | [] => []
  | [p] => p
  | p :: q :: r => p ++ 46 :: jn (q :: r)
theorem jn_cons {p : List Nat} {r : List (List Nat)} (h : r ≠ []) : jn (p :: r) = p ++ 46 :: jn r := by
  cases r with
  | nil => exact absurd rfl h
  | cons q r => rfl
theorem jn_pcs : ∀ l, jn (pcs l) = l
  | [] => rfl
  | c :: r => by
    have ih := jn_pcs r
    have hne := pcs_ne r
    unfold pcs
    split
    · rename_i h
      rw [jn_cons hne, ih, h]; rfl
    · cases h : pcs r with
      | nil => exact absurd h hne
      | cons p ps =>
        rw [h] at ih
        cases ps with
        | nil => simp [jn] at ih ⊢; exact ih
        | cons q qs => simp [jn] at ih ⊢; exact ih
theorem pcs_no : ∀ (l : List Nat), ∀ p ∈ pcs l, 46 ∉ p
  | [] => by simp [pcs]
  | c :: r => by
    have ih := pcs_no r
    have hne := pcs_ne r
    unfold pcs
    split
    · intro p hp
      simp at hp
      rcases hp with rfl | hp
      · simp
      · exact ih p hp
    · rename_i hc
      cases h : pcs r with
      | nil => exact absurd h hne
      | cons p ps =>
        rw [h] at ih
        intro q hq
        simp at hq
        rcases hq with rfl | hq
        · have := ih p (by simp)
          simp; exact ⟨fun e => hc e.symm, this⟩
        · exact ih q (by simp [hq])
/-- Pieces without points are the pieces of what they make. -/
theorem pcs_app : ∀ (p l : List Nat), 46 ∉ p → pcs (p ++ 46 :: l) = p :: pcs l
  | [], l, _ => by simp [pcs]
  | c :: p, l, h => by
    simp at h
    have ih := pcs_app p l h.2
    rw [List.cons_append, pcs, if_neg (fun e => h.1 e.symm), ih]
    rfl
theorem pcs_one : ∀ (p : List Nat), 46 ∉ p → pcs p = [p]
  | [], _ => rfl
  | c :: p, h => by
    simp at h
    rw [pcs, if_neg (fun e => h.1 e.symm), pcs_one p h.2]
    rfl
theorem pcs_jn : ∀ (ps : List (List Nat)), ps ≠ [] → (∀ p ∈ ps, 46 ∉ p) → pcs (jn ps) = ps
  | [], h, _ => absurd rfl h
  | [p], _, h => pcs_one p (h p (by simp))
  | p :: q :: r, _, h => by
    rw [jn, pcs_app p _ (h p (by simp)), pcs_jn (q :: r) (by simp) (fun x hx => h x (by simp at hx ⊢; right; exact hx))]

/-- Where the pieces begin. -/
def beg (a : Nat) : List (List Nat) → List Nat
  | [] => []
  | p :: r => a :: beg (a + p.length + 1) r

/-- The value of digits. -/
def step (a c : Nat) : Nat := a * 10 + (c - 48)
def val (a : Nat) (l : List Nat) : Nat := l.foldl step a
theorem val_nil (a : Nat) : val a [] = a := rfl
theorem val_cons (a c : Nat) (l : List Nat) : val a (c :: l) = val (step a c) l := by unfold val; rw [List.foldl_cons]
theorem val_append (l m : List Nat) (a : Nat) : val a (l ++ m) = val (val a l) m := by unfold val; rw [List.foldl_append]
theorem step_mono {a b : Nat} (c : Nat) (h : a ≤ b) : step a c ≤ step b c := by unfold step; omega
theorem step_ge (a c : Nat) : a ≤ step a c := by unfold step; omega
theorem val_ge : ∀ (l : List Nat) (a : Nat), a ≤ val a l
  | [], a => Nat.le_refl _
  | c :: l, a => Nat.le_trans (step_ge a c) (by rw [val_cons]; exact val_ge l _)
theorem val_mono : ∀ (l : List Nat) (a b : Nat), a ≤ b → val a l ≤ val b l
  | [], a, b, h => h
  | c :: l, a, b, h => by rw [val_cons, val_cons]; exact val_mono l _ _ (step_mono c h)
theorem val_pow : ∀ (l : List Nat) (a : Nat), a * 10 ^ l.length ≤ val a l
  | [], a => by simp [val]
  | c :: l, a => by
    have h := val_pow l (step a c)
    rw [val_cons, List.length_cons, Nat.pow_succ]
    have e : a * (10 ^ l.length * 10) = a * 10 * 10 ^ l.length := by rw [Nat.mul_assoc, Nat.mul_comm (10 ^ l.length) 10]
    have : a * 10 * 10 ^ l.length ≤ step a c * 10 ^ l.length := Nat.mul_le_mul_right _ (by unfold step; omega)
    rw [e]
    exact Nat.le_trans this h

/-- Is it a whole number without a 0 ahead? -/
def isNum (l : List Nat) : Bool := decide (l ≠ []) && l.all dig && !(decide (1 < l.length) && decide (l.headD 0 = 48))
/-- The number that is no more than so much. -/
def rd (l : List Nat) (m : Nat) : Option Nat := if isNum l = true ∧ val 0 l ≤ m then some (val 0 l) else none
theorem num_long {l : List Nat} (h : isNum l = true) {k : Nat} (hk : k + 1 < l.length) : 10 ^ (k + 1) ≤ val 0 l := by
  cases l with
  | nil => simp at hk
  | cons c r =>
    simp [isNum, dig] at h
    simp at hk
    obtain ⟨⟨⟨h1, h2⟩, h3⟩, h4⟩ := h
    have hc : 1 ≤ c - 48 := by
      have : ¬ c = 48 := by
        rcases h4 with e | e
        · rw [e] at hk; simp at hk
        · exact e
      omega
    have := val_pow r (c - 48)
    rw [val_cons, show step 0 c = c - 48 by unfold step; omega]
    have h10 : 10 ^ (k + 1) ≤ 10 ^ r.length := Nat.pow_le_pow_right (by omega) (by omega)
    have : 1 * 10 ^ r.length ≤ (c - 48) * 10 ^ r.length := Nat.mul_le_mul_right _ hc
    omega

/-- What is wrong. -/
inductive Er where
  | ok
  | one (a c : Nat)
  | two (a b c : Nat)
deriving DecidableEq

/-- The four numbers of an address, from the i-th piece on, which begins at a. -/
def octs : Nat → Nat → List (List Nat) → List Nat → List Nat × Er
  | _, _, [], acc => (acc, .ok)
  | i, a, p :: ps, acc => if i = 4 then ([0, 0, 0, 0], .one a 63) else match rd p 255 with
    | none => ([0, 0, 0, 0], .one a 60)
    | some n => octs (i + 1) (a + p.length + 1) ps (acc ++ [n])
/-- ParseAddr. -/
def addr (l : List Nat) : List Nat × Er :=
  if 253 < l.length then ([0, 0, 0, 0], .one 253 3) else
  if (octs 0 0 (pcs l) []).2 = .ok ∧ (pcs l).length < 4 then ([0, 0, 0, 0], .one l.length 63) else octs 0 0 (pcs l) []

/-- Small letters. -/
def lo (c : Nat) : Nat := if 65 ≤ c ∧ c ≤ 90 then c + 32 else c
def low (l : List Nat) : List Nat := l.map lo
theorem low_length (l : List Nat) : (low l).length = l.length := by simp [low]
theorem lo_lt {c : Nat} (h : c < 256) : lo c < 256 := by unfold lo; split <;> omega
theorem lo_46 (c : Nat) : lo c = 46 ↔ c = 46 := by unfold lo; split <;> omega
theorem pcs_low : ∀ l, pcs (low l) = (pcs l).map low
  | [] => rfl
  | c :: r => by
    have ih := pcs_low r
    show pcs (lo c :: low r) = _
    unfold pcs
    by_cases h : c = 46
    · rw [if_pos ((lo_46 c).2 h), if_pos h, ih]; rfl
    · rw [if_neg (fun e => h ((lo_46 c).1 e)), if_neg h, ih]
      cases hp : pcs r with
      | nil => exact absurd hp (pcs_ne r)
      | cons p ps => rfl
theorem jn_low : ∀ ps, jn (ps.map low) = low (jn ps)
  | [] => rfl
  | [p] => rfl
  | p :: q :: r => by
    have ih := jn_low (q :: r)
    simp only [List.map_cons, jn] at ih ⊢
    rw [ih]
    simp [low, lo]

/-- A byte that a label may have within. -/
def lb (c : Nat) : Bool := decide (c = 45) || dig c || (decide (97 ≤ c) && decide (c ≤ 122)) || (decide (65 ≤ c) && decide (c ≤ 90))
/-- A byte that a label may have at its i-th place of n. -/
def lbAt (c i n : Nat) : Bool := lb c && (!decide (c = 45) || (decide (0 < i) && decide (i + 1 < n)))
/-- A label. -/
def isLab (p : List Nat) : Prop := 1 ≤ p.length ∧ p.length ≤ 63 ∧ ∀ i, i < p.length → lbAt (p.getD i 0) i p.length = true
def labB (p : List Nat) : Bool := decide (1 ≤ p.length ∧ p.length ≤ 63 ∧ ∀ i, i < p.length → lbAt (p.getD i 0) i p.length = true)
theorem labB_iff (p : List Nat) : labB p = true ↔ isLab p := by unfold labB isLab; exact decide_eq_true_iff
/-- The first label that is none, from the one that begins at a. -/
def labs : Nat → List (List Nat) → Option Nat
  | _, [] => none
  | a, p :: ps => if labB p = true then labs (a + p.length + 1) ps else some a
/-- ParseName. -/
def name (l : List Nat) : List Nat × Er :=
  if 253 < l.length then ([], .one 253 3) else
  match labs 0 (pcs l) with
  | some a => ([], .one a 61)
  | none => if ((pcs l).getLastD []).all dig = true then ([], .one (l.length - ((pcs l).getLastD []).length) 63) else (low l, .ok)

/-- A text of digits and points alone. -/
def looks (l : List Nat) : Bool := l.all fun c => decide (c = 46) || dig c
/-- A host: four numbers, and a name. -/
abbrev Ho := List Nat × List Nat
def host (l : List Nat) : Ho × Er :=
  if l = [] then (([0, 0, 0, 0], []), .one 0 63) else
  if looks l = true then (((addr l).1, []), (addr l).2) else (([0, 0, 0, 0], (name l).1), (name l).2)
/-- ParsePort. -/
def port (l : List Nat) : Nat × Er := match rd l 65535 with
  | some n => if n = 0 then (0, .one 0 62) else (n, .ok)
  | none => (0, .one 0 62)
/-- The last colon. -/
def colon : Nat → List Nat → Option Nat
  | _, [] => none
  | i, c :: r => match colon (i + 1) r with
    | some j => some j
    | none => if c = 58 then some i else none
abbrev De := Ho × Nat
def noH : Ho := ([0, 0, 0, 0], [])
def dest (l : List Nat) : De × Er :=
  if 259 < l.length then ((noH, 0), .one 259 3) else
  match colon 0 l with
  | none => ((noH, 0), .one l.length 62)
  | some c => match host (l.take c) with
    | (h, .ok) => match port (l.drop (c + 1)) with
      | (p, .ok) => ((h, p), .ok)
      | _ => ((noH, 0), .two (c + 1) 0 62)
    | (_, e) => ((noH, 0), e)
end Go.Proofs.YtccoddmdlbdfjaaGreatDoor

set_option linter.unusedSimpArgs false
set_option linter.unusedVariables false
namespace Go.Proofs.YtccoddmdlbdfjaaGreatDoor
open Go.RowKit

theorem hide {p : Prop} (h : p) : Hid p := h

/-- Nothing that was there has turned but what lies in the blocks r and g. -/
structure Kept (r g : Nat) (w w' : World) : Prop where
  os : w'.os = w.os
  tape : w'.tape = w.tape
  output : w'.output = w.output
  size : w.heap.size ≤ w'.heap.size
  block : ∀ k, k < w.heap.size → k ≠ r → k ≠ g → w'.heap[k]? = w.heap[k]?

theorem Kept.refl (r g : Nat) (w : World) : Kept r g w w := ⟨rfl, rfl, rfl, Nat.le_refl _, fun _ _ _ _ => rfl⟩
theorem Kept.trans {r g : Nat} {a b c : World} (h : Kept r g a b) (k : Kept r g b c) : Kept r g a c :=
  ⟨k.os.trans h.os, k.tape.trans h.tape, k.output.trans h.output, Nat.le_trans h.size k.size, fun i hi h1 h2 => (k.block i (Nat.lt_of_lt_of_le hi h.size) h1 h2).trans (h.block i hi h1 h2)⟩
theorem Kept.drewN {r g : Nat} {a b : World} (h : Kept r g a b) (n : Nat) : Kept r g a (b.drewN n) := ⟨h.os, h.tape, h.output, h.size, h.block⟩
theorem Kept.of_drewN {r g : Nat} {a b : World} {n : Nat} (h : Kept r g (a.drewN n) b) : Kept r g a b := ⟨h.os, h.tape, h.output, h.size, h.block⟩
theorem Kept.wide {x r g : Nat} {a b : World} (h : Kept x x a b) (hx : x = r ∨ x = g) : Kept r g a b :=
  ⟨h.os, h.tape, h.output, h.size, fun k hk h1 h2 => h.block k hk (by rcases hx with rfl | rfl <;> assumption) (by rcases hx with rfl | rfl <;> assumption)⟩
theorem Kept.below {r g B : Nat} {a b : World} (h : Kept r g a b) (hr : B ≤ r) (hg : B ≤ g) (hB : B ≤ a.heap.size) : Below B a b :=
  ⟨h.os, h.tape, h.output, h.size, fun k hk => h.block k (by omega) (by omega) (by omega)⟩
theorem Kept.of_below {r g : Nat} {a b : World} (h : Below a.heap.size a b) : Kept r g a b := ⟨h.os, h.tape, h.output, h.size, fun k hk _ _ => h.block k hk⟩
theorem Kept.setCell {r g : Nat} {a b : World} (h : Kept r g a b) {p : Addr} (hp : p.block = r ∨ p.block = g) (u : Value) : Kept r g a (b.setCell p u) :=
  h.trans ⟨rfl, rfl, rfl, by simp [World.setCell], fun k hk h1 h2 => Below.heap_setCell _ _ _ _ (by rcases hp with e | e <;> omega)⟩
theorem Kept.setRow {r g : Nat} {a b : World} (h : Kept r g a b) {p : Nat} (hp : p = r ∨ p = g) (cs : Array Value) : Kept r g a (b.setRow p cs) :=
  h.trans ⟨rfl, rfl, rfl, by simp [World.setRow], fun k hk h1 h2 => setRow_other b p k cs (by rcases hp with e | e <;> omega)⟩
theorem Kept.alloc {r g : Nat} {a b : World} (h : Kept r g a b) (o : Obj) : Kept r g a (b.alloc o) :=
  h.trans ⟨rfl, rfl, rfl, by simp, fun k hk _ _ => Below.heap_alloc _ _ _ hk⟩

theorem Kept.set {r : Nat} {a b : World} (h : Kept r r a b) (o : Nat) (u : Value) : Kept r r a (b.setCell ⟨r, o, none⟩ u) := h.setCell (Or.inl rfl) u


theorem heap_setCell_same {w : World} {r : Nat} {C : Array Value} {t : TypeId} (h : w.heap[r]? = some (.cells C t)) (o : Nat) (v : Value) : (w.setCell ⟨r, o, none⟩ v).heap[r]? = some (.cells (C.setIfInBounds o v) t) := by
  simp [World.setCell, Array.getElem?_modify, h]


theorem add_none (b o j : Nat) : (⟨b, o, none⟩ : Addr).add j = ⟨b, o + j, none⟩ := by unfold Addr.add; split <;> simp_all
theorem lt_of_some {w : World} {r : Nat} {o : Obj} (h : w.heap[r]? = some o) : r < w.heap.size := (Array.getElem?_eq_some_iff.1 h).1
theorem Kept.at_ {r g : Nat} {w w' : World} (h : Kept r g w w') {k : Nat} {o : Obj} (hk : w.heap[k]? = some o) (h1 : k ≠ r) (h2 : k ≠ g) : w'.heap[k]? = some o := by rw [h.block k (lt_of_some hk) h1 h2]; exact hk


theorem alloc_new (w : World) (o : Obj) : (w.alloc o).heap[w.heap.size]? = some o := by
  show (w.heap.push o)[w.heap.size]? = _
  simp
theorem alloc_new2 (w : World) (o1 o2 : Obj) : ((w.alloc o1).alloc o2).heap[w.heap.size + 1]? = some o2 := by
  have := alloc_new (w.alloc o1) o2
  rwa [show (w.alloc o1).heap.size = w.heap.size + 1 by simp] at this
theorem alloc_old {w : World} {g : Nat} {x : Obj} (o : Obj) (h : w.heap[g]? = some x) : (w.alloc o).heap[g]? = some x := by
  rw [Below.heap_alloc _ _ _ (lt_of_some h)]; exact h

/-- Nothing that was there has turned but what lies in the blocks M. -/
structure KeptM (M : Nat → Prop) (w w' : World) : Prop where
  os : w'.os = w.os
  tape : w'.tape = w.tape
  output : w'.output = w.output
  size : w.heap.size ≤ w'.heap.size
  block : ∀ k, k < w.heap.size → ¬ M k → w'.heap[k]? = w.heap[k]?
theorem KeptM.refl (M : Nat → Prop) (w : World) : KeptM M w w := ⟨rfl, rfl, rfl, Nat.le_refl _, fun _ _ _ => rfl⟩
theorem KeptM.below {M : Nat → Prop} {w w' : World} {B : Nat} (h : KeptM M w w') (hM : ∀ k, M k → B ≤ k) (hB : B ≤ w.heap.size) : Below B w w' :=
  ⟨h.os, h.tape, h.output, h.size, fun k hk => h.block k (by omega) (fun hm => by have := hM k hm; omega)⟩
theorem KeptM.of_kept {M : Nat → Prop} {r g : Nat} {w w' : World} (h : Kept r g w w') (hr : M r) (hg : M g) : KeptM M w w' :=
  ⟨h.os, h.tape, h.output, h.size, fun k hk hm => h.block k hk (fun e => hm (e ▸ hr)) (fun e => hm (e ▸ hg))⟩
theorem KeptM.of_below {M : Nat → Prop} {w w' : World} (h : Below w.heap.size w w') : KeptM M w w' := ⟨h.os, h.tape, h.output, h.size, fun k hk _ => h.block k hk⟩
theorem KeptM.drewN {M : Nat → Prop} {w w' : World} (h : KeptM M w w') (n : Nat) : KeptM M w (w'.drewN n) := ⟨h.os, h.tape, h.output, h.size, h.block⟩


theorem lt_of_cell {w : World} {a : Addr} {v : Value} (h : w.cell? a = some v) : a.block < w.heap.size := by
  unfold World.cell? at h
  cases e : w.heap[a.block]? with
  | none => simp [e] at h
  | some x => exact lt_of_some e


theorem below_drewN {B : Nat} {w w' : World} (h : Below B w w') (n : Nat) : Below B w (w'.drewN n) := ⟨h.os, h.tape, h.output, h.size, h.block⟩


theorem Kept.of_size {r g : Nat} {w w' : World} (h : Kept r g w w') : w.heap.size ≤ w'.heap.size := h.size
theorem Kept.one {r g : Nat} {w w' : World} (h : Kept r g w w') (hg : w.heap.size ≤ g) : Kept r r w w' := ⟨h.os, h.tape, h.output, h.size, fun k hk h1 _ => h.block k hk h1 (by omega)⟩

/-- Numbers of a kind as they lie in memory. -/
def nums (k : IntKind) (l : List Nat) : List Value := l.map fun x => Value.int k (x : Nat)
theorem nums_length (k : IntKind) (l : List Nat) : (nums k l).length = l.length := by simp [nums]
theorem nums_set (k : IntKind) (l : List Nat) (i x : Nat) : (nums k l).set i (.int k (x : Nat)) = nums k (l.set i x) := by simp [nums, List.map_set]
theorem nums_append (k : IntKind) (l m : List Nat) : nums k (l ++ m) = nums k l ++ nums k m := by simp [nums]
theorem nums_one (k : IntKind) (l : List Nat) : ∀ v ∈ nums k l, v.oneCell' = true := by intro v hv; simp [nums] at hv; obtain ⟨a, _, rfl⟩ := hv; rfl
theorem nums_at (k : IntKind) (l : List Nat) (j : Nat) (v : Value) (h : (nums k l)[j]? = some v) : j < l.length ∧ v = .int k (l.getD j 0 : Nat) := by
  simp [nums, List.getElem?_map] at h
  obtain ⟨x, hx, rfl⟩ := h
  have := (List.getElem?_eq_some_iff.1 hx).1
  refine ⟨this, ?_⟩
  simp [List.getD, hx]
theorem nums_get (k : IntKind) (l : List Nat) (j : Nat) (h : j < l.length) : (nums k l)[j]? = some (.int k (l.getD j 0 : Nat)) := by
  simp [nums, List.getElem?_map, List.getElem?_eq_getElem h, List.getD]

/-- Block r holds just these cells. -/
def Row (w : World) (r : Nat) (ty : TypeId) (C : List Value) : Prop := w.heap[r]? = some (.cells C.toArray ty)
theorem Row.cell {w : World} {r : Nat} {ty : TypeId} {C : List Value} (h : Row w r ty C) (o : Nat) : w.cell? ⟨r, o, none⟩ = C[o]? := by
  unfold Row at h
  simp [World.cell?, h]
theorem Row.frozen {w : World} {r : Nat} {ty : TypeId} {C : List Value} (h : Row w r ty C) (o : Nat) : w.frozen? ⟨r, o, none⟩ = false := by
  unfold Row at h
  simp [World.frozen?, h]
theorem Row.set {w : World} {r : Nat} {ty : TypeId} {C : List Value} (h : Row w r ty C) (o : Nat) (v : Value) : Row (w.setCell ⟨r, o, none⟩ v) r ty (C.set o v) := by
  unfold Row at h ⊢
  rw [heap_setCell_same h]
  simp
theorem Row.lt {w : World} {r : Nat} {ty : TypeId} {C : List Value} (h : Row w r ty C) : r < w.heap.size := lt_of_some h
theorem Row.keep {w w' : World} {r : Nat} {ty : TypeId} {C : List Value} (h : Row w r ty C) (e : w'.heap[r]? = w.heap[r]?) : Row w' r ty C := e.trans h
theorem Row.drewN {w : World} {r : Nat} {ty : TypeId} {C : List Value} (h : Row w r ty C) (n : Nat) : Row (w.drewN n) r ty C := h
theorem Row.alloc {w : World} {r : Nat} {ty : TypeId} {C : List Value} (h : Row w r ty C) (o : Obj) : Row (w.alloc o) r ty C := alloc_old o h
theorem Row.kept {w w' : World} {r a g : Nat} {ty : TypeId} {C : List Value} (h : Row w r ty C) (k : Kept a g w w') (h1 : r ≠ a) (h2 : r ≠ g) : Row w' r ty C := k.at_ h h1 h2
theorem Row.below {w w' : World} {r B : Nat} {ty : TypeId} {C : List Value} (h : Row w r ty C) (k : Below B w w') (h1 : r < B) : Row w' r ty C := (k.block r h1).trans h
theorem Row.num {w : World} {r : Nat} {ty : TypeId} {k : IntKind} {pre post : List Value} {l : List Nat} (h : Row w r ty (pre ++ nums k l ++ post)) {o j : Nat} (ho : o = pre.length + j) (hj : j < l.length) :
    w.cell? ⟨r, o, none⟩ = some (.int k (l.getD j 0 : Nat)) := by
  rw [h.cell, List.append_assoc, List.getElem?_append_right (by omega), List.getElem?_append_left (by rw [nums_length]; omega), show o - pre.length = j by omega]
  exact nums_get k l j hj
theorem Row.setNum {w : World} {r : Nat} {ty : TypeId} {k : IntKind} {pre post : List Value} {l : List Nat} (h : Row w r ty (pre ++ nums k l ++ post)) {o j : Nat} (ho : o = pre.length + j) (hj : j < l.length) (x : Nat) :
    Row (w.setCell ⟨r, o, none⟩ (.int k (x : Nat))) r ty (pre ++ nums k (l.set j x) ++ post) := by
  have := h.set o (.int k (x : Nat))
  rw [List.append_assoc, List.set_append_right _ _ (by omega), List.set_append_left _ _ (by rw [nums_length]; omega), show o - pre.length = j by omega, nums_set] at this
  rwa [List.append_assoc]
theorem Row.num0 {w : World} {r : Nat} {ty : TypeId} {k : IntKind} {l : List Nat} (h : Row w r ty (nums k l)) {j : Nat} (hj : j < l.length) : w.cell? ⟨r, j, none⟩ = some (.int k (l.getD j 0 : Nat)) := by
  rw [h.cell]; exact nums_get k l j hj
theorem Row.setNum0 {w : World} {r : Nat} {ty : TypeId} {k : IntKind} {l : List Nat} (h : Row w r ty (nums k l)) (j x : Nat) : Row (w.setCell ⟨r, j, none⟩ (.int k (x : Nat))) r ty (nums k (l.set j x)) := by
  have := h.set j (.int k (x : Nat))
  rwa [nums_set] at this
theorem Row.new (w : World) (C : Array Value) (ty : TypeId) : Row (w.alloc (.cells C ty)) w.heap.size ty C.toList := by
  have := alloc_new w (.cells C ty)
  simpa [Row] using this

end Go.Proofs.YtccoddmdlbdfjaaGreatDoor
