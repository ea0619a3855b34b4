/-
  What stays of the memory, addresses and slots as they lie in memory, and a table in memory; The leaf functions of package names, and the functions that are handed in; conditions as each theorem has them.
-/
import Derived.Test.YtabkelhipmijfaaGreatDoorRows
import Derived.Test.YtabkelhipmijfaaGreatDoorVM
import Derived.WalkKit
import Derived.WalkSpells
import Derived.WalkLawsBesides
import Derived.BigQuiet
import Derived.Deep.RegionHeld3
import Derived.Laws.CopyOwn
import Derived.Laws.IdiomCopy
import Derived.Deep.OwnRows
import Derived.Lib.SliceRun
import Derived.Handy
import Derived.Laws.Rows
import Derived.Laws.ResultCell
import Derived.OwnWalk
import Derived.Deep.MidRow
import Derived.Deep.LoopGhost
import Derived.WalkMore
import Derived.Lib.Strings
set_option linter.unusedSimpArgs false
set_option linter.unusedVariables false
namespace Go.Proofs.YtabkelhipmijfaaGreatDoor.Nm
open Go.RowKit

theorem hide {p : Prop} (h : p) : Hid p := h

/-- Nothing that was there has turned but what lies in the blocks r and g. -/
structure Kept (r g : Nat) (w w' : World) : Prop where
  os : w'.os = w.os
  tape : w'.tape = w.tape
  output : w'.output = w.output
  size : w.heap.size ≤ w'.heap.size
  block : ∀ k, k < w.heap.size → k ≠ r → k ≠ g → w'.heap[k]? = w.heap[k]?

theorem Kept.refl (r g : Nat) (w : World) : Kept r g w w := ⟨rfl, rfl, rfl, Nat.le_refl _, fun _ _ _ _ => rfl⟩
theorem Kept.trans {r g : Nat} {a b c : World} (h : Kept r g a b) (k : Kept r g b c) : Kept r g a c :=
  ⟨k.os.trans h.os, k.tape.trans h.tape, k.output.trans h.output, Nat.le_trans h.size k.size, fun i hi h1 h2 => (k.block i (Nat.lt_of_lt_of_le hi h.size) h1 h2).trans (h.block i hi h1 h2)⟩
theorem Kept.drewN {r g : Nat} {a b : World} (h : Kept r g a b) (n : Nat) : Kept r g a (b.drewN n) := ⟨h.os, h.tape, h.output, h.size, h.block⟩
theorem Kept.of_drewN {r g : Nat} {a b : World} {n : Nat} (h : Kept r g (a.drewN n) b) : Kept r g a b := ⟨h.os, h.tape, h.output, h.size, h.block⟩
theorem Kept.wide {x r g : Nat} {a b : World} (h : Kept x x a b) (hx : x = r ∨ x = g) : Kept r g a b :=
  ⟨h.os, h.tape, h.output, h.size, fun k hk h1 h2 => h.block k hk (by rcases hx with rfl | rfl <;> assumption) (by rcases hx with rfl | rfl <;> assumption)⟩
theorem Kept.below {r g B : Nat} {a b : World} (h : Kept r g a b) (hr : B ≤ r) (hg : B ≤ g) (hB : B ≤ a.heap.size) : Below B a b :=
  ⟨h.os, h.tape, h.output, h.size, fun k hk => h.block k (by omega) (by omega) (by omega)⟩
theorem Kept.of_below {r g : Nat} {a b : World} (h : Below a.heap.size a b) : Kept r g a b := ⟨h.os, h.tape, h.output, h.size, fun k hk _ _ => h.block k hk⟩
theorem Kept.setCell {r g : Nat} {a b : World} (h : Kept r g a b) {p : Addr} (hp : p.block = r ∨ p.block = g) (u : Value) : Kept r g a (b.setCell p u) :=
  h.trans ⟨rfl, rfl, rfl, by simp [World.setCell], fun k hk h1 h2 => Below.heap_setCell _ _ _ _ (by rcases hp with e | e <;> omega)⟩
theorem Kept.setRow {r g : Nat} {a b : World} (h : Kept r g a b) {p : Nat} (hp : p = r ∨ p = g) (cs : Array Value) : Kept r g a (b.setRow p cs) :=
  h.trans ⟨rfl, rfl, rfl, by simp [World.setRow], fun k hk h1 h2 => setRow_other b p k cs (by rcases hp with e | e <;> omega)⟩
theorem Kept.alloc {r g : Nat} {a b : World} (h : Kept r g a b) (o : Obj) : Kept r g a (b.alloc o) :=
  h.trans ⟨rfl, rfl, rfl, by simp, fun k hk _ _ => Below.heap_alloc _ _ _ hk⟩

theorem Kept.set {r : Nat} {a b : World} (h : Kept r r a b) (o : Nat) (u : Value) : Kept r r a (b.setCell ⟨r, o, none⟩ u) := h.setCell (Or.inl rfl) u


theorem heap_setCell_same {w : World} {r : Nat} {C : Array Value} {t : TypeId} (h : w.heap[r]? = some (.cells C t)) (o : Nat) (v : Value) : (w.setCell ⟨r, o, none⟩ v).heap[r]? = some (.cells (C.setIfInBounds o v) t) := by
  simp [World.setCell, Array.getElem?_modify, h]


theorem add_none (b o j : Nat) : (⟨b, o, none⟩ : Addr).add j = ⟨b, o + j, none⟩ := by unfold Addr.add; split <;> simp_all
theorem lt_of_some {w : World} {r : Nat} {o : Obj} (h : w.heap[r]? = some o) : r < w.heap.size := (Array.getElem?_eq_some_iff.1 h).1
theorem Kept.at_ {r g : Nat} {w w' : World} (h : Kept r g w w') {k : Nat} {o : Obj} (hk : w.heap[k]? = some o) (h1 : k ≠ r) (h2 : k ≠ g) : w'.heap[k]? = some o := by rw [h.block k (lt_of_some hk) h1 h2]; exact hk


theorem alloc_new (w : World) (o : Obj) : (w.alloc o).heap[w.heap.size]? = some o := by
  show (w.heap.push o)[w.heap.size]? = _
  simp
theorem alloc_new2 (w : World) (o1 o2 : Obj) : ((w.alloc o1).alloc o2).heap[w.heap.size + 1]? = some o2 := by
  have := alloc_new (w.alloc o1) o2
  rwa [show (w.alloc o1).heap.size = w.heap.size + 1 by simp] at this
theorem alloc_old {w : World} {g : Nat} {x : Obj} (o : Obj) (h : w.heap[g]? = some x) : (w.alloc o).heap[g]? = some x := by
  rw [Below.heap_alloc _ _ _ (lt_of_some h)]; exact h

/-- Nothing that was there has turned but what lies in the blocks M. -/
structure KeptM (M : Nat → Prop) (w w' : World) : Prop where
  os : w'.os = w.os
  tape : w'.tape = w.tape
  output : w'.output = w.output
  size : w.heap.size ≤ w'.heap.size
  block : ∀ k, k < w.heap.size → ¬ M k → w'.heap[k]? = w.heap[k]?
theorem KeptM.refl (M : Nat → Prop) (w : World) : KeptM M w w := ⟨rfl, rfl, rfl, Nat.le_refl _, fun _ _ _ => rfl⟩
theorem KeptM.below {M : Nat → Prop} {w w' : World} {B : Nat} (h : KeptM M w w') (hM : ∀ k, M k → B ≤ k) (hB : B ≤ w.heap.size) : Below B w w' :=
  ⟨h.os, h.tape, h.output, h.size, fun k hk => h.block k (by omega) (fun hm => by have := hM k hm; omega)⟩
theorem KeptM.of_kept {M : Nat → Prop} {r g : Nat} {w w' : World} (h : Kept r g w w') (hr : M r) (hg : M g) : KeptM M w w' :=
  ⟨h.os, h.tape, h.output, h.size, fun k hk hm => h.block k hk (fun e => hm (e ▸ hr)) (fun e => hm (e ▸ hg))⟩
theorem KeptM.of_below {M : Nat → Prop} {w w' : World} (h : Below w.heap.size w w') : KeptM M w w' := ⟨h.os, h.tape, h.output, h.size, fun k hk _ => h.block k hk⟩
theorem KeptM.drewN {M : Nat → Prop} {w w' : World} (h : KeptM M w w') (n : Nat) : KeptM M w (w'.drewN n) := ⟨h.os, h.tape, h.output, h.size, h.block⟩


theorem lt_of_cell {w : World} {a : Addr} {v : Value} (h : w.cell? a = some v) : a.block < w.heap.size := by
  unfold World.cell? at h
  cases e : w.heap[a.block]? with
  | none => simp [e] at h
  | some x => exact lt_of_some e


theorem below_drewN {B : Nat} {w w' : World} (h : Below B w w') (n : Nat) : Below B w (w'.drewN n) := ⟨h.os, h.tape, h.output, h.size, h.block⟩

/-- An address as it lies in memory, and several. -/
def adC (d : Ad) : List Value := [.int .u8 (d.1 : Nat), .int .u8 (d.2.1 : Nat), .int .u8 (d.2.2.1 : Nat), .int .u8 (d.2.2.2 : Nat)]
def adCs (l : List Ad) : List Value := l.flatMap adC
theorem adCs_append (l m : List Ad) : adCs (l ++ m) = adCs l ++ adCs m := by simp [adCs]
theorem adCs_len (l : List Ad) : (adCs l).length = l.length * 4 := by
  induction l with
  | nil => rfl
  | cons x l ih => simp only [adCs, List.flatMap_cons, List.length_append, List.length_cons] at ih ⊢; rw [ih]; simp [adC]; omega
theorem adCs_get (l : List Ad) (i : Nat) (h : i < l.length) : (adCs l)[4 * i]? = some (.int .u8 ((l.getD i (0, 0, 0, 0)).1 : Nat)) ∧ (adCs l)[4 * i + 1]? = some (.int .u8 ((l.getD i (0, 0, 0, 0)).2.1 : Nat)) ∧ (adCs l)[4 * i + 2]? = some (.int .u8 ((l.getD i (0, 0, 0, 0)).2.2.1 : Nat)) ∧ (adCs l)[4 * i + 3]? = some (.int .u8 ((l.getD i (0, 0, 0, 0)).2.2.2 : Nat)) := by
  induction l generalizing i with
  | nil => simp at h
  | cons x r ih =>
    have e : adCs (x :: r) = .int .u8 (x.1 : Nat) :: .int .u8 (x.2.1 : Nat) :: .int .u8 (x.2.2.1 : Nat) :: .int .u8 (x.2.2.2 : Nat) :: adCs r := rfl
    rw [e]
    cases i with
    | zero => exact ⟨rfl, rfl, rfl, rfl⟩
    | succ i =>
      have := ih i (by simp at h; omega)
      rw [show 4 * (i + 1) = 4 * i + 1 + 1 + 1 + 1 by omega]
      simpa using this
theorem adCs_one (l : List Ad) : ∀ u ∈ adCs l, u.oneCell' = true := by
  intro u hu
  simp [adCs, adC] at hu
  obtain ⟨a, b, c, d, _, h⟩ := hu
  rcases h with rfl | rfl | rfl | rfl <;> rfl

theorem adCs_cons (x : Ad) (l : List Ad) : adCs (x :: l) = .int .u8 (x.1 : Nat) :: .int .u8 (x.2.1 : Nat) :: .int .u8 (x.2.2.1 : Nat) :: .int .u8 (x.2.2.2 : Nat) :: adCs l := rfl
/-- Texts as values of the walk. -/
theorem eq_ba (a b : ByteArray) : (a.toList == b.toList) = decide (a = b) := by
  rw [Lib.toList_data, Lib.toList_data]
  by_cases h : a = b
  · subst h; simp
  · have : ¬ a.data.toList = b.data.toList := fun e => h (by
      apply ByteArray.ext
      exact Array.toList_inj.1 e)
    have h2 : ¬ a.data = b.data := fun e => this (by rw [e])
    simp [h, h2]
theorem ba_size (t : ByteArray) : t.toList.length = t.size := by rw [Lib.toList_data]; simp
theorem ba_nil (t : ByteArray) : (t.toList == []) = decide (t.size = 0) := by
  have h := ba_size t
  cases e : t.toList with
  | nil => rw [e] at h; simp at h; simp [← h]
  | cons x r =>
    rw [e] at h
    have : t.size ≠ 0 := by rw [← h]; simp
    simp [this]
theorem ba_emp (t : ByteArray) : t.toList.isEmpty = decide (t.size = 0) := by
  rw [← ba_nil]
  cases t.toList <;> rfl

/-- Sixteen addresses, the first ones given. -/
def pad (l : List Ad) : List Ad := l ++ List.replicate (16 - l.length) (0, 0, 0, 0)
theorem pad_length {l : List Ad} (h : l.length ≤ 16) : (pad l).length = 16 := by simp [pad]; omega
/-- A slot as it lies in memory. -/
def slC (s : Sl) : List Value := .string s.name :: .int .i64 s.till :: .int .i64 (s.ads.length : Nat) :: adCs (pad s.ads)
theorem slC_length {s : Sl} (h : s.Ok) : (slC s).length = 67 := by simp [slC, adCs_len, pad_length h.few]
theorem slC_one (s : Sl) : ∀ v ∈ slC s, v.oneCell' = true := by
  intro v hv
  simp only [slC, List.mem_cons] at hv
  rcases hv with rfl | rfl | rfl | hv
  · rfl
  · rfl
  · rfl
  · exact adCs_one _ v hv
/-- Slots as they lie in memory. -/
def flat (L : List Sl) : List Value := L.flatMap slC
theorem flat_cons (s : Sl) (L : List Sl) : flat (s :: L) = slC s ++ flat L := rfl
theorem flat_append (L K : List Sl) : flat (L ++ K) = flat L ++ flat K := by simp [flat]
theorem okL_tail {s : Sl} {L : List Sl} (h : okL (s :: L)) : s.Ok ∧ okL L := ⟨h 0 s rfl, fun i x hx => h (i + 1) x (by simpa using hx)⟩
theorem flat_length : ∀ {L : List Sl}, okL L → (flat L).length = 67 * L.length
  | [], _ => rfl
  | s :: L, h => by
    obtain ⟨h1, h2⟩ := okL_tail h
    rw [flat_cons, List.length_append, slC_length h1, flat_length h2, List.length_cons]; omega
theorem flat_at : ∀ {L : List Sl} (_ : okL L) (i : Nat) (s : Sl), L[i]? = some s → ∀ j, j < 67 → (flat L)[i * 67 + j]? = (slC s)[j]?
  | [], _, i, s, hs, j, hj => by simp at hs
  | x :: L, h, 0, s, hs, j, hj => by
    simp at hs
    subst hs
    rw [flat_cons, List.getElem?_append_left (by rw [slC_length (okL_tail h).1]; omega)]
    simp
  | x :: L, h, i + 1, s, hs, j, hj => by
    obtain ⟨h1, h2⟩ := okL_tail h
    rw [flat_cons, List.getElem?_append_right (by rw [slC_length h1]; omega), slC_length h1, show (i + 1) * 67 + j - 67 = i * 67 + j by omega]
    exact flat_at h2 i s (by simpa using hs) j hj
theorem flat_set {L : List Sl} (h : okL L) {i : Nat} (hi : i < L.length) {x : Sl} (hx : x.Ok) : (flat L).take (i * 67) ++ slC x ++ (flat L).drop (i * 67 + 67) = flat (L.set i x) := by
  have e : L = L.take i ++ [at0 L i] ++ L.drop (i + 1) := by
    conv => lhs; rw [← List.take_append_drop i L, List.drop_eq_getElem_cons hi]
    simp [at0, hi]
  have ok1 : okL (L.take i) := fun j s hs => h j s (by rw [List.getElem?_take] at hs; split at hs; exact hs; cases hs)
  have l1 : (flat (L.take i)).length = i * 67 := by rw [flat_length ok1]; simp; omega
  have l2 : (slC (at0 L i)).length = 67 := slC_length (h i _ (get_at0 hi))
  have e1 : (flat L).take (i * 67) = flat (L.take i) := by
    conv => lhs; rw [e]
    rw [flat_append, flat_append, List.append_assoc, List.take_append_of_le_length (by omega), List.take_of_length_le (by omega)]
  have e2 : (flat L).drop (i * 67 + 67) = flat (L.drop (i + 1)) := by
    conv => lhs; rw [e]
    rw [flat_append, flat_append, List.drop_append, List.drop_of_length_le (by simp [flat, l1] at *; omega)]
    simp only [List.length_append, l1]
    rw [show (flat [at0 L i]).length = 67 by simpa [flat] using l2]
    simp
  rw [e1, e2, List.set_eq_take_append_cons_drop, if_pos hi, flat_append, flat_cons, List.append_assoc]
theorem flat_one (L : List Sl) : ∀ v ∈ flat L, v.oneCell' = true := by
  intro v hv
  simp only [flat, List.mem_flatMap] at hv
  obtain ⟨s, _, hs⟩ := hv
  exact slC_one s v hs

def thd (n g : Nat) : Obj := .cells #[.bool true, .slice (some ⟨g, 0, none⟩) n n] 119
theorem thd_cells {w : World} {r n g : Nat} (h : w.heap[r]? = some (thd n g)) : w.cell? ⟨r, 0, none⟩ = some (.bool true) ∧ w.cell? ⟨r, 1, none⟩ = some (.slice (some ⟨g, 0, none⟩) n n) := by
  unfold thd at h
  simp [World.cell?, h]

/-- The slots L in block g. -/
def Row (w : World) (g : Nat) (L : List Sl) : Prop := w.heap[g]? = some (.cells (flat L).toArray 125)
theorem Row.cell {w : World} {g : Nat} {L : List Sl} (h : Row w g L) (ho : okL L) {i : Nat} {s : Sl} (hs : L[i]? = some s) {j : Nat} (hj : j < 67) : w.cell? ⟨g, i * 67 + j, none⟩ = (slC s)[j]? := by
  have := flat_at ho i s hs j hj
  unfold Row at h
  simpa [World.cell?, h] using this
theorem Row.cells {w : World} {g : Nat} {L : List Sl} (h : Row w g L) (ho : okL L) {i : Nat} {s : Sl} (hs : L[i]? = some s) :
    w.cell? ⟨g, i * 67, none⟩ = some (.string s.name) ∧ w.cell? ⟨g, i * 67 + 1, none⟩ = some (.int .i64 s.till) ∧ w.cell? ⟨g, i * 67 + 2, none⟩ = some (.int .i64 (s.ads.length : Nat)) :=
  ⟨h.cell ho hs (j := 0) (by omega), h.cell ho hs (j := 1) (by omega), h.cell ho hs (j := 2) (by omega)⟩
theorem Row.frozen {w : World} {g : Nat} {L : List Sl} (h : Row w g L) (o : Nat) : w.frozen? ⟨g, o, none⟩ = false := by
  unfold Row at h
  simp [World.frozen?, h]
theorem Row.there {w : World} {g : Nat} {L : List Sl} (h : Row w g L) (ho : okL L) {i : Nat} (hi : i < L.length) : w.there g (i * 67) 67 := fun j hj => by
  refine ⟨?_, h.frozen _⟩
  rw [h.cell ho (get_at0 hi) hj, List.getElem?_eq_getElem (by rw [slC_length (ho i _ (get_at0 hi))]; exact hj)]
  rfl
theorem Row.set {w : World} {g : Nat} {L : List Sl} (h : Row w g L) (ho : okL L) {i : Nat} (hi : i < L.length) {x : Sl} (hx : x.Ok) : Row (w.setRow g ((flat L).take (i * 67) ++ slC x ++ (flat L).drop (i * 67 + 67)).toArray) g (L.set i x) := by
  rw [flat_set ho hi hx]
  exact Go.setRow_heap w g _ _ 125 (0, 0) h

/-- A table that New made: its head in block r, its slots L in block g. -/
structure IsTab (w : World) (r g : Nat) (L : List Sl) : Prop where
  head : w.heap[r]? = some (thd L.length g)
  row : Row w g L
  ne : r ≠ g
  max : L.length ≤ 4096
  ok : okL L

theorem IsTab.keep {w w' : World} {r g : Nat} {L : List Sl} (h : IsTab w r g L) (h1 : w'.heap[r]? = w.heap[r]?) (h2 : w'.heap[g]? = w.heap[g]?) : IsTab w' r g L :=
  ⟨h1.trans h.head, h2.trans h.row, h.ne, h.max, h.ok⟩
theorem IsTab.lt {w : World} {r g : Nat} {L : List Sl} (h : IsTab w r g L) : r < w.heap.size ∧ g < w.heap.size := ⟨lt_of_some h.head, lt_of_some h.row⟩
theorem IsTab.below {w w' : World} {r g B : Nat} {L : List Sl} (h : IsTab w r g L) (b : Below B w w') (hr : r < B) (hg : g < B) : IsTab w' r g L := h.keep (b.block r hr) (b.block g hg)
theorem IsTab.belowS {w w' : World} {r g : Nat} {L : List Sl} (h : IsTab w r g L) (b : Below w.heap.size w w') : IsTab w' r g L := h.below b h.lt.1 h.lt.2
theorem IsTab.drewN {w : World} {r g : Nat} {L : List Sl} (h : IsTab w r g L) (n : Nat) : IsTab (w.drewN n) r g L := h.keep rfl rfl
theorem IsTab.put {w w' : World} {r g : Nat} {L : List Sl} (h : IsTab w r g L) (i : Nat) {x : Sl} (ho : x.Ok) (h1 : w'.heap[r]? = w.heap[r]?) (h2 : Row w' g (L.set i x)) : IsTab w' r g (L.set i x) :=
  ⟨by rw [List.length_set]; exact h1.trans h.head, h2, h.ne, by rw [List.length_set]; exact h.max, okL_set h.ok i ho⟩

end Go.Proofs.YtabkelhipmijfaaGreatDoor.Nm

set_option linter.unusedSimpArgs false
set_option linter.unusedVariables false
namespace Go.Proofs.YtabkelhipmijfaaGreatDoor.Nm
open Go.RowKit
set_option maxHeartbeats 400000 in
theorem isMade_at (r : Nat) (b : Bool) (w : World) (h : w.cell? ⟨r, 0, none⟩ = some (.bool b)) : Calls Tryz.prog 58 #[.pointer (some ⟨r, 0, none⟩)] w fun e w' => e = .returned (.bool b) ∧ w = w' := by
  go_enter Tryz.func58, Tryz.ntmps58
  go_wp2
  go_ret
  exact ⟨rfl, rfl⟩
theorem isMade_nil (w : World) : Calls Tryz.prog 58 #[.pointer none] w fun e w' => e = .returned (.bool false) ∧ w = w' := by
  go_enter Tryz.func58, Tryz.ntmps58
  go_wp2
  go_ret
  exact ⟨rfl, rfl⟩
theorem isNow_at (now : Int) (w : World) : Calls Tryz.prog 59 #[.int .i64 now] w fun e w' => e = .returned (.bool (decide (¬ badNow now))) ∧ w = w' := by
  by_cases h1 : now < 0
  · have e : decide (¬ badNow now) = false := by simp [badNow]; omega
    rw [e]
    have d : decide (now ≥ 0) = false := by simp; omega
    have d' : decide (0 ≤ now) = false := by simp; omega
    go_enter Tryz.func59, Tryz.ntmps59
    go_wp2
    go_ret
    exact ⟨rfl, rfl⟩
  · have d : decide (now ≥ 0) = true := by simp; omega
    have d' : decide (0 ≤ now) = true := by simp; omega
    by_cases h2 : 1099511627776 < now
    · have e : decide (¬ badNow now) = false := by simp [badNow]; omega
      rw [e]
      have d2 : decide (now ≤ 1099511627776) = false := by simp; omega
      go_enter Tryz.func59, Tryz.ntmps59
      go_wp2
      go_ret
      exact ⟨rfl, rfl⟩
    · have e : decide (¬ badNow now) = true := by simp [badNow]; omega
      rw [e]
      have d2 : decide (now ≤ 1099511627776) = true := by simp; omega
      go_enter Tryz.func59, Tryz.ntmps59
      go_wp2
      go_ret
      exact ⟨rfl, rfl⟩
theorem holds_at (g o : Nat) (till now : Int) (w : World) (h : w.cell? ⟨g, o + 1, none⟩ = some (.int .i64 till)) : Calls Tryz.prog 62 #[.pointer (some ⟨g, o, none⟩), .int .i64 now] w fun e w' => e = .returned (.bool (decide (now < till))) ∧ w = w' := by
  go_enter Tryz.func62, Tryz.ntmps62
  go_wp2
  go_ret
  exact ⟨rfl, rfl⟩

abbrev boxS (t : ByteArray) : Obj := .cells #[.string t] 9
abbrev boxI (n : Int) : Obj := .cells #[.int .i64 n] 3
theorem box_cell {w : World} {b : Nat} {v : Value} {t : TypeId} (h : w.heap[b]? = some (.cells #[v] t)) : w.cell? ⟨b, 0, none⟩ = some v := by simp [World.cell?, h]
theorem hasName_at (name : ByteArray) (w : World) : Calls Tryz.prog 61 #[.string name] w fun e w' => e = .returned (.func (.func 87) #[] #[.pointer (some ⟨w.heap.size, 0, none⟩)]) ∧ w' = w.alloc (boxS name) := by
  go_enter Tryz.func61, Tryz.ntmps61
  go_wp2
  go_ret
  exact ⟨rfl, rfl⟩
theorem holdsAt_at (now : Int) (w : World) : Calls Tryz.prog 81 #[.int .i64 now] w fun e w' => e = .returned (.func (.func 104) #[] #[.pointer (some ⟨w.heap.size, 0, none⟩)]) ∧ w' = w.alloc (boxI now) := by
  go_enter Tryz.func81, Tryz.ntmps81
  go_wp2
  go_ret
  exact ⟨rfl, rfl⟩
theorem placeOf_at (now : Int) (name : ByteArray) (w : World) : Calls Tryz.prog 95 #[.int .i64 now, .string name] w fun e w' => e = .returned (.func (.func 115) #[] #[.pointer (some ⟨w.heap.size + 1, 0, none⟩), .pointer (some ⟨w.heap.size, 0, none⟩)]) ∧ w' = (w.alloc (boxI now)).alloc (boxS name) := by
  go_enter Tryz.func95, Tryz.ntmps95
  go_wp2
  go_ret
  exact ⟨rfl, rfl⟩
theorem c41_at (g o b : Nat) (x name : ByteArray) (w : World) (h : w.cell? ⟨g, o, none⟩ = some (.string x)) (hb : w.cell? ⟨b, 0, none⟩ = some (.string name)) : Calls Tryz.prog 87 #[.pointer (some ⟨g, o, none⟩), .pointer (some ⟨b, 0, none⟩)] w fun e w' => e = .returned (.bool (decide (x = name))) ∧ Below w.heap.size w w' := by
  rw [← eq_ba]
  go_enter Tryz.func87, Tryz.ntmps87
  go_wp2_with fail
  go_region
  all_goals
    go_wp2_with fail
    go_ret
    exact ⟨rfl, (Below.refl _ _).drew⟩
theorem c42_at (g o b : Nat) (till now : Int) (w : World) (h : w.cell? ⟨g, o + 1, none⟩ = some (.int .i64 till)) (hb : w.cell? ⟨b, 0, none⟩ = some (.int .i64 now)) : Calls Tryz.prog 104 #[.pointer (some ⟨g, o, none⟩), .pointer (some ⟨b, 0, none⟩)] w fun e w' => e = .returned (.bool (decide (now < till))) ∧ Below w.heap.size w w' := by
  have HH := hide (holds_at g o till now w h)
  go_enter Tryz.func104, Tryz.ntmps104
  go_wp2_with fail
  refine HH.out.mono ?_
  rintro e w1 ⟨rfl, rfl⟩
  go_wp2_with fail
  go_ret
  exact ⟨rfl, (Below.refl _ _)⟩
theorem c40_at (g o b c : Nat) (s : Sl) (name : ByteArray) (now : Int) (w : World) (h : w.cell? ⟨g, o, none⟩ = some (.string s.name)) (h1 : w.cell? ⟨g, o + 1, none⟩ = some (.int .i64 s.till)) (hb : w.cell? ⟨b, 0, none⟩ = some (.string name)) (hc : w.cell? ⟨c, 0, none⟩ = some (.int .i64 now)) : Calls Tryz.prog 115 #[.pointer (some ⟨g, o, none⟩), .pointer (some ⟨b, 0, none⟩), .pointer (some ⟨c, 0, none⟩)] w fun e w' => e = .returned (.int .i64 (rank now name s)) ∧ Below w.heap.size w w' := by
  have HH : ∀ n, Hid (Calls Tryz.prog 62 #[.pointer (some ⟨g, o, none⟩), .int .i64 now] (w.drewN n) fun e w' => e = .returned (.bool (decide (now < s.till))) ∧ w.drewN n = w') := fun n => hide (holds_at g o s.till now _ h1)
  by_cases hn : s.name = name
  · have d1 : (s.name.toList == name.toList) = true := by rw [eq_ba]; simp [hn]
    have HR : Hid (rank now name s = -2) := rank_own hn
    clear HH hn
    go_enter Tryz.func115, Tryz.ntmps115
    go_wp2_with fail
    go_region
    all_goals
      go_wp2_with fail
      go_ret
      exact ⟨by rw [HR.out]; rfl, (Below.refl _ _).drew⟩
  · have d1 : (s.name.toList == name.toList) = false := by rw [eq_ba]; simp [hn]
    by_cases ht : now < s.till
    · have HR : Hid (rank now name s = s.till) := by show _ = _; unfold rank; rw [if_neg hn, if_pos ht]
      have d2 : decide (now < s.till) = true := decide_eq_true ht
      rw [d2] at HH
      clear hn ht d2
      go_enter Tryz.func115, Tryz.ntmps115
      go_wp2_with fail
      go_region
      all_goals
        go_wp2_with fail
        refine (HH 1).out.mono ?_
        rintro e w1 ⟨rfl, rfl⟩
        go_wp2_with fail
        go_ret
        exact ⟨by rw [HR.out]; rfl, (Below.refl _ _).drew⟩
    · have HR : Hid (rank now name s = -1) := by show _ = _; unfold rank; rw [if_neg hn, if_neg ht]
      have d2 : decide (now < s.till) = false := decide_eq_false ht
      rw [d2] at HH
      clear hn ht d2
      go_enter Tryz.func115, Tryz.ntmps115
      go_wp2_with fail
      go_region
      all_goals
        go_wp2_with fail
        refine (HH 1).out.mono ?_
        rintro e w1 ⟨rfl, rfl⟩
        go_wp2_with fail
        go_ret
        exact ⟨by rw [HR.out]; rfl, (Below.refl _ _).drew⟩
end Go.Proofs.YtabkelhipmijfaaGreatDoor.Nm
