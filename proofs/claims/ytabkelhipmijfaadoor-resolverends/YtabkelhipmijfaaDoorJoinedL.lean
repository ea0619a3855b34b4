/-
  errors.Is of a fault of package host and ErrLabel, and isLabel; Bytes that a call appends to, copies and comparisons of bytes; conditions as each theorem has them.
-/
import Derived.Test.YtabkelhipmijfaaDoorJoinedD
import Derived.Test.YtabkelhipmijfaaDoorQ
import Derived.Test.YtabkelhipmijfaaDoorS
import Derived.Lib.AppendStr
set_option linter.unusedSimpArgs false
set_option linter.unusedVariables false
namespace Go.Proofs.YtabkelhipmijfaaDoor
open Go.RowKit Go.Extern.Stop Go.Stop Go.Extern

/-- Is it a fault of ErrLabel? -/
def is61 : Er → Bool
  | .one _ c => decide (c = 61)
  | _ => false
theorem name_er (l : List Nat) : (name l).2 = .ok ∨ ∃ a c, (name l).2 = .one a c := by
  unfold name
  split
  · exact Or.inr ⟨_, _, rfl⟩
  · split
    · exact Or.inr ⟨_, _, rfl⟩
    · split
      · exact Or.inr ⟨_, _, rfl⟩
      · exact Or.inl rfl
/-- A label, as isLabel tells it. -/
theorem lab_is (l : List Nat) (hl : l.length ≤ 253) : labB l = (!decide (46 ∈ l) && !is61 (name l).2) := by
  by_cases h46 : 46 ∈ l
  · have : labB l = false := by
      rw [Bool.eq_false_iff]
      intro h
      have h3 := ((labB_iff l).1 h).2.2
      obtain ⟨i, hi, e⟩ := List.getElem_of_mem h46
      have := h3 i hi
      rw [show l.getD i 0 = 46 by simp [List.getD, List.getElem?_eq_getElem hi, e]] at this
      simp [lbAt, lb, dig] at this
    simp [this, h46]
  · have hp := pcs_one l h46
    cases hb : labB l with
    | true =>
      have : (name l).2 = .ok ∨ (name l).2 = .one (l.length - l.length) 63 := by
        unfold name
        rw [if_neg (by omega), hp]
        simp only [labs, hb, if_true]
        split
        · exact Or.inr (by simp)
        · exact Or.inl rfl
      rcases this with h | h <;> simp [h46, h, is61]
    | false =>
      have : (name l).2 = .one 0 61 := by
        unfold name
        rw [if_neg (by omega), hp]
        simp [labs, hb]
      simp [h46, this, is61]
theorem dot_ix : ∀ l : List UInt8, -1 ≤ Lib.indexByte l 46 ∧ (0 ≤ Lib.indexByte l 46 ↔ 46 ∈ l.map UInt8.toNat)
  | [] => by simp [Lib.indexByte]
  | c :: r => by
    obtain ⟨h1, h2⟩ := dot_ix r
    have hc : (46 = c.toNat) ↔ c = 46 := ⟨fun e => UInt8.toNat_inj.1 e.symm, fun e => by rw [e]; rfl⟩
    rw [Lib.indexByte, List.map_cons, List.mem_cons, hc, ← h2]
    by_cases e : c = 46
    · simp [e]
    · simp only [beq_iff_eq, e, if_false, false_or]
      by_cases e2 : Lib.indexByte r 46 = -1
      · rw [if_pos e2]; omega
      · rw [if_neg e2]; omega
theorem dot_in (t : ByteArray) : decide (0 ≤ Lib.indexByte t.data.toList 46) = decide (46 ∈ byt t) := decide_eq_decide.2 (dot_ix _).2
end Go.Proofs.YtabkelhipmijfaaDoor

set_option linter.unusedSimpArgs false
set_option linter.unusedVariables false
namespace Go.Proofs.YtabkelhipmijfaaDoor
open Go.RowKit Go.Lib

theorem run_str_src {w : World} {a : Option Addr} {len cap : Nat} {l : List Nat} (h : Src w a len cap l) : (convert 38 9 (.slice a len cap)).run Tryd.prog w = .ok (.string (strN l)) w := by
  by_cases h0 : 0 < len
  · obtain ⟨b, o, rfl, _, hc⟩ := h.lies h0
    exact run_str w b o len cap l h.hlen hc
  · obtain rfl : len = 0 := by omega
    obtain rfl : l = [] := List.eq_nil_of_length_eq_zero h.hlen
    cases a with
    | none => exact run_convert_bytes_nil (P := Tryd.prog) w 38 5 Tryd.underlying38 Tryd.underlying5 0 cap 9 Tryd.underlying9
    | some x =>
      rw [run_convert_bytes_string w 38 9 5 _ 0 cap Tryd.underlying38 Tryd.underlying5 Tryd.underlying9]
      exact run_bytesToString w x 0 cap [] (by simpa using run_loadCells_list (P := Tryd.prog) w x [] (by simp))

theorem own_src {w : World} {B : Nat} {v : Value} {l : List Nat} (h : Own w B 5 v (nums .u8 l)) (hb : ∀ x ∈ l, x < 256) : ∃ a cap, v = .slice a l.length cap ∧ Src w a l.length cap l ∧ (∀ b o, a = some ⟨b, o, none⟩ → B ≤ b) := by
  have hl := nums_length .u8 l
  rcases h.2 with ⟨rfl, h0⟩ | ⟨g, cap, cur, rfl, hg, hh, hc, hm, hs, ht⟩
  · rw [hl] at h0
    obtain rfl : l = [] := List.eq_nil_of_length_eq_zero h0
    exact ⟨none, 0, rfl, Src.nilS w, fun b o e => by cases e⟩
  · rw [hl] at hc ht ⊢
    refine ⟨some ⟨g, 0, none⟩, cap, rfl, ⟨rfl, hc, hm, fun e => (by cases e), fun _ => ⟨g, 0, rfl, lt_of_some hh, fun i hi => ?_⟩, hb⟩, fun b o e => by simp at e; omega⟩
    rw [Nat.mul_one] at ht
    have e1 : cur[i]? = (nums .u8 l)[i]? := by rw [← ht, List.getElem?_take, if_pos hi]; simp
    rw [Nat.zero_add]
    simp only [World.cell?, hh]
    rw [e1]
    exact nums_get .u8 l i hi
theorem inf5 : ∃ i, Tryd.prog.info? 5 = some i ∧ i.zero = some (.int .u8 0) ∧ i.size = 1 ∧ i.bytes = 1 := info5p
/-- All but the own block of v is as it was. -/
def But (v : Value) (w w' : World) : Prop := ∀ k, k < w.heap.size → v.ownBlock ≠ some k → w'.heap[k]? = w.heap[k]?
/-- 'append(v, x...)', v the call's own bytes. -/
theorem run_app {w : World} {B : Nat} {v : Value} {l : List Nat} (hown : Own w B 5 v (nums .u8 l)) {a : Option Addr} {m c : Nat} {bs : List Nat} (hs : Src w a m c bs) (hlen : l.length + m ≤ 140737488355328) (hB : B ≤ w.heap.size) :
    ∃ v' w', (Builtin.append_ #[38, 38] 38 #[v, .slice a m c]).run Tryd.prog w = .ok v' w' ∧ Own w' B 5 v' (nums .u8 (l ++ bs)) ∧ Below B w w' ∧ But v w w' := by
  cases a with
  | none =>
    obtain ⟨i, hi, hz, hsz, hby⟩ := info5p
    have hc := hs.nil rfl
    have := hs.hcap
    obtain rfl : m = 0 := by omega
    obtain rfl : c = 0 := hc
    obtain rfl : bs = [] := List.eq_nil_of_length_eq_zero hs.hlen
    exact ⟨v, w, run_append_owned_none (P := Tryd.prog) w B 38 38 5 i 1 Tryd.underlying38 hi v _ (nums .u8 l) hown, by simpa using hown, Below.refl _ _, fun _ _ _ => rfl⟩
  | some x =>
    obtain ⟨v', w', h1, h2, h3, h4⟩ := own_app 38 5 (.int .u8 0) 1 Tryd.underlying38 inf5 rfl hown x m c (nums .u8 bs) (by rw [nums_length, hs.hlen])
      (fun j u hu => by
        obtain ⟨hj, rfl⟩ := nums_at _ _ _ _ hu
        rw [hs.hlen] at hj
        obtain ⟨b, o, e, _, hcell⟩ := hs.lies (by omega)
        simp at e
        subst e
        rw [add_none]
        exact hcell j hj) (nums_one _ _) (by rw [nums_length]; omega) (by rw [nums_length]; omega) hB
    exact ⟨v', w', h1, by rw [nums_append]; exact h2, h3, h4⟩
/-- 'append(v, x, y, ..)' of bytes, their own slice laid ahead. -/
theorem run_appN {w : World} {B : Nat} {v : Value} {l : List Nat} (hown : Own w B 5 v (nums .u8 l)) (xs : List Nat) (hx : ∀ x ∈ xs, x < 256) (hlen : l.length + xs.length ≤ 1000000) (hB : B ≤ w.heap.size) :
    ∃ v' w', (Builtin.append_ #[38, 38] 38 #[v, .slice (some ⟨w.heap.size, 0, none⟩) xs.length xs.length]).run Tryd.prog (w.alloc (.cells (nums .u8 xs).toArray 5)) = .ok v' w' ∧ Own w' B 5 v' (nums .u8 (l ++ xs)) ∧ Below B w w' ∧ But v w w' := by
  have ha := (Below.refl w.heap.size w).alloc (Nat.le_refl _) (.cells (nums .u8 xs).toArray 5)
  have hs : Src (w.alloc (.cells (nums .u8 xs).toArray 5)) (some ⟨w.heap.size, 0, none⟩) xs.length xs.length xs := ⟨rfl, Nat.le_refl _, by unfold maxLen; omega, fun e => (by cases e), fun _ => ⟨w.heap.size, 0, rfl, by simp, fun i hi => by
    have hn : (w.alloc (.cells (nums .u8 xs).toArray 5)).heap[w.heap.size]? = some (.cells (nums .u8 xs).toArray 5) := alloc_new _ _
    simp only [World.cell?, hn, Nat.zero_add]
    have := nums_get .u8 xs i hi
    simpa using this⟩, hx⟩
  obtain ⟨v', w', h1, h2, h3, h4⟩ := run_app (hown.below ha) hs (by omega) (by simp; omega)
  exact ⟨v', w', h1, h2, (ha.mono hB).trans h3, fun k hk hne => (h4 k (by simp; omega) hne).trans (ha.block k hk)⟩
theorem strCells_nums (t : ByteArray) : strCells t = nums .u8 (byt t) := by simp [strCells, nums, byt]
/-- 'append(v, t...)' of a text. -/
theorem run_apps {w : World} {B : Nat} {v : Value} {l : List Nat} (hown : Own w B 5 v (nums .u8 l)) (t : ByteArray) (hlen : l.length + t.size ≤ 140737488355328) (hB : B ≤ w.heap.size) :
    ∃ v' w', (Builtin.append_ #[38, 9] 38 #[v, .string t]).run Tryd.prog w = .ok v' w' ∧ Own w' B 5 v' (nums .u8 (l ++ byt t)) ∧ Below B w w' ∧ But v w w' := by
  obtain ⟨i, hi, hz, hsz, hby⟩ := info5p
  have hl := nums_length .u8 l
  obtain ⟨v', w', hr, ho, hg, _⟩ := run_append_own_string (P := Tryd.prog) w B 38 9 38 5 i Tryd.underlying38 Tryd.underlying9 hi hz hsz hby v (nums .u8 l).length (nums .u8 l) hown t (by rw [hl]; unfold maxLen; omega) (by rw [hl]; exact hlen) hB
  refine ⟨v', w', hr, ?_, (Below.refl B w).grown hg hB (fun k hk => (hown.block hk).1), fun k hk hne => hg.block k hk (fun e => hne e.symm)⟩
  unfold Own
  rw [nums_append, List.length_append, nums_length .u8 (byt t), byt_length, ← strCells_nums]
  exact ho
theorem own_nil (w : World) (B : Nat) : Own w B 5 (.slice none 0 0) (nums .u8 []) := ⟨rfl, Or.inl ⟨rfl, rfl⟩⟩
theorem own_new5 (w : World) : Own (w.alloc (.cells #[] 5)) w.heap.size 5 (.slice (some ⟨w.heap.size, 0, none⟩) 0 0) (nums .u8 []) :=
  ⟨rfl, Or.inr ⟨w.heap.size, 0, #[], rfl, Nat.le_refl _, alloc_new _ _, by simp [nums], Nat.zero_le _, by simp, by simp [nums]⟩⟩
theorem own_newN (w : World) (xs : List Nat) (h : xs.length ≤ 1000000) : Own (w.alloc (.cells (nums .u8 xs).toArray 5)) w.heap.size 5 (.slice (some ⟨w.heap.size, 0, none⟩) xs.length xs.length) (nums .u8 xs) :=
  ⟨by simp, Or.inr ⟨w.heap.size, xs.length, (nums .u8 xs).toArray, by rw [nums_length], Nat.le_refl _, alloc_new _ _, by rw [nums_length]; exact Nat.le_refl _, by unfold maxLen; omega, by simp [nums], by rw [nums_length, Nat.mul_one]; exact List.take_of_length_le (by simp [nums])⟩⟩
end Go.Proofs.YtabkelhipmijfaaDoor
