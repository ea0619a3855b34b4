/-
  errors.Is of a fault of package host and ErrLabel, and isLabel; Bytes that a call appends to, copies and comparisons of bytes; conditions as each theorem has them.
-/
import Derived.Test.YtabkelhipmijfaaGreatDoorJoined1
import Derived.Test.YtabkelhipmijfaaGreatDoorQ
import Derived.Test.YtabkelhipmijfaaGreatDoorS
import Derived.Lib.AppendStr
set_option linter.unusedSimpArgs false
set_option linter.unusedVariables false
namespace Go.Proofs.YtabkelhipmijfaaGreatDoor
open Go.RowKit Go.Extern.Stop Go.Stop Go.Extern

/-- Is it a fault of ErrLabel? -/
def is61 : Er → Bool
  | .one _ c => decide (c = 61)
  | _ => false
set_option maxHeartbeats 1000000 in
theorem eis_61 (L : ByteArray) (a b : Nat) (w : World) (h : w.heap[b]? = some (fltL L a (.iface 24 (.int .i64 (61 : Nat))))) : Calls Tryz.prog 77 #[.iface 156 (.pointer (some ⟨b, 0, none⟩)), .iface 24 (.int .i64 61)] w fun e w' => e = .returned (.bool true) ∧ w' = w := by
  have h8 := @run_callFunc_extern Tryz.prog 98 _ ReflectliteType.typeOf Tryz.func98 (by kernel_rfl) (by kernel_rfl) (by kernel_rfl) (by kernel_rfl)
  have tT := tO31
  have cT := cT31
  have n1 := nE1
  have n2 := nE2
  have n3 := nE3
  have f1 := nF1
  have f2 := hF2
  obtain ⟨_, _, c2⟩ := fltL_cells h
  have heq : ∀ w, (binOp .eql 67 (.iface 24 (.int .i64 61)) (.iface 24 (.int .i64 61))).run Tryz.prog w = .ok (.bool true) w := fun w => by kernel_rfl
  have hty := run_eql_iface_types (P := Tryz.prog) 156 24 (.pointer (some ⟨b, 0, none⟩)) (.int .i64 61) Tryz.underlying67 (by decide) w
  clear h
  go_enter Tryz.func77, Tryz.ntmps77
  go_wp2
  refine wp_loop_rounds 2 ?_
  rw [rounds_succ]
  go_wp2
  rw [rounds_succ]
  go_wp2
  go_ret
  exact ⟨rfl, rfl⟩
set_option maxRecDepth 100000 in
set_option maxHeartbeats 1000000 in
theorem eis_nil (w : World) : Calls Tryz.prog 77 #[.nilIface, .iface 24 (.int .i64 61)] w fun e w' => e = .returned (.bool false) ∧ w' = w := by
  have heq : ∀ w, (binOp .eql 67 .nilIface (.iface 24 (.int .i64 61))).run Tryz.prog w = .ok (.bool false) w := fun w => by kernel_rfl
  go_enter Tryz.func77, Tryz.ntmps77
  go_wp2_with fail
  go_ret
  exact ⟨rfl, rfl⟩
/-- errors.Is of what a name's reader tells. -/
theorem eis_name (e : Er) (v : Value) (w : World) (h : IsEr w e v) (he : e = .ok ∨ ∃ a c, e = .one a c) : Calls Tryz.prog 77 #[v, .iface 24 (.int .i64 61)] w fun x w' => x = .returned (.bool (is61 e)) ∧ w' = w := by
  rcases he with rfl | ⟨a, c, rfl⟩
  · obtain rfl : v = .nilIface := h
    refine (eis_nil w).mono ?_
    rintro x w' ⟨rfl, rfl⟩
    exact ⟨by simp [is61], rfl⟩
  · obtain ⟨b, rfl, hb⟩ := h
    by_cases hc : c = 61
    · subst hc
      refine (eis_61 _ a b w hb).mono ?_
      rintro x w' ⟨rfl, rfl⟩
      exact ⟨by simp [is61], rfl⟩
    · refine (eis_flt _ a c b w hb hc).mono ?_
      rintro x w' ⟨rfl, rfl⟩
      exact ⟨by simp [is61, hc], rfl⟩
theorem name_er (l : List Nat) : (name l).2 = .ok ∨ ∃ a c, (name l).2 = .one a c := by
  unfold name
  split
  · exact Or.inr ⟨_, _, rfl⟩
  · split
    · exact Or.inr ⟨_, _, rfl⟩
    · split
      · exact Or.inr ⟨_, _, rfl⟩
      · exact Or.inl rfl
/-- A label, as isLabel tells it. -/
theorem lab_is (l : List Nat) (hl : l.length ≤ 253) : labB l = (!decide (46 ∈ l) && !is61 (name l).2) := by
  by_cases h46 : 46 ∈ l
  · have : labB l = false := by
      rw [Bool.eq_false_iff]
      intro h
      have h3 := ((labB_iff l).1 h).2.2
      obtain ⟨i, hi, e⟩ := List.getElem_of_mem h46
      have := h3 i hi
      rw [show l.getD i 0 = 46 by simp [List.getD, List.getElem?_eq_getElem hi, e]] at this
      simp [lbAt, lb, dig] at this
    simp [this, h46]
  · have hp := pcs_one l h46
    cases hb : labB l with
    | true =>
      have : (name l).2 = .ok ∨ (name l).2 = .one (l.length - l.length) 63 := by
        unfold name
        rw [if_neg (by omega), hp]
        simp only [labs, hb, if_true]
        split
        · exact Or.inr (by simp)
        · exact Or.inl rfl
      rcases this with h | h <;> simp [h46, h, is61]
    | false =>
      have : (name l).2 = .one 0 61 := by
        unfold name
        rw [if_neg (by omega), hp]
        simp [labs, hb]
      simp [h46, this, is61]
theorem dot_ix : ∀ l : List UInt8, -1 ≤ Lib.indexByte l 46 ∧ (0 ≤ Lib.indexByte l 46 ↔ 46 ∈ l.map UInt8.toNat)
  | [] => by simp [Lib.indexByte]
  | c :: r => by
    obtain ⟨h1, h2⟩ := dot_ix r
    have hc : (46 = c.toNat) ↔ c = 46 := ⟨fun e => UInt8.toNat_inj.1 e.symm, fun e => by rw [e]; rfl⟩
    rw [Lib.indexByte, List.map_cons, List.mem_cons, hc, ← h2]
    by_cases e : c = 46
    · simp [e]
    · simp only [beq_iff_eq, e, if_false, false_or]
      by_cases e2 : Lib.indexByte r 46 = -1
      · rw [if_pos e2]; omega
      · rw [if_neg e2]; omega
theorem dot_in (t : ByteArray) : decide (0 ≤ Lib.indexByte t.data.toList 46) = decide (46 ∈ byt t) := decide_eq_decide.2 (dot_ix _).2
set_option maxHeartbeats 1000000 in
theorem isLabel_at (t : ByteArray) (w : World) (hm : t.size ≤ 253) (hV : Vars w) : Calls Tryz.prog 144 #[.string t] w fun e w' => e = .returned (.bool (labB (byt t))) ∧ Below w.heap.size w w' := by
  have HP := hide (parseName_at t w (by unfold maxLen; omega) hV)
  have HC := hide (fun w => Tryz.strings_Contains_one t 46 w)
  have HD := hide (dot_in t)
  have HL := hide (lab_is (byt t) (by rw [byt_length]; omega))
  have HE := hide (name_er (byt t))
  obtain ⟨E, hE⟩ : ∃ E, E = (name (byt t)).2 := ⟨_, rfl⟩
  rw [← hE] at HP HL HE
  clear hV hE
  go_enter Tryz.func144, Tryz.ntmps144
  go_wp2_with fail
  refine HP.out.mono ?_
  rintro e w1 ⟨v, rfl, hv, hb⟩
  have HV := hide hv
  have HB := hide hb
  clear hv hb
  go_wp2_with fail
  refine (HC.out w1).mono ?_
  rintro e w2 ⟨rfl, rfl⟩
  rw [HD.out]
  by_cases h46 : 46 ∈ byt t
  · have q : decide (46 ∈ byt t) = true := decide_eq_true h46
    have HR : Hid (labB (byt t) = false) := by show _ = _; rw [HL.out, q]; rfl
    rw [q]
    clear h46 q
    go_wp2_with fail
    go_ret
    exact ⟨by rw [HR.out]; rfl, HB.out⟩
  · have q : decide (46 ∈ byt t) = false := decide_eq_false h46
    have HR : Hid (labB (byt t) = !is61 E) := by show _ = _; rw [HL.out, q]; rfl
    rw [q]
    clear h46 q
    go_wp2_with fail
    refine (eis_name E v w2 HV.out HE.out).mono ?_
    rintro e w3 ⟨rfl, rfl⟩
    go_wp2_with fail
    go_ret
    exact ⟨by rw [HR.out]; rfl, HB.out⟩
end Go.Proofs.YtabkelhipmijfaaGreatDoor

set_option linter.unusedSimpArgs false
set_option linter.unusedVariables false
namespace Go.Proofs.YtabkelhipmijfaaGreatDoor
open Go.RowKit Go.Lib

theorem run_str_src {w : World} {a : Option Addr} {len cap : Nat} {l : List Nat} (h : Src w a len cap l) : (convert 30 9 (.slice a len cap)).run Tryz.prog w = .ok (.string (strN l)) w := by
  by_cases h0 : 0 < len
  · obtain ⟨b, o, rfl, _, hc⟩ := h.lies h0
    exact run_str w b o len cap l h.hlen hc
  · obtain rfl : len = 0 := by omega
    obtain rfl : l = [] := List.eq_nil_of_length_eq_zero h.hlen
    cases a with
    | none => exact run_convert_bytes_nil (P := Tryz.prog) w 30 5 Tryz.underlying30 Tryz.underlying5 0 cap 9 Tryz.underlying9
    | some x =>
      rw [run_convert_bytes_string w 30 9 5 _ 0 cap Tryz.underlying30 Tryz.underlying5 Tryz.underlying9]
      exact run_bytesToString w x 0 cap [] (by simpa using run_loadCells_list (P := Tryz.prog) w x [] (by simp))

theorem own_src {w : World} {B : Nat} {v : Value} {l : List Nat} (h : Own w B 5 v (nums .u8 l)) (hb : ∀ x ∈ l, x < 256) : ∃ a cap, v = .slice a l.length cap ∧ Src w a l.length cap l ∧ (∀ b o, a = some ⟨b, o, none⟩ → B ≤ b) := by
  have hl := nums_length .u8 l
  rcases h.2 with ⟨rfl, h0⟩ | ⟨g, cap, cur, rfl, hg, hh, hc, hm, hs, ht⟩
  · rw [hl] at h0
    obtain rfl : l = [] := List.eq_nil_of_length_eq_zero h0
    exact ⟨none, 0, rfl, Src.nilS w, fun b o e => by cases e⟩
  · rw [hl] at hc ht ⊢
    refine ⟨some ⟨g, 0, none⟩, cap, rfl, ⟨rfl, hc, hm, fun e => (by cases e), fun _ => ⟨g, 0, rfl, lt_of_some hh, fun i hi => ?_⟩, hb⟩, fun b o e => by simp at e; omega⟩
    rw [Nat.mul_one] at ht
    have e1 : cur[i]? = (nums .u8 l)[i]? := by rw [← ht, List.getElem?_take, if_pos hi]; simp
    rw [Nat.zero_add]
    simp only [World.cell?, hh]
    rw [e1]
    exact nums_get .u8 l i hi
theorem inf5 : ∃ i, Tryz.prog.info? 5 = some i ∧ i.zero = some (.int .u8 0) ∧ i.size = 1 ∧ i.bytes = 1 := info5p
/-- All but the own block of v is as it was. -/
def But (v : Value) (w w' : World) : Prop := ∀ k, k < w.heap.size → v.ownBlock ≠ some k → w'.heap[k]? = w.heap[k]?
/-- 'append(v, x...)', v the call's own bytes. -/
theorem run_app {w : World} {B : Nat} {v : Value} {l : List Nat} (hown : Own w B 5 v (nums .u8 l)) {a : Option Addr} {m c : Nat} {bs : List Nat} (hs : Src w a m c bs) (hlen : l.length + m ≤ 140737488355328) (hB : B ≤ w.heap.size) :
    ∃ v' w', (Builtin.append_ #[30, 30] 30 #[v, .slice a m c]).run Tryz.prog w = .ok v' w' ∧ Own w' B 5 v' (nums .u8 (l ++ bs)) ∧ Below B w w' ∧ But v w w' := by
  cases a with
  | none =>
    obtain ⟨i, hi, hz, hsz, hby⟩ := info5p
    have hc := hs.nil rfl
    have := hs.hcap
    obtain rfl : m = 0 := by omega
    obtain rfl : c = 0 := hc
    obtain rfl : bs = [] := List.eq_nil_of_length_eq_zero hs.hlen
    exact ⟨v, w, run_append_owned_none (P := Tryz.prog) w B 30 30 5 i 1 Tryz.underlying30 hi v _ (nums .u8 l) hown, by simpa using hown, Below.refl _ _, fun _ _ _ => rfl⟩
  | some x =>
    obtain ⟨v', w', h1, h2, h3, h4⟩ := own_app 30 5 (.int .u8 0) 1 Tryz.underlying30 inf5 rfl hown x m c (nums .u8 bs) (by rw [nums_length, hs.hlen])
      (fun j u hu => by
        obtain ⟨hj, rfl⟩ := nums_at _ _ _ _ hu
        rw [hs.hlen] at hj
        obtain ⟨b, o, e, _, hcell⟩ := hs.lies (by omega)
        simp at e
        subst e
        rw [add_none]
        exact hcell j hj) (nums_one _ _) (by rw [nums_length]; omega) (by rw [nums_length]; omega) hB
    exact ⟨v', w', h1, by rw [nums_append]; exact h2, h3, h4⟩
/-- 'append(v, x, y, ..)' of bytes, their own slice laid ahead. -/
theorem run_appN {w : World} {B : Nat} {v : Value} {l : List Nat} (hown : Own w B 5 v (nums .u8 l)) (xs : List Nat) (hx : ∀ x ∈ xs, x < 256) (hlen : l.length + xs.length ≤ 1000000) (hB : B ≤ w.heap.size) :
    ∃ v' w', (Builtin.append_ #[30, 30] 30 #[v, .slice (some ⟨w.heap.size, 0, none⟩) xs.length xs.length]).run Tryz.prog (w.alloc (.cells (nums .u8 xs).toArray 5)) = .ok v' w' ∧ Own w' B 5 v' (nums .u8 (l ++ xs)) ∧ Below B w w' ∧ But v w w' := by
  have ha := (Below.refl w.heap.size w).alloc (Nat.le_refl _) (.cells (nums .u8 xs).toArray 5)
  have hs : Src (w.alloc (.cells (nums .u8 xs).toArray 5)) (some ⟨w.heap.size, 0, none⟩) xs.length xs.length xs := ⟨rfl, Nat.le_refl _, by unfold maxLen; omega, fun e => (by cases e), fun _ => ⟨w.heap.size, 0, rfl, by simp, fun i hi => by
    have hn : (w.alloc (.cells (nums .u8 xs).toArray 5)).heap[w.heap.size]? = some (.cells (nums .u8 xs).toArray 5) := alloc_new _ _
    simp only [World.cell?, hn, Nat.zero_add]
    have := nums_get .u8 xs i hi
    simpa using this⟩, hx⟩
  obtain ⟨v', w', h1, h2, h3, h4⟩ := run_app (hown.below ha) hs (by omega) (by simp; omega)
  exact ⟨v', w', h1, h2, (ha.mono hB).trans h3, fun k hk hne => (h4 k (by simp; omega) hne).trans (ha.block k hk)⟩
theorem strCells_nums (t : ByteArray) : strCells t = nums .u8 (byt t) := by simp [strCells, nums, byt]
/-- 'append(v, t...)' of a text. -/
theorem run_apps {w : World} {B : Nat} {v : Value} {l : List Nat} (hown : Own w B 5 v (nums .u8 l)) (t : ByteArray) (hlen : l.length + t.size ≤ 140737488355328) (hB : B ≤ w.heap.size) :
    ∃ v' w', (Builtin.append_ #[30, 9] 30 #[v, .string t]).run Tryz.prog w = .ok v' w' ∧ Own w' B 5 v' (nums .u8 (l ++ byt t)) ∧ Below B w w' ∧ But v w w' := by
  obtain ⟨i, hi, hz, hsz, hby⟩ := info5p
  have hl := nums_length .u8 l
  obtain ⟨v', w', hr, ho, hg, _⟩ := run_append_own_string (P := Tryz.prog) w B 30 9 30 5 i Tryz.underlying30 Tryz.underlying9 hi hz hsz hby v (nums .u8 l).length (nums .u8 l) hown t (by rw [hl]; unfold maxLen; omega) (by rw [hl]; exact hlen) hB
  refine ⟨v', w', hr, ?_, (Below.refl B w).grown hg hB (fun k hk => (hown.block hk).1), fun k hk hne => hg.block k hk (fun e => hne e.symm)⟩
  unfold Own
  rw [nums_append, List.length_append, nums_length .u8 (byt t), byt_length, ← strCells_nums]
  exact ho
theorem own_nil (w : World) (B : Nat) : Own w B 5 (.slice none 0 0) (nums .u8 []) := ⟨rfl, Or.inl ⟨rfl, rfl⟩⟩
theorem own_new5 (w : World) : Own (w.alloc (.cells #[] 5)) w.heap.size 5 (.slice (some ⟨w.heap.size, 0, none⟩) 0 0) (nums .u8 []) :=
  ⟨rfl, Or.inr ⟨w.heap.size, 0, #[], rfl, Nat.le_refl _, alloc_new _ _, by simp [nums], Nat.zero_le _, by simp, by simp [nums]⟩⟩
theorem own_newN (w : World) (xs : List Nat) (h : xs.length ≤ 1000000) : Own (w.alloc (.cells (nums .u8 xs).toArray 5)) w.heap.size 5 (.slice (some ⟨w.heap.size, 0, none⟩) xs.length xs.length) (nums .u8 xs) :=
  ⟨by simp, Or.inr ⟨w.heap.size, xs.length, (nums .u8 xs).toArray, by rw [nums_length], Nat.le_refl _, alloc_new _ _, by rw [nums_length]; exact Nat.le_refl _, by unfold maxLen; omega, by simp [nums], by rw [nums_length, Nat.mul_one]; exact List.take_of_length_le (by simp [nums])⟩⟩
set_option maxRecDepth 100000 in
set_option maxHeartbeats 1000000 in
theorem bytes_at (a : Option Addr) (n c : Nat) (l : List Nat) (w : World) (h : Src w a n c l) (hn : n ≤ 140737488355328) : Calls Tryz.prog 17 #[.slice a n c] w fun e w' => ∃ v, e = .returned v ∧ Own w' w.heap.size 5 v (nums .u8 l) ∧ Below w.heap.size w w' := by
  obtain ⟨W1, hW1⟩ : ∃ W1, W1 = w.alloc (.cells #[] 5) := ⟨_, rfl⟩
  have b1 : Below w.heap.size w W1 := by rw [hW1]; exact (Below.refl _ _).alloc (Nat.le_refl _) _
  have o1 : Own W1 w.heap.size 5 (.slice (some ⟨w.heap.size, 0, none⟩) 0 0) (nums .u8 []) := by rw [hW1]; exact own_new5 w
  obtain ⟨v', W2, hap, o2, b2, _⟩ := run_app o1 (h.below b1) (by simpa using hn) b1.size
  rw [List.nil_append] at o2
  have hAl : w.alloc (.cells #[] 5) = W1 := hW1.symm
  have HAP := hide hap
  have HO := hide o2
  have HB : Hid (Below w.heap.size w W2) := b1.trans b2
  clear h hW1 b1 o1 hap o2 b2
  go_enter Tryz.func17, Tryz.ntmps17
  go_wp2_with (refine wpList_app_run _ rfl _ _ 30 30 rfl _ _ rfl rfl HAP.out ?_)
  go_ret
  exact ⟨v', rfl, HO.out, HB.out⟩
set_option maxHeartbeats 400000 in
theorem same_bytes (w : World) (a b : Option Addr) (n c m d : Nat) (l : List Nat) (h1 : Src w a n c l) (h2 : Src w b m d l) : Calls Tryz.prog 20 #[.slice a n c, .slice b m d] w fun e w' => e = .returned (.bool true) ∧ w = w' := by
  have r1 := run_str_src h1
  have r2 := run_str_src h2
  clear h1 h2
  go_enter Tryz.func20, Tryz.ntmps20
  go_wp2
  go_ret
  simp
end Go.Proofs.YtabkelhipmijfaaGreatDoor
