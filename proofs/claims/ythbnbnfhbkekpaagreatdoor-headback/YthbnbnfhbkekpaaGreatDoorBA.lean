/-
  Copies and comparisons of the reference's base; conditions as each theorem has them.
-/
import Derived.Test.YthbnbnfhbkekpaaGreatDoorHL
import Derived.Lib.AppendStr
set_option linter.unusedSimpArgs false
set_option linter.unusedVariables false
namespace Go.Proofs.YthbnbnfhbkekpaaGreatDoor
open Go.RowKit

theorem run_str_src {w : World} {a : Option Addr} {len cap : Nat} {l : List Nat} (h : Src w a len cap l) : (convert 22 9 (.slice a len cap)).run Tryz.prog w = .ok (.string (strN l)) w := by
  by_cases h0 : 0 < len
  · obtain ⟨b, o, rfl, _, hc⟩ := h.lies h0
    exact run_str w b o len cap l h.hlen hc
  · obtain rfl : len = 0 := by omega
    obtain rfl : l = [] := List.eq_nil_of_length_eq_zero h.hlen
    cases a with
    | none => exact run_convert_bytes_nil (P := Tryz.prog) w 22 5 Tryz.underlying22 Tryz.underlying5 0 cap 9 Tryz.underlying9
    | some x =>
      rw [run_convert_bytes_string w 22 9 5 _ 0 cap Tryz.underlying22 Tryz.underlying5 Tryz.underlying9]
      exact run_bytesToString w x 0 cap [] (by simpa using run_loadCells_list (P := Tryz.prog) w x [] (by simp))

theorem und22 : Tryz.prog.underlying 22 = some (.slice (Tryz.prog.elem 22)) := by kernel_rfl
theorem size22 (w : World) : (sizeOf (Tryz.prog.elem 22)).run Tryz.prog w = .ok 1 w := by kernel_rfl
theorem own_src {w : World} {B : Nat} {v : Value} {l : List Nat} (h : Own w B 5 v (nums .u8 l)) (hb : ∀ x ∈ l, x < 256) : ∃ a cap, v = .slice a l.length cap ∧ Src w a l.length cap l ∧ (∀ b o, a = some ⟨b, o, none⟩ → B ≤ b) := by
  have hl := nums_length .u8 l
  rcases h.2 with ⟨rfl, h0⟩ | ⟨g, cap, cur, rfl, hg, hh, hc, hm, hs, ht⟩
  · rw [hl] at h0
    obtain rfl : l = [] := List.eq_nil_of_length_eq_zero h0
    exact ⟨none, 0, rfl, Src.nilS w, fun b o e => by cases e⟩
  · rw [hl] at hc ht ⊢
    refine ⟨some ⟨g, 0, none⟩, cap, rfl, ⟨rfl, hc, hm, fun e => (by cases e), fun _ => ⟨g, 0, rfl, lt_of_some hh, fun i hi => ?_⟩, hb⟩, fun b o e => by simp at e; omega⟩
    rw [Nat.mul_one] at ht
    have e1 : cur[i]? = (nums .u8 l)[i]? := by rw [← ht, List.getElem?_take, if_pos hi]; simp
    rw [Nat.zero_add]
    simp only [World.cell?, hh]
    rw [e1]
    exact nums_get .u8 l i hi
theorem inf5 : ∃ i, Tryz.prog.info? 5 = some i ∧ i.zero = some (.int .u8 0) ∧ i.size = 1 ∧ i.bytes = 1 := info5p
/-- 'append(v, x...)', v the call's own bytes. -/
theorem run_app {w : World} {B : Nat} {v : Value} {l : List Nat} (hown : Own w B 5 v (nums .u8 l)) {a : Option Addr} {m c : Nat} {bs : List Nat} (hs : Src w a m c bs) (hlen : l.length + m ≤ 140737488355328) (hB : B ≤ w.heap.size) :
    ∃ v' w', (Builtin.append_ #[22, 22] 22 #[v, .slice a m c]).run Tryz.prog w = .ok v' w' ∧ Own w' B 5 v' (nums .u8 (l ++ bs)) ∧ Below B w w' := by
  cases a with
  | none =>
    obtain ⟨i, hi, hz, hsz, hby⟩ := info5p
    have hc := hs.nil rfl
    have := hs.hcap
    obtain rfl : m = 0 := by omega
    obtain rfl : c = 0 := hc
    obtain rfl : bs = [] := List.eq_nil_of_length_eq_zero hs.hlen
    exact ⟨v, w, run_append_owned_none (P := Tryz.prog) w B 22 22 5 i 1 Tryz.underlying22 hi v _ (nums .u8 l) hown, by simpa using hown, Below.refl _ _⟩
  | some x =>
    obtain ⟨v', w', h1, h2, h3, _⟩ := own_app 22 5 (.int .u8 0) 1 Tryz.underlying22 inf5 rfl hown x m c (nums .u8 bs) (by rw [nums_length, hs.hlen])
      (fun j u hu => by
        obtain ⟨hj, rfl⟩ := nums_at _ _ _ _ hu
        rw [hs.hlen] at hj
        obtain ⟨b, o, e, _, hcell⟩ := hs.lies (by omega)
        simp at e
        subst e
        rw [add_none]
        exact hcell j hj) (nums_one _ _) (by rw [nums_length]; omega) (by rw [nums_length]; omega) hB
    exact ⟨v', w', h1, by rw [nums_append]; exact h2, h3⟩
theorem own_new5 (w : World) : Own (w.alloc (.cells #[] 5)) w.heap.size 5 (.slice (some ⟨w.heap.size, 0, none⟩) 0 0) (nums .u8 []) :=
  ⟨rfl, Or.inr ⟨w.heap.size, 0, #[], rfl, Nat.le_refl _, alloc_new _ _, by simp [nums], Nat.zero_le _, by simp, by simp [nums]⟩⟩
set_option maxRecDepth 100000 in
set_option maxHeartbeats 1000000 in
theorem bytes_at (a : Option Addr) (n c : Nat) (l : List Nat) (w : World) (h : Src w a n c l) (hn : n ≤ 140737488355328) : Calls Tryz.prog 9 #[.slice a n c] w fun e w' => ∃ v, e = .returned v ∧ Own w' w.heap.size 5 v (nums .u8 l) ∧ Below w.heap.size w w' := by
  obtain ⟨W1, hW1⟩ : ∃ W1, W1 = w.alloc (.cells #[] 5) := ⟨_, rfl⟩
  have b1 : Below w.heap.size w W1 := by rw [hW1]; exact (Below.refl _ _).alloc (Nat.le_refl _) _
  have o1 : Own W1 w.heap.size 5 (.slice (some ⟨w.heap.size, 0, none⟩) 0 0) (nums .u8 []) := by rw [hW1]; exact own_new5 w
  obtain ⟨v', W2, hap, o2, b2⟩ := run_app o1 (h.below b1) (by simpa using hn) b1.size
  rw [List.nil_append] at o2
  have hAl : w.alloc (.cells #[] 5) = W1 := hW1.symm
  have HAP := hide hap
  have HO := hide o2
  have HB : Hid (Below w.heap.size w W2) := b1.trans b2
  clear h hW1 b1 o1 hap o2 b2
  go_enter Tryz.func9, Tryz.ntmps9
  go_wp2_with (refine wpList_app_run _ rfl _ _ 22 22 rfl _ _ rfl rfl HAP.out ?_)
  go_ret
  exact ⟨v', rfl, HO.out, HB.out⟩
set_option maxHeartbeats 400000 in
theorem same_bytes (w : World) (a b : Option Addr) (n c m d : Nat) (l : List Nat) (h1 : Src w a n c l) (h2 : Src w b m d l) : Calls Tryz.prog 19 #[.slice a n c, .slice b m d] w fun e w' => e = .returned (.bool true) ∧ w = w' := by
  have r1 := run_str_src h1
  have r2 := run_str_src h2
  clear h1 h2
  go_enter Tryz.func19, Tryz.ntmps19
  go_wp2
  go_ret
  simp
theorem run_cut_h (w : World) (a : Option Addr) (n c : Nat) (b : List Nat) (h : Src w a n c b) (k : Nat) (hk : k ≤ n) : ∃ x : Option Addr,
    (∀ w, (Instr.sliceAt 22 (.slice a n c) none (some (.int .i64 k)) none).run Tryz.prog w = .ok (.slice x k c) w) ∧
    (∀ w, (Instr.slice 22 (.slice a n c) none (some (.int .i64 k)) none).run Tryz.prog w = .ok (.slice x k c) w) ∧ Src w x k c (b.take k) := by
  have hc := h.hcap
  have hl := h.hlen
  have key : ∀ w, (Instr.slice 22 (.slice a n c) none (some (.int .i64 k)) none).run Tryz.prog w = .ok (sliced a 0 k c 1) w := fun w => by
    rw [run_slice_h w 22 _ n c und22 .i64 k (by omega) (by omega), size22]
    simp [Result.andThen]
  refine ⟨if c = 0 then a else a.map (·.add (0 * 1)), fun w => ?_, fun w => ?_, ⟨by rw [List.length_take]; omega, by omega, h.hmax, fun e => ?_, fun h0 => ?_, fun x hx => h.byte x (List.mem_of_mem_take hx)⟩⟩
  · rw [run_sliceAt_slice w 22 _ _ _ _ und22, key]; rfl
  · rw [key]; rfl
  · cases a with
    | none => exact h.nil rfl
    | some x => split at e <;> simp at e
  · obtain ⟨x, o, rfl, hx, hcell⟩ := h.lies (by omega)
    rw [if_neg (by omega)]
    refine ⟨x, o, by rw [Option.map_some, add_none, Nat.zero_mul, Nat.add_zero], hx, fun i hi => ?_⟩
    rw [List.getD, List.getElem?_take, if_pos hi]
    exact hcell i (by omega)
theorem wrap_small (n : Int) (m : Nat) (hm : 0 < m) (hm1 : m ≤ 4611686018427387904) : ∃ k : Nat, k < m ∧ wrap64 ((IntKind.u64.wrap n).tmod m) = (k : Int) := by
  have hu : 0 ≤ IntKind.u64.wrap n := by
    have : IntKind.u64.wrap n = n % 18446744073709551616 := by simp [IntKind.wrap, IntKind.signed, IntKind.bits]
    rw [this]
    exact Int.emod_nonneg _ (by omega)
  generalize IntKind.u64.wrap n = u at hu
  rw [Int.tmod_eq_emod_of_nonneg hu]
  have h1 := Int.emod_nonneg u (show (m : Int) ≠ 0 by omega)
  have h2 := Int.emod_lt_of_pos u (show (0 : Int) < m by omega)
  refine ⟨(u % m).toNat, by omega, ?_⟩
  generalize u % (m : Int) = x at h1 h2
  rw [Int.toNat_of_nonneg h1]
  unfold wrap64
  omega
set_option maxHeartbeats 400000 in
theorem Among_at (n : Int) (m : Nat) (hm : 0 < m) (hm1 : m ≤ 4611686018427387904) (w : World) : Calls Tryz.prog 34 #[.int .i64 n, .int .i64 m] w fun e w' => ∃ k : Nat, k < m ∧ e = .returned (.int .i64 k) ∧ w = w' := by
  go_enter Tryz.func34, Tryz.ntmps34
  go_wp2
  go_ret
  obtain ⟨k, hk, e⟩ := wrap_small n m hm hm1
  exact ⟨k, hk, by rw [← e]; rfl, rfl⟩

theorem own_new76 (w : World) : OwnF (w.alloc (.cells #[] 76)) w.heap.size (.slice (some ⟨w.heap.size, 0, none⟩) 0 0) [] :=
  ⟨rfl, Or.inr ⟨w.heap.size, 0, #[], rfl, Nat.le_refl _, alloc_new _ _, by simp, Nat.zero_le _, by simp, by simp [fcs]⟩⟩
/-- 'append(v, x...)', v the call's own fields. -/
theorem run_appF {w : World} {B : Nat} {v : Value} {fs : List Fd} (hown : OwnF w B v fs) {a : Option Addr} {m c : Nat} {gs : List Fd} (hs : SrcF w a m c gs) (hlen : (fs.length + m) * 32 ≤ 140737488355328) (hB : B ≤ w.heap.size) :
    ∃ v' w', (Builtin.append_ #[42, 42] 42 #[v, .slice a m c]).run Tryz.prog w = .ok v' w' ∧ OwnF w' B v' (fs ++ gs) ∧ Below B w w' := by
  cases a with
  | none =>
    obtain ⟨i, hi, hz, hsz, hby⟩ := inf76
    have hc := hs.nil rfl
    have := hs.hcap
    obtain rfl : m = 0 := by omega
    obtain rfl : c = 0 := hc
    obtain rfl : gs = [] := List.eq_nil_of_length_eq_zero hs.hlen
    exact ⟨v, w, run_append_owned_none (P := Tryz.prog) w B 42 42 76 i 2 Tryz.underlying42 hi v _ (fcs fs) hown, by simpa using hown, Below.refl _ _⟩
  | some x =>
    obtain ⟨v', w', h1, h2, h3, _⟩ := own_appF hown x m c gs hs.hlen
      (fun j u hu => by
        have hj := (List.getElem?_eq_some_iff.1 hu).1
        rw [fcs_len, hs.hlen] at hj
        obtain ⟨b, o, e, _, hcell⟩ := hs.lies (by omega)
        simp at e
        subst e
        rw [add_none]
        exact hcell j u hu) hlen hB
    exact ⟨v', w', h1, h2, h3⟩
set_option maxRecDepth 100000 in
set_option maxHeartbeats 1000000 in
theorem copyF_at (a : Option Addr) (n c : Nat) (fs : List Fd) (w : World) (h : SrcF w a n c fs) (hn : n * 32 ≤ 140737488355328) : Calls Tryz.prog 21 #[.slice a n c] w fun e w' => ∃ v, e = .returned v ∧ OwnF w' w.heap.size v fs ∧ Below w.heap.size w w' := by
  obtain ⟨W1, hW1⟩ : ∃ W1, W1 = w.alloc (.cells #[] 76) := ⟨_, rfl⟩
  have b1 : Below w.heap.size w W1 := by rw [hW1]; exact (Below.refl _ _).alloc (Nat.le_refl _) _
  have o1 : OwnF W1 w.heap.size (.slice (some ⟨w.heap.size, 0, none⟩) 0 0) [] := by rw [hW1]; exact own_new76 w
  obtain ⟨v', W2, hap, o2, b2⟩ := run_appF o1 (h.below b1) (by simpa using hn) b1.size
  rw [List.nil_append] at o2
  have hAl : w.alloc (.cells #[] 76) = W1 := hW1.symm
  have HAP := hide hap
  have HO := hide o2
  have HB : Hid (Below w.heap.size w W2) := b1.trans b2
  clear h hW1 b1 o1 hap o2 b2
  go_enter Tryz.func21, Tryz.ntmps21
  go_wp2_with (refine wpList_app_run _ rfl _ _ 42 42 rfl _ _ rfl rfl HAP.out ?_)
  go_ret
  exact ⟨v', rfl, HO.out, HB.out⟩
set_option maxRecDepth 100000 in
set_option maxHeartbeats 2000000 in
theorem same_fields (w : World) (a b : Option Addr) (n c m d : Nat) (fs : List Fd) (h1 : SrcF w a n c fs) (h2 : SrcF w b m d fs) : Calls Tryz.prog 26 #[.slice a n c, .slice b m d] w fun e w' => e = .returned (.bool true) ∧ Below w.heap.size w w' := by
  obtain rfl : m = n := by rw [← h2.hlen, ← h1.hlen]
  have H1 := hide h1
  have H2 := hide h2
  have hc1 := h1.hcap
  have hm1 := h1.hmax
  have hc2 := h2.hcap
  have hm2 := h2.hmax
  unfold maxLen at hm1 hm2
  clear h1 h2
  go_enter Tryz.func26, Tryz.ntmps26
  go_wp2_with fail
  go_loopw [5] (fun i wr => ∃ k : Nat, k ≤ m ∧ i = .int .i64 k ∧ Hid (Below w.heap.size w wr)) (fun i _ => m - (intOf i).toNat)
  case atStart => exact ⟨0, by omega, rfl, Below.refl _ _⟩
  case round =>
    obtain ⟨k, hk, rfl, HJ⟩ := hrel
    by_cases hkm : k < m
    · have hd : decide ((k : Int) < (m : Int)) = true := decide_eq_true (by omega)
      have s1 := H1.out.keep (w' := wr) (fun h0 b o e => HJ.out.block b (H1.out.lt h0 e)) HJ.out.size
      have s2 := H2.out.keep (w' := wr) (fun h0 b o e => HJ.out.block b (H2.out.lt h0 e)) HJ.out.size
      obtain ⟨xb, xo, rfl, e1, e2⟩ := s1.at_ hkm
      obtain ⟨yb, yo, rfl, e3, e4⟩ := s2.at_ hkm
      rw [Nat.mul_comm 2 k] at e1 e2 e3 e4
      generalize strN (fs.getD k ([], [])).1 = P at e1 e3
      generalize strN (fs.getD k ([], [])).2 = R at e2 e4
      clear s1 s2
      go_wp2_with fail
      go_region
      all_goals go_wp2_with fail
      go_roundw
      case rel => exact ⟨k + 1, by omega, by go_num, HJ.out.drew⟩
      case measure => simp [intOf]; omega
    · have hd : decide ((k : Int) < (m : Int)) = false := decide_eq_false (by omega)
      go_wp2_with fail
      go_ret
      exact ⟨rfl, HJ.out⟩
end Go.Proofs.YthbnbnfhbkekpaaGreatDoor
