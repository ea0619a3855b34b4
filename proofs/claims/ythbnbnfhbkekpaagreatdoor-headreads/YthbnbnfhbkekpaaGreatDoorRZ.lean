/-
  Copies and comparisons of the base; the readers of the reference up to its lines, and what its Request and Reply lean on; conditions as each theorem has them.
-/
import Derived.Test.YthbnbnfhbkekpaaGreatDoorHL
import Derived.Test.YthbnbnfhbkekpaaGreatDoorHM
import Derived.Test.YthbnbnfhbkekpaaGreatDoorHN
import Derived.Test.YthbnbnfhbkekpaaGreatDoorWK
import Derived.Test.YthbnbnfhbkekpaaGreatDoorY
import Derived.Test.YthbnbnfhbkekpaaGreatDoorK
import Derived.Test.YthbnbnfhbkekpaaGreatDoorN2
set_option linter.unusedSimpArgs false
set_option linter.unusedVariables false

namespace Go.Proofs.YthbnbnfhbkekpaaGreatDoor
open Go.RowKit
theorem run_str_src {w : World} {a : Option Addr} {len cap : Nat} {l : List Nat} (h : Src w a len cap l) : (convert 22 9 (.slice a len cap)).run Tryz.prog w = .ok (.string (strN l)) w := by
  by_cases h0 : 0 < len
  · obtain ⟨b, o, rfl, _, hc⟩ := h.lies h0
    exact run_str w b o len cap l h.hlen hc
  · obtain rfl : len = 0 := by omega
    obtain rfl : l = [] := List.eq_nil_of_length_eq_zero h.hlen
    cases a with
    | none => exact run_convert_bytes_nil (P := Tryz.prog) w 22 5 Tryz.underlying22 Tryz.underlying5 0 cap 9 Tryz.underlying9
    | some x =>
      rw [run_convert_bytes_string w 22 9 5 _ 0 cap Tryz.underlying22 Tryz.underlying5 Tryz.underlying9]
      exact run_bytesToString w x 0 cap [] (by simpa using run_loadCells_list (P := Tryz.prog) w x [] (by simp))

theorem und22 : Tryz.prog.underlying 22 = some (.slice (Tryz.prog.elem 22)) := by kernel_rfl
theorem size22 (w : World) : (sizeOf (Tryz.prog.elem 22)).run Tryz.prog w = .ok 1 w := by kernel_rfl
theorem own_src {w : World} {B : Nat} {v : Value} {l : List Nat} (h : Own w B 5 v (nums .u8 l)) (hb : ∀ x ∈ l, x < 256) : ∃ a cap, v = .slice a l.length cap ∧ Src w a l.length cap l ∧ (∀ b o, a = some ⟨b, o, none⟩ → B ≤ b) := by
  have hl := nums_length .u8 l
  rcases h.2 with ⟨rfl, h0⟩ | ⟨g, cap, cur, rfl, hg, hh, hc, hm, hs, ht⟩
  · rw [hl] at h0
    obtain rfl : l = [] := List.eq_nil_of_length_eq_zero h0
    exact ⟨none, 0, rfl, Src.nilS w, fun b o e => by cases e⟩
  · rw [hl] at hc ht ⊢
    refine ⟨some ⟨g, 0, none⟩, cap, rfl, ⟨rfl, hc, hm, fun e => (by cases e), fun _ => ⟨g, 0, rfl, lt_of_some hh, fun i hi => ?_⟩, hb⟩, fun b o e => by simp at e; omega⟩
    rw [Nat.mul_one] at ht
    have e1 : cur[i]? = (nums .u8 l)[i]? := by rw [← ht, List.getElem?_take, if_pos hi]; simp
    rw [Nat.zero_add]
    simp only [World.cell?, hh]
    rw [e1]
    exact nums_get .u8 l i hi
theorem inf5 : ∃ i, Tryz.prog.info? 5 = some i ∧ i.zero = some (.int .u8 0) ∧ i.size = 1 ∧ i.bytes = 1 := info5p
/-- 'append(v, x...)', v the call's own bytes. -/
theorem run_app {w : World} {B : Nat} {v : Value} {l : List Nat} (hown : Own w B 5 v (nums .u8 l)) {a : Option Addr} {m c : Nat} {bs : List Nat} (hs : Src w a m c bs) (hlen : l.length + m ≤ 140737488355328) (hB : B ≤ w.heap.size) :
    ∃ v' w', (Builtin.append_ #[22, 22] 22 #[v, .slice a m c]).run Tryz.prog w = .ok v' w' ∧ Own w' B 5 v' (nums .u8 (l ++ bs)) ∧ Below B w w' := by
  cases a with
  | none =>
    obtain ⟨i, hi, hz, hsz, hby⟩ := info5p
    have hc := hs.nil rfl
    have := hs.hcap
    obtain rfl : m = 0 := by omega
    obtain rfl : c = 0 := hc
    obtain rfl : bs = [] := List.eq_nil_of_length_eq_zero hs.hlen
    exact ⟨v, w, run_append_owned_none (P := Tryz.prog) w B 22 22 5 i 1 Tryz.underlying22 hi v _ (nums .u8 l) hown, by simpa using hown, Below.refl _ _⟩
  | some x =>
    obtain ⟨v', w', h1, h2, h3, _⟩ := own_app 22 5 (.int .u8 0) 1 Tryz.underlying22 inf5 rfl hown x m c (nums .u8 bs) (by rw [nums_length, hs.hlen])
      (fun j u hu => by
        obtain ⟨hj, rfl⟩ := nums_at _ _ _ _ hu
        rw [hs.hlen] at hj
        obtain ⟨b, o, e, _, hcell⟩ := hs.lies (by omega)
        simp at e
        subst e
        rw [add_none]
        exact hcell j hj) (nums_one _ _) (by rw [nums_length]; omega) (by rw [nums_length]; omega) hB
    exact ⟨v', w', h1, by rw [nums_append]; exact h2, h3⟩
theorem own_new5 (w : World) : Own (w.alloc (.cells #[] 5)) w.heap.size 5 (.slice (some ⟨w.heap.size, 0, none⟩) 0 0) (nums .u8 []) :=
  ⟨rfl, Or.inr ⟨w.heap.size, 0, #[], rfl, Nat.le_refl _, alloc_new _ _, by simp [nums], Nat.zero_le _, by simp, by simp [nums]⟩⟩
set_option maxRecDepth 100000 in
set_option maxHeartbeats 1000000 in
theorem bytes_at (a : Option Addr) (n c : Nat) (l : List Nat) (w : World) (h : Src w a n c l) (hn : n ≤ 140737488355328) : Calls Tryz.prog 9 #[.slice a n c] w fun e w' => ∃ v, e = .returned v ∧ Own w' w.heap.size 5 v (nums .u8 l) ∧ Below w.heap.size w w' := by
  obtain ⟨W1, hW1⟩ : ∃ W1, W1 = w.alloc (.cells #[] 5) := ⟨_, rfl⟩
  have b1 : Below w.heap.size w W1 := by rw [hW1]; exact (Below.refl _ _).alloc (Nat.le_refl _) _
  have o1 : Own W1 w.heap.size 5 (.slice (some ⟨w.heap.size, 0, none⟩) 0 0) (nums .u8 []) := by rw [hW1]; exact own_new5 w
  obtain ⟨v', W2, hap, o2, b2⟩ := run_app o1 (h.below b1) (by simpa using hn) b1.size
  rw [List.nil_append] at o2
  have hAl : w.alloc (.cells #[] 5) = W1 := hW1.symm
  have HAP := hide hap
  have HO := hide o2
  have HB : Hid (Below w.heap.size w W2) := b1.trans b2
  clear h hW1 b1 o1 hap o2 b2
  go_enter Tryz.func9, Tryz.ntmps9
  go_wp2_with (refine wpList_app_run _ rfl _ _ 22 22 rfl _ _ rfl rfl HAP.out ?_)
  go_ret
  exact ⟨v', rfl, HO.out, HB.out⟩
set_option maxHeartbeats 400000 in
theorem same_bytes (w : World) (a b : Option Addr) (n c m d : Nat) (l : List Nat) (h1 : Src w a n c l) (h2 : Src w b m d l) : Calls Tryz.prog 19 #[.slice a n c, .slice b m d] w fun e w' => e = .returned (.bool true) ∧ w = w' := by
  have r1 := run_str_src h1
  have r2 := run_str_src h2
  clear h1 h2
  go_enter Tryz.func19, Tryz.ntmps19
  go_wp2
  go_ret
  simp
theorem run_cut_h (w : World) (a : Option Addr) (n c : Nat) (b : List Nat) (h : Src w a n c b) (k : Nat) (hk : k ≤ n) : ∃ x : Option Addr,
    (∀ w, (Instr.sliceAt 22 (.slice a n c) none (some (.int .i64 k)) none).run Tryz.prog w = .ok (.slice x k c) w) ∧
    (∀ w, (Instr.slice 22 (.slice a n c) none (some (.int .i64 k)) none).run Tryz.prog w = .ok (.slice x k c) w) ∧ Src w x k c (b.take k) := by
  have hc := h.hcap
  have hl := h.hlen
  have key : ∀ w, (Instr.slice 22 (.slice a n c) none (some (.int .i64 k)) none).run Tryz.prog w = .ok (sliced a 0 k c 1) w := fun w => by
    rw [run_slice_h w 22 _ n c und22 .i64 k (by omega) (by omega), size22]
    simp [Result.andThen]
  refine ⟨if c = 0 then a else a.map (·.add (0 * 1)), fun w => ?_, fun w => ?_, ⟨by rw [List.length_take]; omega, by omega, h.hmax, fun e => ?_, fun h0 => ?_, fun x hx => h.byte x (List.mem_of_mem_take hx)⟩⟩
  · rw [run_sliceAt_slice w 22 _ _ _ _ und22, key]; rfl
  · rw [key]; rfl
  · cases a with
    | none => exact h.nil rfl
    | some x => split at e <;> simp at e
  · obtain ⟨x, o, rfl, hx, hcell⟩ := h.lies (by omega)
    rw [if_neg (by omega)]
    refine ⟨x, o, by rw [Option.map_some, add_none, Nat.zero_mul, Nat.add_zero], hx, fun i hi => ?_⟩
    rw [List.getD, List.getElem?_take, if_pos hi]
    exact hcell i (by omega)
theorem wrap_small (n : Int) (m : Nat) (hm : 0 < m) (hm1 : m ≤ 4611686018427387904) : ∃ k : Nat, k < m ∧ wrap64 ((IntKind.u64.wrap n).tmod m) = (k : Int) := by
  have hu : 0 ≤ IntKind.u64.wrap n := by
    have : IntKind.u64.wrap n = n % 18446744073709551616 := by simp [IntKind.wrap, IntKind.signed, IntKind.bits]
    rw [this]
    exact Int.emod_nonneg _ (by omega)
  generalize IntKind.u64.wrap n = u at hu
  rw [Int.tmod_eq_emod_of_nonneg hu]
  have h1 := Int.emod_nonneg u (show (m : Int) ≠ 0 by omega)
  have h2 := Int.emod_lt_of_pos u (show (0 : Int) < m by omega)
  refine ⟨(u % m).toNat, by omega, ?_⟩
  generalize u % (m : Int) = x at h1 h2
  rw [Int.toNat_of_nonneg h1]
  unfold wrap64
  omega
set_option maxHeartbeats 400000 in
theorem Among_at (n : Int) (m : Nat) (hm : 0 < m) (hm1 : m ≤ 4611686018427387904) (w : World) : Calls Tryz.prog 34 #[.int .i64 n, .int .i64 m] w fun e w' => ∃ k : Nat, k < m ∧ e = .returned (.int .i64 k) ∧ w = w' := by
  go_enter Tryz.func34, Tryz.ntmps34
  go_wp2
  go_ret
  obtain ⟨k, hk, e⟩ := wrap_small n m hm hm1
  exact ⟨k, hk, by rw [← e]; rfl, rfl⟩

theorem own_new76 (w : World) : OwnF (w.alloc (.cells #[] 76)) w.heap.size (.slice (some ⟨w.heap.size, 0, none⟩) 0 0) [] :=
  ⟨rfl, Or.inr ⟨w.heap.size, 0, #[], rfl, Nat.le_refl _, alloc_new _ _, by simp, Nat.zero_le _, by simp, by simp [fcs]⟩⟩
/-- 'append(v, x...)', v the call's own fields. -/
theorem run_appF {w : World} {B : Nat} {v : Value} {fs : List Fd} (hown : OwnF w B v fs) {a : Option Addr} {m c : Nat} {gs : List Fd} (hs : SrcF w a m c gs) (hlen : (fs.length + m) * 32 ≤ 140737488355328) (hB : B ≤ w.heap.size) :
    ∃ v' w', (Builtin.append_ #[42, 42] 42 #[v, .slice a m c]).run Tryz.prog w = .ok v' w' ∧ OwnF w' B v' (fs ++ gs) ∧ Below B w w' := by
  cases a with
  | none =>
    obtain ⟨i, hi, hz, hsz, hby⟩ := inf76
    have hc := hs.nil rfl
    have := hs.hcap
    obtain rfl : m = 0 := by omega
    obtain rfl : c = 0 := hc
    obtain rfl : gs = [] := List.eq_nil_of_length_eq_zero hs.hlen
    exact ⟨v, w, run_append_owned_none (P := Tryz.prog) w B 42 42 76 i 2 Tryz.underlying42 hi v _ (fcs fs) hown, by simpa using hown, Below.refl _ _⟩
  | some x =>
    obtain ⟨v', w', h1, h2, h3, _⟩ := own_appF hown x m c gs hs.hlen
      (fun j u hu => by
        have hj := (List.getElem?_eq_some_iff.1 hu).1
        rw [fcs_len, hs.hlen] at hj
        obtain ⟨b, o, e, _, hcell⟩ := hs.lies (by omega)
        simp at e
        subst e
        rw [add_none]
        exact hcell j u hu) hlen hB
    exact ⟨v', w', h1, h2, h3⟩
set_option maxRecDepth 100000 in
set_option maxHeartbeats 1000000 in
theorem copyF_at (a : Option Addr) (n c : Nat) (fs : List Fd) (w : World) (h : SrcF w a n c fs) (hn : n * 32 ≤ 140737488355328) : Calls Tryz.prog 21 #[.slice a n c] w fun e w' => ∃ v, e = .returned v ∧ OwnF w' w.heap.size v fs ∧ Below w.heap.size w w' := by
  obtain ⟨W1, hW1⟩ : ∃ W1, W1 = w.alloc (.cells #[] 76) := ⟨_, rfl⟩
  have b1 : Below w.heap.size w W1 := by rw [hW1]; exact (Below.refl _ _).alloc (Nat.le_refl _) _
  have o1 : OwnF W1 w.heap.size (.slice (some ⟨w.heap.size, 0, none⟩) 0 0) [] := by rw [hW1]; exact own_new76 w
  obtain ⟨v', W2, hap, o2, b2⟩ := run_appF o1 (h.below b1) (by simpa using hn) b1.size
  rw [List.nil_append] at o2
  have hAl : w.alloc (.cells #[] 76) = W1 := hW1.symm
  have HAP := hide hap
  have HO := hide o2
  have HB : Hid (Below w.heap.size w W2) := b1.trans b2
  clear h hW1 b1 o1 hap o2 b2
  go_enter Tryz.func21, Tryz.ntmps21
  go_wp2_with (refine wpList_app_run _ rfl _ _ 42 42 rfl _ _ rfl rfl HAP.out ?_)
  go_ret
  exact ⟨v', rfl, HO.out, HB.out⟩
set_option maxRecDepth 100000 in
set_option maxHeartbeats 2000000 in
theorem same_fields (w : World) (a b : Option Addr) (n c m d : Nat) (fs : List Fd) (h1 : SrcF w a n c fs) (h2 : SrcF w b m d fs) : Calls Tryz.prog 26 #[.slice a n c, .slice b m d] w fun e w' => e = .returned (.bool true) ∧ Below w.heap.size w w' := by
  obtain rfl : m = n := by rw [← h2.hlen, ← h1.hlen]
  have H1 := hide h1
  have H2 := hide h2
  have hc1 := h1.hcap
  have hm1 := h1.hmax
  have hc2 := h2.hcap
  have hm2 := h2.hmax
  unfold maxLen at hm1 hm2
  clear h1 h2
  go_enter Tryz.func26, Tryz.ntmps26
  go_wp2_with fail
  go_loopw [5] (fun i wr => ∃ k : Nat, k ≤ m ∧ i = .int .i64 k ∧ Hid (Below w.heap.size w wr)) (fun i _ => m - (intOf i).toNat)
  case atStart => exact ⟨0, by omega, rfl, Below.refl _ _⟩
  case round =>
    obtain ⟨k, hk, rfl, HJ⟩ := hrel
    by_cases hkm : k < m
    · have hd : decide ((k : Int) < (m : Int)) = true := decide_eq_true (by omega)
      have s1 := H1.out.keep (w' := wr) (fun h0 b o e => HJ.out.block b (H1.out.lt h0 e)) HJ.out.size
      have s2 := H2.out.keep (w' := wr) (fun h0 b o e => HJ.out.block b (H2.out.lt h0 e)) HJ.out.size
      obtain ⟨xb, xo, rfl, e1, e2⟩ := s1.at_ hkm
      obtain ⟨yb, yo, rfl, e3, e4⟩ := s2.at_ hkm
      rw [Nat.mul_comm 2 k] at e1 e2 e3 e4
      generalize strN (fs.getD k ([], [])).1 = P at e1 e3
      generalize strN (fs.getD k ([], [])).2 = R at e2 e4
      clear s1 s2
      go_wp2_with fail
      go_region
      all_goals go_wp2_with fail
      go_roundw
      case rel => exact ⟨k + 1, by omega, by go_num, HJ.out.drew⟩
      case measure => simp [intOf]; omega
    · have hd : decide ((k : Int) < (m : Int)) = false := decide_eq_false (by omega)
      go_wp2_with fail
      go_ret
      exact ⟨rfl, HJ.out⟩
end Go.Proofs.YthbnbnfhbkekpaaGreatDoor

namespace Go.Proofs.YthbnbnfhbkekpaaGreatDoor
open Go.RowKit
set_option maxRecDepth 100000 in
set_option maxHeartbeats 2000000 in
theorem rplain_at (t : ByteArray) (a m : Nat) (w : World) (hm : t.size ≤ maxLen) : Calls Tryz.prog 51 #[.string t, .int .u8 a, .int .i64 m] w fun e w' => e = .returned (.bool (decide ((byt t).length ≤ m) && within a 126 (byt t))) ∧ w = w' := by
  have hix : ∀ i, i < t.size → ∀ w, (Instr.index 9 (.string t) (.int .i64 (i : Nat))).run Tryz.prog w = .ok (.int .u8 ((byt t).getD i 0 : Nat)) w := fun i hi w => run_ixstr t i hi w
  obtain ⟨l, hl⟩ : ∃ l, l = byt t := ⟨_, rfl⟩
  rw [← hl] at hix ⊢
  obtain ⟨N, hN⟩ : ∃ N, N = t.size := ⟨_, rfl⟩
  have hNI : (t.size : Int) = (N : Int) := by rw [hN]
  have HNL : Hid (N = l.length) := by show _ = _; rw [hN, hl, byt_length]
  rw [← hN] at hix hm
  unfold maxLen at hm
  have HIX := hide hix
  clear hl hix hN
  go_enter Tryz.func51, Tryz.ntmps51
  go_wp2_with fail
  go_loop [7] (fun i => ∃ k : Nat, k ≤ N ∧ i = .int .i64 k ∧ Hid (within a 126 (l.take k) = true)) (fun i => N - (intOf i).toNat)
  case atStart => exact ⟨0, by omega, rfl, by show within a 126 (l.take 0) = true; rfl⟩
  case round =>
    obtain ⟨k, hk, rfl, HR⟩ := hrel
    by_cases hkN : k < N
    · have hdk : decide ((k : Int) < (N : Int)) = true := decide_eq_true (by omega)
      have hkl : k < l.length := by rw [← HNL.out]; exact hkN
      have hcl := HIX.out k hkN
      have HA : Hid ((decide (a ≤ l.getD k 0) && decide (l.getD k 0 ≤ 126)) = true → within a 126 (l.take (k + 1)) = true) := fun h => all_take _ l k hkl HR.out h
      have HF : Hid ((decide (a ≤ l.getD k 0) && decide (l.getD k 0 ≤ 126)) = false → within a 126 l = false) := fun h => all_not _ l k hkl h
      obtain ⟨c, hcc⟩ : ∃ c, c = l.getD k 0 := ⟨_, rfl⟩
      rw [← hcc] at hcl HA HF
      clear hcc hkl
      by_cases h1 : c < a
      · have q1 : decide ((c : Int) < (a : Int)) = true := decide_eq_true (by omega)
        have q1' : decide (c < a) = true := decide_eq_true h1
        have hf := hide (HF.out (by simp; omega))
        clear HA HF
        go_wp2_with fail
        go_ret
        refine ⟨?_, rfl⟩
        rw [hf.out, Bool.and_false]; rfl
      · have q1 : decide ((c : Int) < (a : Int)) = false := decide_eq_false (by omega)
        have q1' : decide (c < a) = false := decide_eq_false h1
        by_cases h2 : 126 < c
        · have q2 : decide ((126 : Int) < (c : Int)) = true := decide_eq_true (by omega)
          have q2' : decide (126 < c) = true := decide_eq_true h2
          have hf := hide (HF.out (by simp; omega))
          clear HA HF
          go_wp2_with fail
          go_ret
          refine ⟨?_, rfl⟩
          rw [hf.out, Bool.and_false]; rfl
        · have q2 : decide ((126 : Int) < (c : Int)) = false := decide_eq_false (by omega)
          have q2' : decide (126 < c) = false := decide_eq_false h2
          have ha := hide (HA.out (by simp; omega))
          clear HA HF
          go_wp2_with fail
          go_round
          case rel => exact ⟨k + 1, by omega, by go_num, ha.out⟩
          case measure => simp [intOf]; omega
    · have hdk : decide ((k : Int) < (N : Int)) = false := decide_eq_false (by omega)
      have hr := HR.out
      rw [List.take_of_length_le (by rw [← HNL.out]; omega)] at hr
      have HW := hide hr
      by_cases hle : N ≤ m
      · have q : decide ((N : Int) ≤ (m : Int)) = true := decide_eq_true (by omega)
        have q' : decide (N ≤ m) = true := decide_eq_true hle
        clear hr HR
        go_wp2_with fail
        go_ret
        refine ⟨?_, rfl⟩
        rw [HW.out, ← HNL.out, q']; rfl
      · have q : decide ((N : Int) ≤ (m : Int)) = false := decide_eq_false (by omega)
        have q' : decide (N ≤ m) = false := decide_eq_false hle
        clear hr HR
        go_wp2_with fail
        go_ret
        refine ⟨?_, rfl⟩
        rw [HW.out, ← HNL.out, q']; rfl
set_option maxHeartbeats 2000000 in
theorem rbegins_at (t d : ByteArray) (w : World) (hm : t.size ≤ maxLen) (hd : d.size ≤ 100) : Calls Tryz.prog 58 #[.string t, .string d] w fun e w' => e = .returned (.bool (decide ((byt t).take d.size = byt d))) ∧ w = w' := by
  unfold maxLen at hm
  have heq : ((t.extract 0 d.size).toList == d.toList) = decide ((byt t).take d.size = byt d) := by
    rw [eq_byt, byt_take]
  by_cases h : d.size ≤ t.size
  · have q : decide ((d.size : Int) ≤ (t.size : Int)) = true := decide_eq_true (by omega)
    have q' : decide (d.size ≤ t.size) = true := decide_eq_true h
    have HQ := hide heq
    go_enter Tryz.func58, Tryz.ntmps58
    go_wp2_with fail
    go_ret
    exact ⟨rfl, rfl⟩
  · have q : decide ((d.size : Int) ≤ (t.size : Int)) = false := decide_eq_false (by omega)
    have q' : decide (d.size ≤ t.size) = false := decide_eq_false h
    have HR : Hid (decide ((byt t).take d.size = byt d) = false) := by
      apply decide_eq_false
      intro e
      have := congrArg List.length e
      rw [List.length_take, byt_length, byt_length] at this
      omega
    clear heq
    go_enter Tryz.func58, Tryz.ntmps58
    go_wp2_with fail
    go_ret
    exact ⟨by rw [HR.out]; rfl, rfl⟩
end Go.Proofs.YthbnbnfhbkekpaaGreatDoor

namespace Go.Proofs.YthbnbnfhbkekpaaGreatDoor
open Go.RowKit
/-- How far the reference's End has come. -/
structure EnSt (L : List Nat) (a i : Nat) : Prop where
  off : en L = (en (L.drop a)).map (a + ·)
  le : a ≤ i + 1
  no : ∀ j, a ≤ j → j < i → ¬ At2 L j
  nx : a = i + 1 → ¬ At2 L i
theorem EnSt.start (L : List Nat) : EnSt L 0 0 := ⟨by cases h : en L <;> simp [h], by omega, fun j h1 h2 => by omega, fun h => by omega⟩
theorem EnSt.skip {L : List Nat} {a i : Nat} (h : EnSt L a i) (hn : ¬ At2 L i) : EnSt L a (i + 1) :=
  ⟨h.off, by have := h.le; omega, fun j h1 h2 => by
    by_cases e : j = i
    · subst e; exact hn
    · exact h.no j h1 (by omega), fun e => by have := h.le; omega⟩
theorem EnSt.pr {L : List Nat} {a i : Nat} (h : EnSt L a i) (hi : At2 L i) : a ≤ i ∧ pair (L.drop a) = some (i - a) := by
  have hle : a ≤ i := by
    have := h.le
    by_cases e : a = i + 1
    · exact absurd hi (h.nx e)
    · omega
  refine ⟨hle, pair_of ?_ ?_⟩
  · rw [at2_drop, show a + (i - a) = i by omega]; exact hi
  · intro j hj
    rw [at2_drop]
    exact h.no _ (by omega) (by omega)
theorem EnSt.hit {L : List Nat} {i : Nat} (h : EnSt L i i) (hi : At2 L i) : en L = some (i + 2) := by
  have hp := (h.pr hi).2
  rw [Nat.sub_self] at hp
  rw [h.off, en_zero hp]; rfl
theorem EnSt.go {L : List Nat} {a i : Nat} (h : EnSt L a i) (hi : At2 L i) (hne : i ≠ a) : EnSt L (i + 2) (i + 1) := by
  obtain ⟨hle, hp⟩ := h.pr hi
  obtain ⟨k, hk⟩ : ∃ k, i - a = k + 1 := ⟨i - a - 1, by omega⟩
  rw [hk] at hp
  refine ⟨?_, by omega, fun j h1 h2 => by omega, fun _ hx => ?_⟩
  · rw [h.off, en_succ hp, List.drop_drop, show a + (k + 3) = i + 2 by omega]
    cases en (L.drop (i + 2)) with
    | none => rfl
    | some n => simp; omega
  · have h1 := hi.2
    have h2 := hx.1
    rw [h1] at h2
    simp at h2
theorem EnSt.fin {L : List Nat} {a i : Nat} (h : EnSt L a i) (hi : L.length < i + 2) : en L = none := by
  have hp : pair (L.drop a) = none := pair_of_none fun j hj => by
    rw [at2_drop] at hj
    have h1 := (List.getElem?_eq_some_iff.1 hj.2).1
    by_cases e : a + j < i
    · exact h.no _ (by omega) e hj
    · omega
  rw [h.off, en_none hp]; rfl

/-- How far the reference's lines has come. -/
structure LnSt (T : List Nat) (o : List (List Nat)) (i : Nat) : Prop where
  pc : pcl T = o ++ pcl (T.drop (fla o).length)
  le : (fla o).length ≤ i + 1
  no : ∀ j, (fla o).length ≤ j → j < i → ¬ At2 T j
  nx : (fla o).length = i + 1 → ¬ At2 T i
theorem LnSt.start (T : List Nat) : LnSt T [] 0 := ⟨by simp [fla], by simp [fla], fun j h1 h2 => by omega, fun h => by simp [fla] at h⟩
theorem LnSt.skip {T : List Nat} {o : List (List Nat)} {i : Nat} (h : LnSt T o i) (hn : ¬ At2 T i) : LnSt T o (i + 1) :=
  ⟨h.pc, by have := h.le; omega, fun j h1 h2 => by
    by_cases e : j = i
    · subst e; exact hn
    · exact h.no j h1 (by omega), fun e => by have := h.le; omega⟩
theorem LnSt.hit {T : List Nat} {o : List (List Nat)} {i : Nat} (h : LnSt T o i) (hi : At2 T i) : (fla o).length ≤ i ∧ LnSt T (o ++ [(T.drop (fla o).length).take (i - (fla o).length)]) (i + 1) ∧ (fla (o ++ [(T.drop (fla o).length).take (i - (fla o).length)])).length = i + 2 := by
  have hle : (fla o).length ≤ i := by
    have := h.le
    by_cases e : (fla o).length = i + 1
    · exact absurd hi (h.nx e)
    · omega
  have hil : i + 1 < T.length := (List.getElem?_eq_some_iff.1 hi.2).1
  have hp : pair (T.drop (fla o).length) = some (i - (fla o).length) := by
    refine pair_of ?_ ?_
    · rw [at2_drop, show (fla o).length + (i - (fla o).length) = i by omega]; exact hi
    · intro j hj
      rw [at2_drop]
      exact h.no _ (by omega) (by omega)
  have hfl : (fla (o ++ [(T.drop (fla o).length).take (i - (fla o).length)])).length = i + 2 := by
    rw [fla_app]
    simp [fla]
    omega
  refine ⟨hle, ⟨?_, by omega, fun j h1 h2 => by omega, fun _ hx => ?_⟩, hfl⟩
  · rw [hfl, h.pc, pcl_some hp, List.drop_drop, show (fla o).length + (i - (fla o).length + 2) = i + 2 by omega, List.append_assoc]
    rfl
  · have h1 := hi.2
    have h2 := hx.1
    rw [h1] at h2
    simp at h2
theorem LnSt.fin {T : List Nat} {o : List (List Nat)} {i : Nat} (h : LnSt T o i) (hi : T.length < i + 2) : pcl T = o := by
  have hp : pair (T.drop (fla o).length) = none := pair_of_none fun j hj => by
    rw [at2_drop] at hj
    have h1 := (List.getElem?_eq_some_iff.1 hj.2).1
    by_cases e : (fla o).length + j < i
    · exact h.no _ (by omega) e hj
    · omega
  rw [h.pc, pcl_none hp, List.append_nil]
theorem begs_snoc : ∀ (o : List (List Nat)) (a : Nat) (x : List Nat), begs a (o ++ [x]) = begs a o ++ [a + (fla o).length]
  | [], a, x => by simp [begs, fla]
  | y :: o, a, x => by
    rw [List.cons_append, begs, begs_snoc o _ x, begs]
    simp [fla]
    omega
theorem begs_length : ∀ (o : List (List Nat)) (a : Nat), (begs a o).length = o.length
  | [], a => rfl
  | y :: o, a => by simp [begs, begs_length o]

theorem bln_nil (k : Nat) : bln (k + 1) [] = [[]] := by cases k <;> rfl
theorem bln_snoc (c : Nat) : ∀ (l : List Nat) (k : Nat), bln (k + 1) (l ++ [c]) = if c = 32 ∧ (bln (k + 1) l).length < k + 1 then bln (k + 1) l ++ [[]] else ext c (bln (k + 1) l)
  | l, 0 => by
    rw [bln_one, bln_one, if_neg (by simp)]; rfl
  | [], k + 1 => by
    rw [List.nil_append, bln_nil]
    by_cases hc : c = 32
    · rw [if_pos ⟨hc, by simp⟩, bln, if_pos hc, bln_nil]; rfl
    · rw [if_neg (fun h => hc h.1), bln, if_neg hc, bln_nil]; rfl
  | d :: r, k + 1 => by
    by_cases hd : d = 32
    · have ih := bln_snoc c r k
      rw [List.cons_append, bln, if_pos hd, ih, show bln (k + 1 + 1) (d :: r) = [] :: bln (k + 1) r by rw [bln, if_pos hd]]
      by_cases hh : c = 32 ∧ (bln (k + 1) r).length < k + 1
      · rw [if_pos hh, if_pos ⟨hh.1, by simp; omega⟩]; rfl
      · rw [if_neg hh, if_neg (fun h => hh ⟨h.1, by have := h.2; simp at this; omega⟩)]
        have hne := bln_ne k r
        cases hX : bln (k + 1) r with
        | nil => exact absurd hX hne
        | cons y ys => rfl
    · have ih := bln_snoc c r (k + 1)
      have hne := bln_ne (k + 1) r
      rw [List.cons_append, bln, if_neg hd, ih, show bln (k + 1 + 1) (d :: r) = (d :: (bln (k + 2) r).headD []) :: (bln (k + 2) r).tail by rw [bln, if_neg hd]]
      cases hX : bln (k + 1 + 1) r with
      | nil => exact absurd hX hne
      | cons y ys =>
        by_cases hh : c = 32 ∧ (y :: ys).length < k + 1 + 1
        · rw [if_pos hh, if_pos ⟨hh.1, by have := hh.2; simpa using this⟩]; rfl
        · rw [if_neg hh, if_neg (fun h => hh ⟨h.1, by have := h.2; simpa using this⟩)]
          cases ys with
          | nil => rfl
          | cons z zs => rfl

theorem dw_app (p : Nat → Bool) : ∀ (a b : List Nat), (∀ x ∈ a, p x = true) → (a ++ b).dropWhile p = b.dropWhile p
  | [], b, _ => rfl
  | x :: a, b, h => by rw [List.cons_append, List.dropWhile_cons, if_pos (h x (by simp)), dw_app p a b (fun y hy => h y (by simp [hy]))]
theorem trimR_all {l : List Nat} (h : ∀ x ∈ l, bk x = true) : trimR l = [] := by
  unfold trimR
  have := dw_app bk l.reverse [] (fun x hx => h x (by simpa using hx))
  rw [List.append_nil] at this
  rw [this]; rfl
theorem trimL_all {l : List Nat} (h : ∀ x ∈ l, bk x = true) : trimL l = [] := by
  unfold trimL
  have := dw_app bk l [] h
  rw [List.append_nil] at this
  rw [this]; rfl
theorem trimR_snoc (l : List Nat) (c : Nat) : trimR (l ++ [c]) = if bk c = true then trimR l else l ++ [c] := by
  unfold trimR
  rw [List.reverse_append, List.reverse_singleton, List.singleton_append, List.dropWhile_cons]
  split
  · rfl
  · simp
theorem trimL_cons (c : Nat) (l : List Nat) : trimL (c :: l) = if bk c = true then trimL l else c :: l := by
  unfold trimL
  rw [List.dropWhile_cons]
/-- A list that begins with what is no blank, from the right. -/
theorem trimR_cons {c : Nat} (hc : bk c = false) : ∀ (n : Nat) (l : List Nat), l.length = n → ∃ r, trimR (c :: l) = c :: r
  | 0, l, h => by
    have : l = [] := List.length_eq_zero_iff.1 h
    subst this
    have := trimR_snoc [] c
    rw [List.nil_append, if_neg (by rw [hc]; simp)] at this
    exact ⟨[], this⟩
  | n + 1, l, h => by
    obtain ⟨m, d, rfl⟩ : ∃ m d, l = m ++ [d] := ⟨l.dropLast, l.getLast (by intro e; rw [e] at h; simp at h), (List.dropLast_concat_getLast _).symm⟩
    have := trimR_snoc (c :: m) d
    rw [List.cons_append] at this
    rw [this]
    split
    · exact trimR_cons hc n m (by simpa using h)
    · exact ⟨_, rfl⟩
theorem trim_comm (l : List Nat) : trim l = trimR (trimL l) := by
  unfold trim
  induction l with
  | nil => rfl
  | cons c r ih =>
    rw [trimL_cons c r]
    by_cases hc : bk c = true
    · rw [if_pos hc, ← ih]
      -- a blank ahead
      have key : ∀ (n : Nat) (r : List Nat), r.length = n → trimL (trimR (c :: r)) = trimL (trimR r) := by
        intro n
        induction n with
        | zero =>
          intro r h
          have : r = [] := List.length_eq_zero_iff.1 h
          subst this
          have := trimR_snoc [] c
          rw [List.nil_append, if_pos hc] at this
          rw [this]
        | succ n ihn =>
          intro r h
          obtain ⟨m, d, rfl⟩ : ∃ m d, r = m ++ [d] := ⟨r.dropLast, r.getLast (by intro e; rw [e] at h; simp at h), (List.dropLast_concat_getLast _).symm⟩
          have e1 := trimR_snoc (c :: m) d
          rw [List.cons_append] at e1
          rw [e1, trimR_snoc m d]
          by_cases hd : bk d = true
          · rw [if_pos hd, if_pos hd]; exact ihn m (by simpa using h)
          · rw [if_neg hd, if_neg hd, trimL_cons, if_pos hc]
      exact key _ r rfl
    · rw [if_neg hc]
      obtain ⟨s, hs⟩ := trimR_cons (c := c) (by simpa using hc) _ r rfl
      rw [hs, trimL_cons, if_neg hc]
theorem getD_at {x : List Nat} {j : Nat} {c : Nat} (h : x[j]? = some c) : x.getD j 0 = c := by simp [List.getD, h]
theorem trimL_from {x : List Nat} {k F : Nat} (h1 : k ≤ F) (h2 : F ≤ x.length) (ha : ∀ j, k ≤ j → j < F → bk (x.getD j 0) = true) (hb : F = x.length ∨ bk (x.getD F 0) = false) : trimL (x.drop k) = x.drop F := by
  have hs : x.drop k = (x.drop k).take (F - k) ++ x.drop F := by
    have := List.take_append_drop (F - k) (x.drop k)
    rw [List.drop_drop, show k + (F - k) = F by omega] at this
    exact this.symm
  unfold trimL
  rw [hs, dw_app]
  · refine dw_of bk fun c hc => ?_
    rcases hb with hb | hb
    · rw [hb, List.drop_length] at hc; simp at hc
    · rw [List.head?_drop] at hc
      rw [getD_at hc] at hb; exact hb
  · intro y hy
    obtain ⟨j, hj, e⟩ := List.mem_iff_getElem.1 hy
    have hj' : j < F - k := by rw [List.length_take] at hj; omega
    have hg : x[k + j]? = some y := by
      rw [List.getElem_take, List.getElem_drop] at e
      rw [← e]; exact List.getElem?_eq_getElem _
    have := ha (k + j) (by omega) (by omega)
    rw [getD_at hg] at this; exact this
theorem trimR_to {x : List Nat} {F T : Nat} (h1 : F ≤ T) (h2 : T ≤ x.length) (ha : ∀ j, T ≤ j → j < x.length → bk (x.getD j 0) = true) (hb : T = F ∨ bk (x.getD (T - 1) 0) = false) : trimR (x.drop F) = (x.drop F).take (T - F) := by
  have hs : x.drop F = (x.drop F).take (T - F) ++ x.drop T := by
    have := List.take_append_drop (T - F) (x.drop F)
    rw [List.drop_drop, show F + (T - F) = T by omega] at this
    exact this.symm
  have hr : (x.drop F).reverse = (x.drop T).reverse ++ ((x.drop F).take (T - F)).reverse := by
    rw [← List.reverse_append, ← hs]
  unfold trimR
  rw [hr, dw_app]
  · rw [dw_of bk, List.reverse_reverse]
    intro c hc
    rw [List.head?_reverse] at hc
    rcases hb with hb | hb
    · rw [hb, Nat.sub_self, List.take_zero] at hc; simp at hc
    · by_cases e : T = F
      · rw [e, Nat.sub_self, List.take_zero] at hc; simp at hc
      · rw [List.getLast?_eq_getElem?, List.getElem?_take, List.length_take, List.length_drop, if_pos (by omega), List.getElem?_drop, show F + (min (T - F) (x.length - F) - 1) = T - 1 by omega] at hc
        rw [getD_at hc] at hb; exact hb
  · intro y hy
    rw [List.mem_reverse] at hy
    obtain ⟨j, hj, e⟩ := List.mem_iff_getElem.1 hy
    rw [List.length_drop] at hj
    have hg : x[T + j]? = some y := by
      rw [List.getElem_drop] at e
      rw [← e]; exact List.getElem?_eq_getElem _
    have := ha (T + j) (by omega) (by omega)
    rw [getD_at hg] at this; exact this
theorem begs_at : ∀ (ls : List (List Nat)) (A k : Nat), k < ls.length → (begs A ls)[k]? = some (A + (fla (ls.take k)).length)
  | [], A, k, h => by simp at h
  | x :: r, A, 0, h => by simp [begs, fla]
  | x :: r, A, k + 1, h => by
    have := begs_at r (A + x.length + 2) k (by simpa using h)
    simp only [begs, List.getElem?_cons_succ, this, List.take_succ_cons, fla]
    simp; omega
theorem fla_take {ls : List (List Nat)} {k : Nat} (h : k < ls.length) : (fla (ls.take (k + 1))).length = (fla (ls.take k)).length + (ls.getD k []).length + 2 := by
  have : ls.take (k + 1) = ls.take k ++ [ls.getD k []] := by
    rw [List.take_add_one, List.getElem?_eq_getElem h]; simp [List.getD, List.getElem?_eq_getElem h]
  rw [this, fla_app]
  simp [fla]; omega
/-- What the fields come to from the k-th line on. -/
structure FlSt (A : Nat) (ls : List (List Nat)) (k : Nat) (fs : List Fd) : Prop where
  len : fs.length = k
  le : k ≤ ls.length
  eq : flds A ls [] = flds (A + (fla (ls.take k)).length) (ls.drop k) fs
theorem FlSt.start (A : Nat) (ls : List (List Nat)) : FlSt A ls 0 [] := ⟨rfl, Nat.zero_le _, by simp [fla]⟩
theorem FlSt.go {A : Nat} {ls : List (List Nat)} {k : Nat} {fs : List Fd} (h : FlSt A ls k fs) (hk : k < ls.length) (h64 : k ≠ 64) (h2 : (fld (ls.getD k [])).2 = 0) : FlSt A ls (k + 1) (fs ++ [(fld (ls.getD k [])).1]) := by
  refine ⟨by simp [h.len], hk, ?_⟩
  rw [h.eq, drop_getD (d := []) hk, flds, if_neg (by rw [h.len]; exact h64), if_neg (fun hne => hne h2), fla_take hk]
  congr 1; omega
theorem FlSt.long {A : Nat} {ls : List (List Nat)} {fs : List Fd} (h : FlSt A ls 64 fs) (hk : 64 < ls.length) : flds A ls [] = ([], .one (A + (fla (ls.take 64)).length) 3) := by
  rw [h.eq, drop_getD (d := []) hk, flds, if_pos h.len]
theorem FlSt.bad {A : Nat} {ls : List (List Nat)} {k : Nat} {fs : List Fd} (h : FlSt A ls k fs) (hk : k < ls.length) (h64 : k ≠ 64) (h2 : (fld (ls.getD k [])).2 ≠ 0) : flds A ls [] = ([], .one (A + (fla (ls.take k)).length) (fld (ls.getD k [])).2) := by
  rw [h.eq, drop_getD (d := []) hk, flds, if_neg (by rw [h.len]; exact h64), if_pos h2]
theorem FlSt.fin {A : Nat} {ls : List (List Nat)} {k : Nat} {fs : List Fd} (h : FlSt A ls k fs) (hk : ¬ k < ls.length) : flds A ls [] = (fs, .ok) := by
  rw [h.eq, List.drop_eq_nil_of_le (by omega), flds]
/-- A path that was cut begins with its slash. -/
theorem path_cut (t : List Nat) : path (cutT t).2 = (decide ((cutT t).2.length ≤ 2048) && within 33 126 (cutT t).2) := by
  have : (cutT t).2.head? = some 47 := by
    unfold cutT
    cases h : fst 47 (t.drop 7) with
    | none => rfl
    | some k =>
      have := (fst_lt h).2.1
      simp only [List.head?_drop]
      exact this
  unfold path
  rw [this]
  simp
theorem targ_conn' (t : List Nat) : targ conn t = match dest t with
    | (d, .ok) => ((conn, d, []), .ok)
    | (_, e) => (noR, .wr 8 e) := by
  unfold targ
  rw [if_pos rfl]; rfl
/-- The pieces joined again. -/
theorem bln3_join : ∀ {x v c r : List Nat}, bln 3 x = [v, c, r] → x = v ++ 32 :: (c ++ 32 :: r)
  | [], v, c, r, h => by simp [bln] at h
  | d :: x, v, c, r, h => by
    have h2 : ∀ {x c r : List Nat}, bln 2 x = [c, r] → x = c ++ 32 :: r := by
      intro x
      induction x with
      | nil => intro c r h; simp [bln] at h
      | cons d x ih =>
        intro c r h
        unfold bln at h
        split at h
        · rename_i hd
          rw [bln_one] at h
          simp at h
          obtain ⟨rfl, rfl⟩ := h
          rw [hd]; rfl
        · cases hX : bln 2 x with
          | nil => exact absurd hX (bln_ne 1 x)
          | cons y ys =>
            rw [hX] at h
            simp at h
            obtain ⟨rfl, rfl⟩ := h
            rw [ih hX]; rfl
    unfold bln at h
    split at h
    · rename_i hd
      simp at h
      obtain ⟨rfl, h⟩ := h
      rw [hd, h2 h]; rfl
    · cases hX : bln 3 x with
      | nil => exact absurd hX (bln_ne 2 x)
      | cons y ys =>
        rw [show bln (1 + 2) x = y :: ys from hX] at h
        simp at h
        obtain ⟨rfl, rfl⟩ := h
        rw [bln3_join hX]; rfl
theorem ver_mem {v : List Nat} (h : ver v = true) : ∀ c ∈ v, c ≠ 13 ∧ c ≠ 10 := by
  simp only [ver, Bool.or_eq_true, decide_eq_true_eq] at h
  rcases h with rfl | rfl <;> decide
theorem stat_mem {c : List Nat} {n : Nat} (h : stat c = some n) : ∀ d ∈ c, d ≠ 13 ∧ d ≠ 10 := by
  unfold stat at h
  split at h
  · rename_i hh
    intro d hd
    have := List.all_eq_true.1 hh.2.1 d hd
    rw [dig_iff] at this
    omega
  · cases h
/-- A line with a CR or LF in it is no reply's. -/
theorem yline_lone {x : List Nat} (h : lone x = true) : yline x = ((0, []), .one 0 80) := by
  unfold yline
  split
  · rename_i v c r hb
    split
    · rfl
    · rename_i hv
      cases hs : stat c with
      | none => rfl
      | some n =>
        exfalso
        have hj := bln3_join hb
        have hve : ver v = true := by cases e : ver v with | true => rfl | false => exact absurd (Or.inl e) hv
        have hre : reason r = true := by cases e : reason r with | true => rfl | false => exact absurd (Or.inr e) hv
        have hf : lone x = false := by
          rw [lone_false, hj]
          intro d hd
          simp only [List.mem_append, List.mem_cons] at hd
          rcases hd with hd | rfl | hd | rfl | hd
          · exact ver_mem hve d hd
          · decide
          · exact stat_mem hs d hd
          · decide
          · have := (reason_parts hre).2 d hd; omega
        rw [hf] at h; cases h
  · rfl
theorem wh_stat (c : List Nat) : stat c = match wh c 3 with | some n => if 100 ≤ n ∧ n ≤ 599 then some n else none | none => none := by
  unfold stat wh
  by_cases hn : isNum c = true ∧ c.length ≤ 3
  · rw [if_pos hn]
    by_cases hv : 100 ≤ val 0 c ∧ val 0 c ≤ 599
    · have hall : c.all dig = true := by
        have := hn.1
        simp only [isNum, Bool.and_eq_true] at this
        exact this.1.2
      have h3 : c.length = 3 := by
        match c, hn, hv, hall with
        | [], _, hv, _ => simp [val_nil] at hv
        | [a], _, hv, hall =>
          simp only [List.all_cons, List.all_nil, Bool.and_true, dig_iff] at hall
          simp only [val_cons, val_nil, step] at hv
          omega
        | [a, b], _, hv, hall =>
          simp only [List.all_cons, List.all_nil, Bool.and_true, Bool.and_eq_true, dig_iff] at hall
          simp only [val_cons, val_nil, step] at hv
          omega
        | [a, b, d], _, _, _ => rfl
        | a :: b :: d :: e :: r, hn, _, _ => have := hn.2; simp at this
      rw [if_pos ⟨h3, hall, hv⟩]
      simp [hv]
    · rw [if_neg (fun h => hv h.2.2)]
      simp [hv]
  · rw [if_neg hn, if_neg]
    rintro ⟨h3, hall, h1, h2⟩
    refine hn ⟨?_, by omega⟩
    obtain ⟨a, b, d, rfl⟩ : ∃ a b d, c = [a, b, d] := by
      match c, h3 with
      | [a, b, d], _ => exact ⟨a, b, d, rfl⟩
    simp only [List.all_cons, List.all_nil, Bool.and_true, Bool.and_eq_true, dig_iff] at hall
    simp only [val_cons, val_nil, step] at h1
    simp only [isNum, List.all_cons, List.all_nil, dig]
    simp
    omega
end Go.Proofs.YthbnbnfhbkekpaaGreatDoor

namespace Go.Proofs.YthbnbnfhbkekpaaGreatDoor
open Go.RowKit
set_option maxRecDepth 100000 in
set_option maxHeartbeats 4000000 in
theorem wrapBH_two (a b b2 c : Nat) (w : World) : Calls Tryz.prog 53 #[.string ⟨#[104, 101, 97, 100]⟩, .int .i64 a, badV (.two b b2 c)] w fun e w' => e = .returned (badH (.wr a (.two b b2 c))) ∧ Below w.heap.size w w' := by
  simp only [badV]
  go_enter Tryz.func53, Tryz.ntmps53
  go_wp2_with fail
  refine wp_loop_rounds 3 ?_
  rw [rounds_succ]
  go_wp2_with fail
  go_region
  all_goals go_wp2_with fail
  all_goals rw [rounds_succ]
  all_goals go_wp2_with fail
  all_goals go_region
  all_goals go_wp2_with fail
  all_goals rw [rounds_succ]
  all_goals go_wp2_with fail
  all_goals go_returns
  all_goals refine ⟨rfl, ?_⟩
  all_goals (repeat (first | exact Below.refl _ _ | refine Below.drew ?_ | refine Below.setCell ?_ (by simp) _ | refine Below.alloc ?_ (by simp <;> omega) _))
theorem wrapBH_at (a : Nat) (e : Er) (he : e ≠ .ok) (w : World) : Calls Tryz.prog 53 #[.string ⟨#[104, 101, 97, 100]⟩, .int .i64 a, .agg (badC e)] w fun x w' => x = .returned (.agg (badG (.wr a e))) ∧ Below w.heap.size w w' := by
  rw [← badV_badC, ← badH_badG]
  cases e with
  | ok => exact absurd rfl he
  | one b c => exact wrapBH_one a b c w
  | two b b2 c => exact wrapBH_two a b b2 c w
set_option maxHeartbeats 1000000 in
theorem rfaultH_at (a c : Nat) (w : World) : Calls Tryz.prog 39 #[.int .i64 a, .int .i64 c] w fun e w' => e = .returned (.agg (badG (.one a c))) ∧ Below w.heap.size w w' := by
  rw [← badH_badG]
  go_enter Tryz.func39, Tryz.ntmps39
  go_wp2_with fail
  refine (failH_at a c _).mono ?_
  rintro e w' ⟨rfl, hbel⟩
  have hr : w'.heap[w.heap.size]? = some (.cells (badC .ok) 32) := (hbel.block w.heap.size (by simp)).trans (alloc_new _ _)
  obtain ⟨W2, hW2⟩ : ∃ W2, W2 = w'.setRow w.heap.size (badG (.one a c)) := ⟨_, rfl⟩
  have hrow : W2.heap[w.heap.size]? = some (.cells (badG (.one a c)) 32) := by rw [hW2]; exact setRow_heap _ _ _ _ _ hr
  have hB : Below w.heap.size w W2 := by
    have h1 : Below w.heap.size w w' := ((Below.refl _ w).alloc (Nat.le_refl _) _).trans (hbel.mono (by simp))
    rw [hW2]; exact below_setRow h1 (Nat.le_refl _) _
  have HR := hide hr
  have HW := hide hW2
  have HROW := hide hrow
  have HB := hide hB
  clear hr hW2 hrow hB hbel
  rw [badH_badG]
  go_wp2_with (first | (refine wpList_store_rowW rfl 32 _ _ rfl w.heap.size (badG (.one a c)) rfl rfl 32 (badC .ok) HR.out (badGI (.one a c)) (by simp [badC_size, badG_size]) (badG_one _) W2 HW.out ?_))
  refine bodyPost_ret (results_cell_row rfl _ _ w.heap.size 32 (badG (.one a c)) (0, 0) _ rfl HROW.out Tryz.underlying32 rfl (badGI (.one a c))) rfl ⟨rfl, HB.out⟩
set_option maxHeartbeats 1000000 in
theorem raloneH_at (t : ByteArray) (w : World) (hm : t.size ≤ 140737488355328) : Calls Tryz.prog 46 #[.string t] w fun e w' => e = .returned (.bool (lone (byt t))) ∧ w = w' := by
  have HA : Hid (∀ W, Calls Tryz.prog 66 #[.string t, .string ⟨#[13]⟩] W fun e w' => e = .returned (.int .i64 (fI (fst 13 (byt t)))) ∧ W = w') := fun W => find_at t 13 _ W hm (by decide) rfl
  have HB : Hid (∀ W, Calls Tryz.prog 66 #[.string t, .string ⟨#[10]⟩] W fun e w' => e = .returned (.int .i64 (fI (fst 10 (byt t)))) ∧ W = w') := fun W => find_at t 10 _ W hm (by decide) rfl
  have HL : Hid (lone (byt t) = (decide (0 ≤ fI (fst 13 (byt t))) || decide (0 ≤ fI (fst 10 (byt t))))) := by
    show _ = _
    have key : ∀ d, decide (0 ≤ fI (fst d (byt t))) = decide (d ∈ byt t) := fun d => by
      cases h : fst d (byt t) with
      | none =>
        rw [decide_eq_false (fst_none_iff.1 h)]; rfl
      | some k =>
        have := (fst_lt h).2.1
        rw [decide_eq_true (List.mem_of_getElem? this)]
        simp [fI]
    rw [key, key]
    cases h : lone (byt t) with
    | false =>
      have := lone_false.1 h
      rw [decide_eq_false (fun e => (this _ e).1 rfl), decide_eq_false (fun e => (this _ e).2 rfl)]; rfl
    | true =>
      simp only [lone, List.any_eq_true, Bool.or_eq_true, decide_eq_true_eq] at h
      obtain ⟨x, hx, h | h⟩ := h
      · subst h; rw [decide_eq_true hx]; rfl
      · subst h; rw [decide_eq_true hx]; simp
  generalize fI (fst 13 (byt t)) = z1 at HA HL
  generalize fI (fst 10 (byt t)) = z2 at HB HL
  rw [HL.out]
  clear HL
  by_cases h1 : 0 ≤ z1
  · have q1 : decide (0 ≤ z1) = true := decide_eq_true h1
    go_enter Tryz.func46, Tryz.ntmps46
    go_wp2_with fail
    refine (HA.out _).mono ?_
    rintro e w2 ⟨rfl, rfl⟩
    go_wp2_with fail
    go_ret
    simp [q1]
  · have q1 : decide (0 ≤ z1) = false := decide_eq_false h1
    go_enter Tryz.func46, Tryz.ntmps46
    go_wp2_with fail
    refine (HA.out _).mono ?_
    rintro e w2 ⟨rfl, rfl⟩
    go_wp2_with fail
    refine (HB.out _).mono ?_
    rintro e w2 ⟨rfl, rfl⟩
    go_wp2_with fail
    go_ret
    simp [q1]
set_option maxHeartbeats 1000000 in
theorem rversion_at (t : ByteArray) (w : World) : Calls Tryz.prog 47 #[.string t] w fun e w' => e = .returned (.bool (ver (byt t))) ∧ w = w' := by
  have h1 : (t.toList == [72, 84, 84, 80, 47, 49, 46, 49]) = decide (byt t = v11) := toList_byt t _
  have h2 : (t.toList == [72, 84, 84, 80, 47, 49, 46, 48]) = decide (byt t = v10) := toList_byt t _
  have HV : Hid (ver (byt t) = (decide (byt t = v11) || decide (byt t = v10))) := rfl
  generalize decide (byt t = v11) = z1 at h1 HV
  generalize decide (byt t = v10) = z2 at h2 HV
  rw [HV.out]
  clear HV
  cases z1 with
  | true =>
    go_enter Tryz.func47, Tryz.ntmps47
    go_wp2_with fail
    go_ret
    simp
  | false =>
    go_enter Tryz.func47, Tryz.ntmps47
    go_wp2_with fail
    go_ret
    simp
theorem at2_take (l : List Nat) (i m : Nat) (h : i + 2 ≤ m) (hl : i + 2 ≤ l.length) : At2 (l.take m) i ↔ l.getD i 0 = 13 ∧ l.getD (i + 1) 0 = 10 := by
  unfold At2
  rw [List.getElem?_take, List.getElem?_take, if_pos (by omega), if_pos (by omega), List.getD, List.getD, List.getElem?_eq_getElem (by omega), List.getElem?_eq_getElem (by omega)]
  simp
set_option maxRecDepth 100000 in
set_option maxHeartbeats 4000000 in
theorem rend_at (a : Option Addr) (n c : Nat) (l : List Nat) (w : World) (h : Src w a n c l) : Calls Tryz.prog 11 #[.slice a n c] w fun e w' => e = .returned (.tuple #[.int .i64 ((enE l).1 : Nat), .agg (badG (enE l).2)]) ∧ Below w.heap.size w w' := by
  have b0 : Below w.heap.size w (w.alloc (.cells (badC .ok) 32)) := (Below.refl _ _).alloc (Nat.le_refl _) _
  have HR0 : Hid ((w.alloc (.cells (badC .ok) 32)).heap[w.heap.size]? = some (.cells (badC .ok) 32)) := alloc_new _ _
  obtain ⟨W0, hW0⟩ : ∃ W0, W0 = w.alloc (.cells (badC .ok) 32) := ⟨_, rfl⟩
  rw [← hW0] at HR0 b0
  have HW0 : Hid (w.alloc (.cells #[.int .i64 0, .string ⟨#[]⟩, .string ⟨#[]⟩, .string ⟨#[]⟩, .string ⟨#[]⟩, .int .i64 0, .int .i64 0, .int .i64 0, .int .i64 0, .int .i64 0] 32) = W0) := hW0.symm
  have S0 := hide (h.below b0)
  have B0 := hide b0
  have hcl := h.hcap
  have hmx := h.hmax
  unfold maxLen at hmx
  have HNL := hide h.hlen
  have HLL : Hid ((l.take 8192).length = min 8192 n) := by show _ = _; rw [List.length_take, h.hlen]
  clear b0 hW0 h
  go_enter Tryz.func11, Tryz.ntmps11
  go_wp2_with fail
  rw [HW0.out]
  go_loop [4, 5] (fun x i => ∃ f k : Nat, f ≤ k + 1 ∧ k ≤ n ∧ k ≤ 8191 ∧ i = .int .i64 k ∧ x = .int .i64 f ∧ Hid (EnSt (l.take 8192) f k)) (fun _ i => n - (intOf i).toNat)
  case atStart => exact ⟨0, 0, by omega, by omega, by omega, rfl, rfl, EnSt.start _⟩
  case round =>
    obtain ⟨f, k, hfk, hk, hk8, rfl, rfl, HS⟩ := hrel
    by_cases hk1 : k + 1 < n
    · have q1 : decide ((k : Int) + 1 < (n : Int)) = true := decide_eq_true (by omega)
      have q1' : decide (k + 1 < n) = true := decide_eq_true hk1
      by_cases hk2 : k + 2 ≤ 8192
      · have q2 : decide ((k : Int) + 2 ≤ 8192) = true := decide_eq_true (by omega)
        have q2' : decide (k + 2 ≤ 8192) = true := decide_eq_true hk2
        obtain ⟨b, o, rfl, hb, hcell⟩ := S0.out.lies (by omega)
        have c0 := hcell k (by omega)
        have c1 := hcell (k + 1) (by omega)
        have c1' : W0.cell? ⟨b, o + k + 1, none⟩ = some (.int .u8 (l.getD (k + 1) 0 : Nat)) := by rw [Nat.add_assoc]; exact c1
        have HAT := hide (at2_take l k 8192 hk2 (by rw [HNL.out]; omega))
        obtain ⟨x0, hx0⟩ : ∃ x, x = l.getD k 0 := ⟨_, rfl⟩
        obtain ⟨x1, hx1⟩ : ∃ x, x = l.getD (k + 1) 0 := ⟨_, rfl⟩
        rw [← hx0] at c0 HAT
        rw [← hx1] at c1 c1' HAT
        clear hcell hx0 hx1
        by_cases h13 : x0 = 13
        · have p13 : ((x0 : Int) != 13) = false := by simp; omega
          by_cases h10 : x1 = 10
          · have p10 : ((x1 : Int) != 10) = false := by simp; omega
            have HHT := hide (HAT.out.2 ⟨h13, h10⟩)
            clear h13 h10 HAT
            by_cases hkf : k = f
            · subst hkf
              have HE := hide (enE_some (HS.out.hit HHT.out))
              have r1 : ((k : Int) == (k : Int)) = true := by simp
              obtain ⟨W2, hW2⟩ : ∃ W2, W2 = W0.setRow w.heap.size (badC .ok) := ⟨_, rfl⟩
              have F3 : Hid (W2.heap[w.heap.size]? = some (.cells (badC .ok) 32)) := by rw [hW2]; exact setRow_heap _ _ _ _ _ HR0.out
              have F5 : Hid (Below w.heap.size w W2) := by rw [hW2]; exact below_setRow B0.out (Nat.le_refl _) _
              have HW2 := hide hW2
              clear hW2
              go_wp2_with (first
                | (refine wpList_store_rowW rfl 32 _ _ rfl w.heap.size (badC .ok) rfl rfl 32 (badC .ok) HR0.out info32 rfl (badC_one _) W2 HW2.out ?_))
              refine bodyPost_ret (res_tmp_cell rfl _ _ w.heap.size 32 (badC .ok) (0, 0) _ rfl F3.out Tryz.underlying32 rfl info32) rfl ⟨?_, F5.out⟩
              rw [HE.out]
              simp only [Int.natCast_add]
              rfl
            · have r1 : ((k : Int) == (f : Int)) = false := by simp; omega
              have HN := hide (HS.out.go HHT.out hkf)
              clear hkf
              go_wp2_with fail
              go_round
              case rel => exact ⟨k + 2, k + 1, by omega, by omega, by omega, by go_num, by go_num, HN.out⟩
              case measure => simp [intOf]; omega
          · have p10 : ((x1 : Int) != 10) = true := by simp; omega
            have HN := hide (HS.out.skip (fun e => h10 (HAT.out.1 e).2))
            clear h13 h10 HAT
            go_wp2_with fail
            go_round
            case rel => exact ⟨f, k + 1, by omega, by omega, by omega, by go_num, rfl, HN.out⟩
            case measure => simp [intOf]; omega
        · have p13 : ((x0 : Int) != 13) = true := by simp; omega
          have HN := hide (HS.out.skip (fun e => h13 (HAT.out.1 e).1))
          clear h13 HAT
          go_wp2_with fail
          go_round
          case rel => exact ⟨f, k + 1, by omega, by omega, by omega, by go_num, rfl, HN.out⟩
          case measure => simp [intOf]; omega
      · have q2 : decide ((k : Int) + 2 ≤ 8192) = false := decide_eq_false (by omega)
        have q2' : decide (k + 2 ≤ 8192) = false := decide_eq_false hk2
        have hn8 : 8192 ≤ n := by omega
        have HE : Hid (enE l = (0, .one 8192 3)) := by
          show _ = _
          rw [enE_none (HS.out.fin (by rw [HLL.out]; omega)), if_neg (by rw [HNL.out]; omega)]
        have q3 : decide ((8192 : Int) ≤ (n : Int)) = true := decide_eq_true (by omega)
        have q3' : decide (8192 ≤ n) = true := decide_eq_true hn8
        go_wp2_with fail
        refine (rfaultH_at 8192 3 _).mono ?_
        rintro e w4 ⟨rfl, hb4⟩
        have h14 := keepB hb4 HR0.out
        obtain ⟨W2, hW2⟩ : ∃ W2, W2 = w4.setRow w.heap.size (badG (.one 8192 3)) := ⟨_, rfl⟩
        have F1 := hide h14
        have F3 : Hid (W2.heap[w.heap.size]? = some (.cells (badG (.one 8192 3)) 32)) := by rw [hW2]; exact setRow_heap _ _ _ _ _ h14
        have F5 : Hid (Below w.heap.size w W2) := by rw [hW2]; exact below_setRow (B0.out.trans (hb4.mono B0.out.size)) (Nat.le_refl _) _
        have HW2 := hide hW2
        clear hW2 h14 hb4
        go_wp2_with (first
          | (refine wpList_store_rowW rfl 32 _ _ rfl w.heap.size (badG (.one 8192 3)) rfl rfl 32 (badC .ok) F1.out (badGI (.one 8192 3)) (by simp [badC_size, badG_size]) (badG_one _) W2 HW2.out ?_))
        refine bodyPost_ret (res_tmp_cell rfl _ _ w.heap.size 32 (badG (.one 8192 3)) (0, 0) _ rfl F3.out Tryz.underlying32 rfl (badGI (.one 8192 3))) rfl ⟨?_, F5.out⟩
        rw [HE.out]; rfl
    · have q1 : decide ((k : Int) + 1 < (n : Int)) = false := decide_eq_false (by omega)
      have q1' : decide (k + 1 < n) = false := decide_eq_false hk1
      have hnone := HS.out.fin (by rw [HLL.out]; omega)
      by_cases hn8 : 8192 ≤ n
      · have HE : Hid (enE l = (0, .one 8192 3)) := by
          show _ = _
          rw [enE_none hnone, if_neg (by rw [HNL.out]; omega)]
        have q3 : decide ((8192 : Int) ≤ (n : Int)) = true := decide_eq_true (by omega)
        have q3' : decide (8192 ≤ n) = true := decide_eq_true hn8
        clear hnone
        go_wp2_with fail
        refine (rfaultH_at 8192 3 _).mono ?_
        rintro e w4 ⟨rfl, hb4⟩
        have h14 := keepB hb4 HR0.out
        obtain ⟨W2, hW2⟩ : ∃ W2, W2 = w4.setRow w.heap.size (badG (.one 8192 3)) := ⟨_, rfl⟩
        have F1 := hide h14
        have F3 : Hid (W2.heap[w.heap.size]? = some (.cells (badG (.one 8192 3)) 32)) := by rw [hW2]; exact setRow_heap _ _ _ _ _ h14
        have F5 : Hid (Below w.heap.size w W2) := by rw [hW2]; exact below_setRow (B0.out.trans (hb4.mono B0.out.size)) (Nat.le_refl _) _
        have HW2 := hide hW2
        clear hW2 h14 hb4
        go_wp2_with (first
          | (refine wpList_store_rowW rfl 32 _ _ rfl w.heap.size (badG (.one 8192 3)) rfl rfl 32 (badC .ok) F1.out (badGI (.one 8192 3)) (by simp [badC_size, badG_size]) (badG_one _) W2 HW2.out ?_))
        refine bodyPost_ret (res_tmp_cell rfl _ _ w.heap.size 32 (badG (.one 8192 3)) (0, 0) _ rfl F3.out Tryz.underlying32 rfl (badGI (.one 8192 3))) rfl ⟨?_, F5.out⟩
        rw [HE.out]; rfl
      · have HE : Hid (enE l = (0, .one n 6)) := by
          show _ = _
          rw [enE_none hnone, if_pos (by rw [HNL.out]; omega), HNL.out]
        have q3 : decide ((8192 : Int) ≤ (n : Int)) = false := decide_eq_false (by omega)
        have q3' : decide (8192 ≤ n) = false := decide_eq_false hn8
        clear hnone
        go_wp2_with fail
        refine (rfaultH_at n 6 _).mono ?_
        rintro e w4 ⟨rfl, hb4⟩
        have h14 := keepB hb4 HR0.out
        obtain ⟨W2, hW2⟩ : ∃ W2, W2 = w4.setRow w.heap.size (badG (.one n 6)) := ⟨_, rfl⟩
        have F1 := hide h14
        have F3 : Hid (W2.heap[w.heap.size]? = some (.cells (badG (.one n 6)) 32)) := by rw [hW2]; exact setRow_heap _ _ _ _ _ h14
        have F5 : Hid (Below w.heap.size w W2) := by rw [hW2]; exact below_setRow (B0.out.trans (hb4.mono B0.out.size)) (Nat.le_refl _) _
        have HW2 := hide hW2
        clear hW2 h14 hb4
        go_wp2_with (first
          | (refine wpList_store_rowW rfl 32 _ _ rfl w.heap.size (badG (.one n 6)) rfl rfl 32 (badC .ok) F1.out (badGI (.one n 6)) (by simp [badC_size, badG_size]) (badG_one _) W2 HW2.out ?_))
        refine bodyPost_ret (res_tmp_cell rfl _ _ w.heap.size 32 (badG (.one n 6)) (0, 0) _ rfl F3.out Tryz.underlying32 rfl (badGI (.one n 6))) rfl ⟨?_, F5.out⟩
        rw [HE.out]; rfl
end Go.Proofs.YthbnbnfhbkekpaaGreatDoor

namespace Go.Proofs.YthbnbnfhbkekpaaGreatDoor
open Go.RowKit
theorem bln_mem_len : ∀ (l : List Nat) (k : Nat), ∀ p ∈ bln (k + 1) l, p.length ≤ l.length
  | l, 0, p, h => by rw [bln_one] at h; simp at h; rw [h]; omega
  | [], k + 1, p, h => by rw [bln_nil] at h; simp at h; rw [h]; simp
  | d :: r, k + 1, p, h => by
    by_cases hd : d = 32
    · rw [bln, if_pos hd] at h
      rcases List.mem_cons.1 h with rfl | h
      · simp
      · have := bln_mem_len r k p h; simp; omega
    · rw [bln, if_neg hd] at h
      have hne := bln_ne (k + 1) r
      cases hX : bln (k + 1 + 1) r with
      | nil => exact absurd hX hne
      | cons y ys =>
        rw [hX] at h
        rcases List.mem_cons.1 h with rfl | h
        · have := bln_mem_len r (k + 1) y (by rw [hX]; simp)
          simp; omega
        · have := bln_mem_len r (k + 1) p (by rw [hX]; simp at h ⊢; right; exact h)
          simp; omega
theorem ext_length (c : Nat) : ∀ ps : List (List Nat), (ext c ps).length = ps.length := fun ps => by rw [ext_set, List.length_set]
theorem bln_len_le : ∀ (l : List Nat) (k : Nat), (bln (k + 1) l).length ≤ k + 1
  | l, 0 => by rw [bln_one]; simp
  | [], k + 1 => by rw [bln_nil]; simp
  | d :: r, k + 1 => by
    by_cases hd : d = 32
    · rw [bln, if_pos hd]; have := bln_len_le r k; simp; omega
    · rw [bln, if_neg hd]
      have := bln_len_le r (k + 1)
      have hne := bln_ne (k + 1) r
      cases hX : bln (k + 1 + 1) r with
      | nil => exact absurd hX hne
      | cons y ys =>
        have hX' : bln (k + 2) r = y :: ys := hX
        rw [hX] at this
        simpa [hX'] using this
set_option maxRecDepth 100000 in
set_option maxHeartbeats 4000000 in
theorem rcut_at (t : ByteArray) (M : Nat) (w : World) (hm : t.size ≤ 8192) (hM : M + 1 ≤ 99) : Calls Tryz.prog 45 #[.string t, .int .i64 ((M + 1 : Nat) : Int)] w fun e w' => ∃ o, e = .returned o ∧ Own w' w.heap.size 9 o (strs (bln (M + 1) (byt t))) ∧ Below w.heap.size w w' := by
  obtain ⟨l, hl⟩ : ∃ l, l = byt t := ⟨_, rfl⟩
  have hix : ∀ i, i < t.size → ∀ w, (Instr.index 9 (.string t) (.int .i64 (i : Nat))).run Tryz.prog w = .ok (.int .u8 (l.getD i 0 : Nat)) w := fun i hi w => by rw [hl]; exact run_ixstr t i hi w
  have hlt : ∀ k, l.getD k 0 < 256 := fun k => by rw [hl]; exact getD_lt (byt_lt t) k
  have hsz : t.size = l.length := by rw [hl, byt_length]
  have HEX : Hid (∀ k, k < t.size → t.extract k (k + 1) = strN [l.getD k 0]) := fun k hk => by rw [hl]; exact ext_one t k hk
  rw [← hl]
  have HIX := hide hix
  have HLT := hide hlt
  obtain ⟨N, hN⟩ : ∃ N, N = t.size := ⟨_, rfl⟩
  have HN := hide hN
  rw [← hN] at hm
  have hNI : (t.size : Int) = (N : Int) := by rw [hN]
  have HNL : Hid (N = l.length) := by show _ = _; rw [hN, hsz]
  obtain ⟨Q, hQ⟩ : ∃ Q, Q = M + 1 := ⟨_, rfl⟩
  rw [← hQ] at hM ⊢
  have HQ := hide hQ
  clear hix hlt hl hsz hN hQ
  go_enter Tryz.func45, Tryz.ntmps45
  go_wp2_with fail
  obtain ⟨W0, hW0⟩ : ∃ W0, W0 = w.alloc (.cells #[.string ⟨#[]⟩] 9) := ⟨_, rfl⟩
  have o0 : Own W0 w.heap.size 9 (.slice (some ⟨w.heap.size, 0, none⟩) 1 1) (strs (bln Q [])) := by
    rw [hW0, HQ.out, bln_nil]
    exact own_new1 w 9 (.string ⟨#[]⟩) w.heap.size rfl w.heap.size (Nat.le_refl _)
  have b0 : Below w.heap.size w W0 := by rw [hW0]; exact (Below.refl _ _).alloc (Nat.le_refl _) _
  have HI : Hid (Own W0 w.heap.size 9 (.slice (some ⟨w.heap.size, 0, none⟩) 1 1) (strs (bln Q [])) ∧ Below w.heap.size w W0) := ⟨o0, b0⟩
  rw [← hW0]
  clear hW0 o0 b0
  go_loopw [5, 6] (fun o i wr => ∃ k : Nat, k ≤ N ∧ i = .int .i64 k ∧ Hid (Own wr w.heap.size 9 o (strs (bln Q (l.take k))) ∧ Below w.heap.size w wr)) (fun _ i _ => N - (intOf i).toNat)
  case atStart => exact ⟨0, by omega, rfl, HI.out⟩
  case round =>
    obtain ⟨k, hk, rfl, HI⟩ := hrel
    obtain ⟨i1, i3⟩ := HI.out
    by_cases hkN : k < N
    · have hdk : decide ((k : Int) < (N : Int)) = true := decide_eq_true (by omega)
      have hx := HIX.out k (by rw [← HN.out]; exact hkN)
      have hc := HLT.out k
      have hkl : k < l.length := by rw [← HNL.out]; exact hkN
      have htk := take_snoc l k hkl
      have hex := HEX.out k (by rw [← HN.out]; exact hkN)
      obtain ⟨c, hcc⟩ : ∃ c, c = l.getD k 0 := ⟨_, rfl⟩
      rw [← hcc] at hx hc htk hex
      have hsn := bln_snoc c (l.take k) M
      rw [← htk, ← HQ.out] at hsn
      have hml := bln_mem_len (l.take k) M
      have hll := bln_len_le (l.take k) M
      have hne := bln_ne M (l.take k)
      rw [← HQ.out] at hml hll hne
      obtain ⟨ps, hps⟩ : ∃ ps, ps = bln Q (l.take k) := ⟨_, rfl⟩
      rw [← hps] at i1 hsn hml hll hne
      have hn1 : 0 < ps.length := List.length_pos_iff.2 hne
      obtain ⟨g, cap, hv, hBg, hgl, hlc, hcm, hcells, hfr⟩ := i1.lies (by rw [strs_length]; omega)
      rw [strs_length] at hv hlc
      obtain ⟨n, hn⟩ : ∃ n, n = ps.length := ⟨_, rfl⟩
      rw [← hn] at hv hlc hn1 hll hsn
      by_cases hcond : c = 32 ∧ n < Q
      · rw [if_pos hcond] at hsn
        have q1 : ((c : Int) == 32) = true := by simp; omega
        have q2 : decide ((n : Int) < (Q : Int)) = true := decide_eq_true (by omega)
        have q2' : decide (n < Q) = true := decide_eq_true hcond.2
        obtain ⟨o1, w1, hap1, ow1, bw1, kw1⟩ := own_app 91 9 (.string ⟨#[]⟩) 16 Tryz.underlying91 inf9 rfl (i1.below ((Below.refl _ _).alloc (Nat.le_refl _) (.cells #[.string ⟨#[]⟩] 9))) ⟨wr.heap.size, 0, none⟩ 1 1 [.string ⟨#[]⟩] rfl
          (fun j u hu => by
            have hj := (List.getElem?_eq_some_iff.1 hu).1
            simp at hj
            subst hj
            rw [add_none]
            simp at hu
            rw [← hu]; simp) (by simp [Value.oneCell']) (by rw [strs_length]; omega) (by rw [strs_length]; omega) (by simp; have := i3.size; omega)
        have ib1 : Below w.heap.size w w1 := (i3.alloc i3.size _).trans bw1
        have io1 : Own w1 w.heap.size 9 o1 (strs (bln Q (l.take (k + 1)))) := by
          rw [hsn]
          simpa [strs, show strN [] = ⟨#[]⟩ from rfl] using ow1
        rw [hv] at hap1
        subst hv
        have HAP1 := hide hap1
        have HO2 := hide io1
        have HB2 := hide ib1
        clear i1 i3 hap1 io1 ib1 ow1 bw1 kw1 hcond hcc hkl htk hsn hml hll hne hps hex hcells hfr hlc hcm hn1 hn
        go_wp2_with (first
          | (refine wpList_app_run _ rfl _ _ 91 91 rfl _ _ rfl rfl HAP1.out ?_))
        go_roundw
        case rel => exact ⟨k + 1, by omega, by go_num, HO2.out, HB2.out⟩
        case measure => simp [intOf]; omega
      · rw [if_neg hcond] at hsn
        subst hv
        have hcl := hcells (n - 1) _ (strs_get ps (n - 1) (by omega))
        have hf1 := hfr (n - 1)
        obtain ⟨p, hp⟩ : ∃ p, p = ps.getD (n - 1) [] := ⟨_, rfl⟩
        rw [← hp] at hcl
        have hplen : p.length ≤ 8192 := by
          have h2 := hml p (by rw [hp]; exact getD_mem (by omega))
          rw [List.length_take] at h2; omega
        obtain ⟨T, hT⟩ : ∃ T, T = t.extract k (k + 1) := ⟨_, rfl⟩
        rw [← hT] at hex
        have hTs : T.size = 1 := by rw [hex, strN_size]; rfl
        have hps2 : (strN p).size = p.length := strN_size p
        have hno : ¬ (9223372036854775807 < (strN p).size + T.size) := by omega
        have io2 : Own (wr.setCell ⟨g, n - 1, none⟩ (.string (strN p ++ T))) w.heap.size 9 (.slice (some ⟨g, 0, none⟩) n cap) (strs (bln Q (l.take (k + 1)))) := by
          have := i1.set (n - 1) (.string (strN (p ++ [c])))
          rw [strs_set, hp, hn, ← ext_set, ← hsn, ← hn, ← hp, strN_append, ← hex] at this
          exact this
        have ib2 : Below w.heap.size w (wr.setCell ⟨g, n - 1, none⟩ (.string (strN p ++ T))) := i3.setCell hBg _
        have HO2 := hide io2
        have HB2 := hide ib2
        obtain ⟨n1, hn1'⟩ : ∃ n1, n1 = n - 1 := ⟨_, rfl⟩
        rw [← hn1'] at hcl hf1 HO2 HB2
        have hn1I : (n : Int) - 1 = (n1 : Int) := by omega
        have hn1n : n1 < n := by omega
        have hw1 : IntKind.i64.wrap ((n : Int) - 1) = (n1 : Int) := by rw [hn1I, IntKind.wrap_i64]; omega
        have hw2 : IntKind.i64.wrap (n1 : Int) = (n1 : Int) := by rw [IntKind.wrap_i64]; omega
        have hw3 : IntKind.i64.wrap ((k : Int) + 1) = ((k + 1 : Nat) : Int) := by rw [IntKind.wrap_i64]; omega
        have hw4 : IntKind.i64.wrap (((k + 1 : Nat) : Int)) = ((k + 1 : Nat) : Int) := by rw [IntKind.wrap_i64]; omega
        have HT := hide hT
        by_cases h32 : c = 32
        · have q1 : ((c : Int) == 32) = true := by simp; omega
          have q2 : decide ((n : Int) < (Q : Int)) = false := decide_eq_false (by omega)
          have q2' : decide (n < Q) = false := decide_eq_false (by omega)
          clear i1 i3 io2 ib2 h32 hcond hcc htk hcells hfr hp hps hn1' hn hT hsn hml hll hne hex
          go_wp2_with fail
          go_region
          rw [← HT.out]
          go_wp2_with fail
          go_roundw
          case rel => exact ⟨k + 1, by omega, by go_num, HO2.out.drew, HB2.out.drew⟩
          case measure => simp [intOf]; omega
        · have q1 : ((c : Int) == 32) = false := by simp; omega
          clear i1 i3 io2 ib2 h32 hcond hcc htk hcells hfr hp hps hn1' hn hT hsn hml hll hne hex
          go_wp2_with fail
          go_region
          rw [← HT.out]
          go_wp2_with fail
          go_roundw
          case rel => exact ⟨k + 1, by omega, by go_num, HO2.out.drew, HB2.out.drew⟩
          case measure => simp [intOf]; omega
    · have hdk : decide ((k : Int) < (N : Int)) = false := decide_eq_false (by omega)
      rw [List.take_of_length_le (by rw [← HNL.out]; omega)] at i1
      have H1 := hide i1
      have H3 := hide i3
      clear i1 i3
      go_wp2_with fail
      go_ret
      exact ⟨_, rfl, H1.out, H3.out⟩
end Go.Proofs.YthbnbnfhbkekpaaGreatDoor

namespace Go.Proofs.YthbnbnfhbkekpaaGreatDoor
open Go.RowKit
/-- A slice of values, each one cell, wherever it lies. -/
structure SrcV (w : World) (a : Option Addr) (n c : Nat) (xs : List Value) : Prop where
  hlen : xs.length = n
  hcap : n ≤ c
  hmax : c ≤ maxLen
  lies : 0 < n → ∃ b o, a = some ⟨b, o, none⟩ ∧ b < w.heap.size ∧ ∀ j u, xs[j]? = some u → w.cell? ⟨b, o + j, none⟩ = some u
theorem SrcV.lt {w : World} {a : Option Addr} {n c : Nat} {xs : List Value} (h : SrcV w a n c xs) (h0 : 0 < n) {b o : Nat} (e : a = some ⟨b, o, none⟩) : b < w.heap.size := by
  obtain ⟨b', o', e', hb, hc⟩ := h.lies h0
  rw [e] at e'
  simp only [Option.some.injEq, Addr.mk.injEq, and_true] at e'
  omega
theorem SrcV.below {w w' : World} {a : Option Addr} {n c : Nat} {xs : List Value} (h : SrcV w a n c xs) (k : Below w.heap.size w w') : SrcV w' a n c xs :=
  ⟨h.hlen, h.hcap, h.hmax, fun h0 => by
    obtain ⟨b, o, e, hb, hc⟩ := h.lies h0
    exact ⟨b, o, e, Nat.lt_of_lt_of_le hb k.size, fun j u hu => (k.cell (p := ⟨b, o + j, none⟩) hb).trans (hc j u hu)⟩⟩
theorem SrcV.drew {w : World} {a : Option Addr} {n c : Nat} {xs : List Value} (h : SrcV w a n c xs) : SrcV w.drew a n c xs := ⟨h.hlen, h.hcap, h.hmax, h.lies⟩
theorem own_srcVV {w : World} {B : Nat} {e : TypeId} {v : Value} {xs : List Value} (h : Own w B e v xs) : ∃ a c, v = .slice a xs.length c ∧ SrcV w a xs.length c xs ∧ (a = none → c = 0) := by
  rcases h.2 with ⟨rfl, h0⟩ | ⟨g, cap, cur, rfl, hg, hh, hc, hm, hs, ht⟩
  · exact ⟨none, 0, by rw [h0], ⟨rfl, by omega, Nat.zero_le _, fun h => by omega⟩, fun _ => rfl⟩
  · refine ⟨some ⟨g, 0, none⟩, cap, rfl, ⟨rfl, hc, hm, fun _ => ⟨g, 0, rfl, lt_of_some hh, fun j u hu => ?_⟩⟩, fun e => by cases e⟩
    have hj := (List.getElem?_eq_some_iff.1 hu).1
    rw [Nat.mul_one] at ht
    have : cur.toList[j]? = some u := by rw [← hu, ← ht, List.getElem?_take, if_pos hj]
    rw [Nat.zero_add]
    simp only [World.cell?, hh]
    simpa using this
theorem und91 : Tryz.prog.underlying 91 = some (.slice (Tryz.prog.elem 91)) := by kernel_rfl
theorem und92 : Tryz.prog.underlying 92 = some (.slice (Tryz.prog.elem 92)) := by kernel_rfl
theorem size91 (w : World) : (sizeOf (Tryz.prog.elem 91)).run Tryz.prog w = .ok 1 w := by kernel_rfl
theorem size92 (w : World) : (sizeOf (Tryz.prog.elem 92)).run Tryz.prog w = .ok 1 w := by kernel_rfl
theorem fla_two : ∀ (o : List (List Nat)), 2 * o.length ≤ (fla o).length
  | [] => by simp
  | x :: o => by have := fla_two o; simp [fla]; omega
theorem begs_get : ∀ (o : List (List Nat)) (a : Nat), ∀ x ∈ begs a o, x ≤ a + (fla o).length
  | [], a, x, h => by simp [begs] at h
  | y :: o, a, x, h => by
    rcases List.mem_cons.1 h with rfl | h
    · omega
    · have := begs_get o _ x h; simp [fla]; omega
end Go.Proofs.YthbnbnfhbkekpaaGreatDoor

namespace Go.Proofs.YthbnbnfhbkekpaaGreatDoor
open Go.RowKit
theorem own_fresh {w : World} {B : Nat} {e : TypeId} {v : Value} {xs : List Value} (h : Own w B e v xs) {b o n c : Nat} (hv : v = .slice (some ⟨b, o, none⟩) n c) : B ≤ b := by
  rcases h.2 with ⟨hn, h0⟩ | ⟨g, cap, cur, he, hg, hr⟩
  · rw [hn] at hv; cases hv
  · rw [he] at hv
    simp only [Value.slice.injEq, Option.some.injEq, Addr.mk.injEq, and_true] at hv
    omega
theorem run_headV2 (ty : TypeId) (hu : Tryz.prog.underlying ty = some (.slice (Tryz.prog.elem ty))) (hs : ∀ w, (sizeOf (Tryz.prog.elem ty)).run Tryz.prog w = .ok 1 w) (w : World) (a : Option Addr) (n c : Nat) (xs : List Value) (h : SrcV w a n c xs) (hnil : a = none → c = 0) (k : Nat) (hk : k ≤ n) : ∃ x : Option Addr,
    (∀ w, (Instr.sliceAt ty (.slice a n c) none (some (.int .i64 k)) none).run Tryz.prog w = .ok (.slice x k c) w) ∧
    (∀ w, (Instr.slice ty (.slice a n c) none (some (.int .i64 k)) none).run Tryz.prog w = .ok (.slice x k c) w) ∧ SrcV w x k c (xs.take k) ∧ (∀ b o, x = some ⟨b, o, none⟩ → ∃ o', a = some ⟨b, o', none⟩) := by
  have hc := h.hcap
  have hl := h.hlen
  have key : ∀ w, (Instr.slice ty (.slice a n c) none (some (.int .i64 k)) none).run Tryz.prog w = .ok (sliced a 0 k c 1) w := fun w => by
    rw [run_slice_h w ty _ n c hu .i64 k (by omega) (by omega), hs]
    simp [Result.andThen]
  refine ⟨if c = 0 then a else a.map (·.add (0 * 1)), fun w => ?_, fun w => ?_, ⟨by rw [List.length_take]; omega, by omega, h.hmax, fun h0 => ?_⟩, fun b o e => ?_⟩
  · rw [run_sliceAt_slice w ty _ _ _ _ hu, key]; rfl
  · rw [key]; rfl
  · obtain ⟨x, o, rfl, hx, hcell⟩ := h.lies (by omega)
    rw [if_neg (by omega)]
    refine ⟨x, o, by rw [Option.map_some, add_none, Nat.zero_mul, Nat.add_zero], hx, fun j u hu => ?_⟩
    rw [List.getElem?_take] at hu
    split at hu
    · exact hcell j u hu
    · cases hu
  · cases a with
    | none => split at e <;> simp at e
    | some x =>
      obtain ⟨xb, xo, xi⟩ := x
      split at e
      · cases e; exact ⟨_, rfl⟩
      · simp only [Option.map_some, Option.some.injEq, Addr.add, Addr.mk.injEq] at e
        obtain ⟨rfl, rfl, rfl⟩ := e
        exact ⟨_, rfl⟩
set_option maxRecDepth 100000 in
set_option maxHeartbeats 4000000 in
theorem rlines2_at (t : ByteArray) (ls : List (List Nat)) (w : World) (hm : t.size ≤ 8192) (hT : byt t = fl ls) (hp : ∀ x ∈ ls, pair x = none) : Calls Tryz.prog 44 #[.string t] w fun e w' => ∃ a1 c1 a2 c2, e = .returned (.tuple #[.slice a1 ls.length c1, .slice a2 ls.length c2]) ∧ SrcV w' a1 ls.length c1 (strs ls) ∧ SrcV w' a2 ls.length c2 (ints (begs 0 ls)) ∧ (∀ b o, a1 = some ⟨b, o, none⟩ → w.heap.size ≤ b) ∧ (∀ b o, a2 = some ⟨b, o, none⟩ → w.heap.size ≤ b) ∧ Below w.heap.size w w' := by
  obtain ⟨l, hl⟩ : ∃ l, l = byt t := ⟨_, rfl⟩
  have hix : ∀ i, i < t.size → ∀ w, (Instr.index 9 (.string t) (.int .i64 (i : Nat))).run Tryz.prog w = .ok (.int .u8 (l.getD i 0 : Nat)) w := fun i hi w => by rw [hl]; exact run_ixstr t i hi w
  have HSUB : Hid (∀ i j, i ≤ j → j ≤ t.size → t.extract i j = strN ((l.drop i).take (j - i))) := fun i j h1 h2 => by
    rw [← strN_byt (t.extract i j)]
    congr 1
    unfold byt
    rw [ByteArray.data_extract, Array.toList_extract, List.extract_eq_take_drop, List.map_take, List.map_drop, hl]
    rfl
  have HPC : Hid (pcl l = ls ++ [[]]) := by show _ = _; rw [hl, hT]; exact pcl_fl ls hp
  have HIX := hide hix
  obtain ⟨N, hN⟩ : ∃ N, N = t.size := ⟨_, rfl⟩
  have HN := hide hN
  rw [← hN] at hm
  have hNI : (t.size : Int) = (N : Int) := by rw [hN]
  have HNL : Hid (N = l.length) := by show _ = _; rw [hN, hl, byt_length]
  clear hix hl hN hT hp
  go_enter Tryz.func44, Tryz.ntmps44
  go_wp2_with fail
  obtain ⟨W0, hW0⟩ : ∃ W0, W0 = (w.alloc (.cells #[] 9)).alloc (.cells #[] 3) := ⟨_, rfl⟩
  have o0 : Own W0 w.heap.size 9 (.slice (some ⟨w.heap.size, 0, none⟩) 0 0) (strs []) := by
    rw [hW0]
    exact Own.below (w := w.alloc (.cells #[] 9)) ⟨rfl, Or.inr ⟨w.heap.size, 0, #[], rfl, Nat.le_refl _, alloc_new _ _, by simp [strs], Nat.zero_le _, by simp, by simp [strs]⟩⟩ ((Below.refl _ _).alloc (Nat.le_refl _) _)
  have a0 : Own W0 w.heap.size 3 (.slice (some ⟨w.heap.size + 1, 0, none⟩) 0 0) (ints (begs 0 [])) := by
    rw [hW0]
    exact ⟨rfl, Or.inr ⟨w.heap.size + 1, 0, #[], rfl, by omega, alloc_new2 _ _ _, by simp [ints, begs], Nat.zero_le _, by simp, by simp [ints, begs]⟩⟩
  have b0 : Below w.heap.size w W0 := by rw [hW0]; exact ((Below.refl _ _).alloc (Nat.le_refl _) _).alloc (by simp) _
  have HI : Hid (Own W0 w.heap.size 9 (.slice (some ⟨w.heap.size, 0, none⟩) 0 0) (strs []) ∧ Own W0 w.heap.size 3 (.slice (some ⟨w.heap.size + 1, 0, none⟩) 0 0) (ints (begs 0 [])) ∧ Below w.heap.size w W0) := ⟨o0, a0, b0⟩
  rw [← hW0]
  clear hW0 o0 a0 b0
  go_loopw [4, 5, 6, 7] (fun o a f i wr => ∃ (k F : Nat) (os : List (List Nat)), k ≤ 8192 ∧ F ≤ k + 1 ∧ i = .int .i64 k ∧ f = .int .i64 F ∧ Hid (F = (fla os).length ∧ Own wr w.heap.size 9 o (strs os) ∧ Own wr w.heap.size 3 a (ints (begs 0 os)) ∧ LnSt l os k ∧ Below w.heap.size w wr)) (fun _ _ _ i _ => N - (intOf i).toNat)
  case atStart => exact ⟨0, 0, [], by omega, by omega, rfl, rfl, by simp [fla], HI.out.1, HI.out.2.1, LnSt.start l, HI.out.2.2⟩
  case round =>
    obtain ⟨k, F, os, hk, hF, rfl, rfl, HI⟩ := hrel
    obtain ⟨hFl, i1, i2, hst, i3⟩ := HI.out
    by_cases hkN : k + 1 < N
    · have hdk : decide ((k : Int) + 1 < (N : Int)) = true := decide_eq_true (by omega)
      have hdk' : decide (k + 1 < N) = true := decide_eq_true hkN
      have hx0 := HIX.out k (by rw [← HN.out]; omega)
      have hx1 := HIX.out (k + 1) (by rw [← HN.out]; omega)
      have hat : At2 l k ↔ l.getD k 0 = 13 ∧ l.getD (k + 1) 0 = 10 := by
        have := at2_take l k l.length (by rw [← HNL.out]; omega) (by rw [← HNL.out]; omega)
        rwa [List.take_length] at this
      obtain ⟨x0, h0⟩ : ∃ x, x = l.getD k 0 := ⟨_, rfl⟩
      obtain ⟨x1, h1⟩ : ∃ x, x = l.getD (k + 1) 0 := ⟨_, rfl⟩
      rw [← h0] at hx0 hat
      rw [← h1] at hx1 hat
      have hx1' : ∀ w, (Instr.index 9 (.string t) (.int .i64 ((k : Int) + 1))).run Tryz.prog w = .ok (.int .u8 (x1 : Nat)) w := fun w => by have := hx1 w; rwa [Int.natCast_add] at this
      clear h0 h1 hx1
      by_cases hh : x0 = 13 ∧ x1 = 10
      · obtain ⟨g1, g2, g3⟩ := hst.hit (hat.2 hh)
        rw [← hFl] at g1 g2 g3
        have p0 : ((x0 : Int) == 13) = true := by simp; omega
        have p1 : ((x1 : Int) == 10) = true := by simp; omega
        have p2 : decide ((F : Int) ≤ (k : Int)) = true := decide_eq_true (by omega)
        have p2' : decide (F ≤ k) = true := decide_eq_true g1
        have hsub := HSUB.out F k g1 (by rw [← HN.out]; omega)
        obtain ⟨X, hX⟩ : ∃ X, X = (l.drop F).take (k - F) := ⟨_, rfl⟩
        rw [← hX] at hsub g2 g3
        have hosl := fla_two os
        obtain ⟨o1, w1, hap1, ow1, bw1, kw1⟩ := own_app 91 9 (.string ⟨#[]⟩) 16 Tryz.underlying91 inf9 rfl (i1.below ((Below.refl _ _).alloc (Nat.le_refl _) (.cells #[.string (t.extract F k)] 9))) ⟨wr.heap.size, 0, none⟩ 1 1 [.string (t.extract F k)] rfl
          (fun j u hu => by
            have hj := (List.getElem?_eq_some_iff.1 hu).1
            simp at hj
            subst hj
            rw [add_none]
            simp at hu
            rw [← hu]; simp) (by simp [Value.oneCell']) (by rw [strs_length]; omega) (by rw [strs_length]; omega) (by simp; have := i3.size; omega)
        have ia1 : Own w1 w.heap.size 3 u5 (ints (begs 0 os)) := by
          have ha := i2.below ((Below.refl _ _).alloc (Nat.le_refl _) (.cells #[.string (t.extract F k)] 9))
          have ho := i1.below ((Below.refl _ _).alloc (Nat.le_refl _) (.cells #[.string (t.extract F k)] 9))
          refine ha.keep fun g hg => ?_
          obtain ⟨_, cur, hh⟩ := ha.block hg
          exact kw1 g (lt_of_some hh) (own_ne ho ha (by decide) hg)
        have ib1 : Below w.heap.size w w1 := (i3.alloc i3.size _).trans bw1
        obtain ⟨a2, w2, hap2, ow2, bw2, kw2⟩ := own_app 92 3 (.int .i64 0) 8 Tryz.underlying92 inf3 rfl (ia1.below ((Below.refl _ _).alloc (Nat.le_refl _) (.cells #[.int .i64 (F : Nat)] 3))) ⟨w1.heap.size, 0, none⟩ 1 1 [.int .i64 (F : Nat)] rfl
          (fun j u hu => by
            have hj := (List.getElem?_eq_some_iff.1 hu).1
            simp at hj
            subst hj
            rw [add_none]
            simp at hu
            rw [← hu]; simp) (by simp [Value.oneCell']) (by rw [ints_length, begs_length]; omega) (by rw [ints_length, begs_length]; omega) (by simp; have := ib1.size; omega)
        have io2 : Own w2 w.heap.size 9 o1 (strs (os ++ [X])) := by
          have ho := ow1.below ((Below.refl _ _).alloc (Nat.le_refl _) (.cells #[.int .i64 (F : Nat)] 3))
          have ha := ia1.below ((Below.refl _ _).alloc (Nat.le_refl _) (.cells #[.int .i64 (F : Nat)] 3))
          have : Own w2 w.heap.size 9 o1 (strs os ++ [.string (t.extract F k)]) := by
            refine ho.keep fun g hg => ?_
            obtain ⟨_, cur, hh⟩ := ho.block hg
            exact kw2 g (lt_of_some hh) (own_ne ha ho (by decide) hg)
          rw [hsub] at this
          simpa [strs] using this
        have ia2 : Own w2 w.heap.size 3 a2 (ints (begs 0 (os ++ [X]))) := by
          rw [begs_snoc, Nat.zero_add, ← hFl]
          simpa [ints] using ow2
        have ib2 : Below w.heap.size w w2 := (ib1.alloc ib1.size _).trans bw2
        have HAP1 := hide hap1
        have HAP2 := hide hap2
        have HALL : Hid (k + 2 = (fla (os ++ [X])).length ∧ Own w2 w.heap.size 9 o1 (strs (os ++ [X])) ∧ Own w2 w.heap.size 3 a2 (ints (begs 0 (os ++ [X]))) ∧ LnSt l (os ++ [X]) (k + 1) ∧ Below w.heap.size w w2) := ⟨g3.symm, io2, ia2, g2, ib2⟩
        clear i1 i2 i3 hap1 hap2 io2 ia2 ib2 ow1 ow2 bw1 bw2 kw1 kw2 ia1 ib1 hh hat hst hFl g2 g3 hsub hX hosl HI
        go_wp2_with (first
          | (refine wpList_app_run _ rfl _ _ 91 91 rfl _ _ rfl rfl HAP1.out ?_)
          | (refine wpList_app_run _ rfl _ _ 92 92 rfl _ _ rfl rfl HAP2.out ?_))
        go_roundw
        case rel => exact ⟨k + 1, k + 2, os ++ [X], by omega, by omega, by go_num, by go_num, HALL.out⟩
        case measure => simp [intOf]; omega
      · have HALL : Hid (F = (fla os).length ∧ Own wr w.heap.size 9 u4 (strs os) ∧ Own wr w.heap.size 3 u5 (ints (begs 0 os)) ∧ LnSt l os (k + 1) ∧ Below w.heap.size w wr) := ⟨hFl, i1, i2, hst.skip (fun e => hh (hat.1 e)), i3⟩
        clear i1 i2 i3 hst hFl hat HI
        by_cases h13 : x0 = 13
        · have p0 : ((x0 : Int) == 13) = true := by simp; omega
          have p1 : ((x1 : Int) == 10) = false := by simp; omega
          clear hh h13
          go_wp2_with fail
          go_roundw
          case rel => exact ⟨k + 1, F, os, by omega, by omega, by go_num, rfl, HALL.out⟩
          case measure => simp [intOf]; omega
        · have p0 : ((x0 : Int) == 13) = false := by simp; omega
          clear hh h13
          go_wp2_with fail
          go_roundw
          case rel => exact ⟨k + 1, F, os, by omega, by omega, by go_num, rfl, HALL.out⟩
          case measure => simp [intOf]; omega
    · have hdk : decide ((k : Int) + 1 < (N : Int)) = false := decide_eq_false (by omega)
      have hdk' : decide (k + 1 < N) = false := decide_eq_false hkN
      have hos : os = ls ++ [[]] := by rw [← HPC.out]; exact (hst.fin (by rw [← HNL.out]; omega)).symm
      subst hos
      have hlsl := fla_two (ls ++ [[]])
      obtain ⟨a1, c1, e1, s1, n1⟩ := own_srcVV i1
      obtain ⟨a2, c2, e2, s2, n2⟩ := own_srcVV i2
      have hL1 : (strs (ls ++ [[]])).length = ls.length + 1 := by rw [strs_length]; simp
      have hL2 : (ints (begs 0 (ls ++ [[]]))).length = ls.length + 1 := by rw [ints_length, begs_length]; simp
      rw [hL1] at e1 s1
      rw [hL2] at e2 s2
      subst e1 e2
      have fr1 : ∀ b o, a1 = some ⟨b, o, none⟩ → w.heap.size ≤ b := fun b o e => own_fresh i1 (by rw [e])
      have fr2 : ∀ b o, a2 = some ⟨b, o, none⟩ → w.heap.size ≤ b := fun b o e => own_fresh i2 (by rw [e])
      obtain ⟨y1, r1, r1', t1, v1⟩ := run_headV2 91 und91 size91 wr a1 _ c1 _ s1 n1 ls.length (by omega)
      obtain ⟨y2, r2, r2', t2, v2⟩ := run_headV2 92 und92 size92 wr a2 _ c2 _ s2 n2 ls.length (by omega)
      have k1 : (strs (ls ++ [[]])).take ls.length = strs ls := by unfold strs; rw [List.map_append, List.take_append_of_le_length (by simp), List.take_of_length_le (by simp)]
      have k2 : (ints (begs 0 (ls ++ [[]]))).take ls.length = ints (begs 0 ls) := by rw [begs_snoc]; unfold ints; rw [List.map_append, List.take_append_of_le_length (by simp [begs_length]), List.take_of_length_le (by simp [begs_length])]
      rw [k1] at t1
      rw [k2] at t2
      have hlb : ls.length ≤ 10000 := by simp at hlsl; omega
      obtain ⟨Z, hZ⟩ : ∃ Z, Z = ls.length := ⟨_, rfl⟩
      rw [← hZ] at r1 r1' r2 r2' t1 t2 hlb ⊢
      have hz1 : ((Z + 1 : Nat) : Int) - 1 = (Z : Int) := by omega
      have G1 : Hid (∀ b o, y1 = some ⟨b, o, none⟩ → w.heap.size ≤ b) := fun b o e => by obtain ⟨o', e'⟩ := v1 b o e; exact fr1 b o' e'
      have G2 : Hid (∀ b o, y2 = some ⟨b, o, none⟩ → w.heap.size ≤ b) := fun b o e => by obtain ⟨o', e'⟩ := v2 b o e; exact fr2 b o' e'
      have S1 := hide t1
      have S2 := hide t2
      have B3 := hide i3
      have HZ := hide hZ
      clear i1 i2 i3 hst hFl HI hlsl s1 s2 n1 n2 hL1 hL2 k1 k2 t1 t2 hZ v1 v2 fr1 fr2
      go_wp2_with fail
      try go_region
      all_goals go_wp2_with fail
      all_goals go_ret2
      all_goals rw [← HZ.out]
      all_goals first | exact ⟨_, _, _, _, rfl, S1.out.drew, S2.out.drew, G1.out, G2.out, B3.out.drew⟩ | exact ⟨_, _, _, _, rfl, S1.out, S2.out, G1.out, G2.out, B3.out⟩
end Go.Proofs.YthbnbnfhbkekpaaGreatDoor

namespace Go.Proofs.YthbnbnfhbkekpaaGreatDoor
open Go.RowKit
theorem goTo_len (t : List Nat) : (goTo t).1.1.1.length = 4 := by
  unfold goTo
  split
  · exact dest_len t
  · have := host_len t
    split
    · rename_i h heq; rw [heq] at this; exact this
    · rfl
theorem rline_len (x : List Nat) : (rline x).1.2.1.1.1.length = 4 := by
  have key : ∀ m t, (targ m t).1.2.1.1.1.length = 4 := fun m t => by
    unfold targ
    split
    · have := dest_len t
      split
      · rename_i d heq; rw [heq] at this; exact this
      · rfl
    · split
      · rfl
      · have := goTo_len (cutT t).1
        split
        · rename_i d heq; rw [heq] at this; exact this
        · rfl
  unfold rline
  split
  · split
    · rfl
    · split
      · rfl
      · exact key _ _
  · rfl
theorem request_len (l : List Nat) : (request l).1.1.2.1.1.1.length = 4 := by
  unfold request
  split
  · rfl
  · rename_i ls _
    have : (req ls).1.1.2.1.1.1.length = 4 := by
      cases ls with
      | nil => rfl
      | cons x r =>
        unfold req
        have := rline_len x
        simp only
        split
        · rename_i q heq
          rw [heq] at this
          split
          · exact this
          · rfl
        · rfl
    split
    · rename_i q heq; rw [heq] at this; exact this
    · rfl
theorem request_row (l : List Nat) : ∃ (m : ByteArray) (x0 x1 x2 x3 : Nat) (s : ByteArray) (p : Nat) (t : ByteArray), ∀ v, rqC (request l).1.1 v = #[.string m, .int .u8 (x0 : Nat), .int .u8 (x1 : Nat), .int .u8 (x2 : Nat), .int .u8 (x3 : Nat), .string s, .int .i64 (p : Nat), .string t, v] := by
  obtain ⟨x0, x1, x2, x3, hA⟩ := four (request_len l)
  exact ⟨strN (request l).1.1.1, x0, x1, x2, x3, strN (request l).1.1.2.1.1.2, (request l).1.1.2.1.2, strN (request l).1.1.2.2, fun v => by unfold rqC; rw [hA]; rfl⟩
end Go.Proofs.YthbnbnfhbkekpaaGreatDoor

namespace Go.Proofs.YthbnbnfhbkekpaaGreatDoor
open Go.RowKit
theorem run_tailV2 (ty : TypeId) (hu : Tryz.prog.underlying ty = some (.slice (Tryz.prog.elem ty))) (hs : ∀ w, (sizeOf (Tryz.prog.elem ty)).run Tryz.prog w = .ok 1 w) (a : Option Addr) (n c : Nat) (hc : n ≤ c) (h1 : 1 ≤ n) : ∃ x : Option Addr,
    (∀ w, (Instr.sliceAt ty (.slice a n c) (some (.int .i64 1)) none none).run Tryz.prog w = .ok (.slice x (n - 1) (c - 1)) w) ∧
    (∀ w, (Instr.slice ty (.slice a n c) (some (.int .i64 1)) none none).run Tryz.prog w = .ok (.slice x (n - 1) (c - 1)) w) ∧ ∀ (W : World) (xs : List Value), SrcV W a n c xs → SrcV W x (n - 1) (c - 1) (xs.drop 1) := by
  have key : ∀ w, (Instr.slice ty (.slice a n c) (some (.int .i64 1)) none none).run Tryz.prog w = .ok (sliced a 1 n c 1) w := fun w => by
    have := run_slice_l w ty (a := a) n c hu .i64 1 (by omega) (by omega)
    rw [this, hs]
    simp [Result.andThen]
  refine ⟨if c = 1 then a else a.map (·.add (1 * 1)), fun w => ?_, fun w => ?_, fun W xs h => ⟨by have := h.hlen; rw [List.length_drop]; omega, by omega, by have := h.hmax; omega, fun h0 => ?_⟩⟩
  · rw [run_sliceAt_slice w ty _ _ _ _ hu, key]; rfl
  · rw [key]; rfl
  · obtain ⟨x, o, rfl, hx, hcell⟩ := h.lies (by omega)
    rw [if_neg (by omega)]
    refine ⟨x, o + 1, by rw [Option.map_some, add_none], hx, fun j u hu => ?_⟩
    rw [List.getElem?_drop] at hu
    have := hcell (1 + j) u hu
    rwa [← Nat.add_assoc] at this
/-- What the call of target leaves: the box of the destination, the error's, and the rest as it was. -/
structure Aft (w w5 W8 : World) (E D : Nat) (DE : Array Value) (te : Hr) : Prop where
  d : W8.heap[D]? = some (.cells DE 41)
  e : W8.heap[E]? = some (.cells (badG te) 32)
  r0 : W8.heap[w.heap.size]? = some (.cells z9 44)
  r1 : W8.heap[w.heap.size + 1]? = some (.cells (badC .ok) 32)
  b : Below w.heap.size w W8
  k : ∀ g, g < w5.heap.size → g ≠ E → W8.heap[g]? = w5.heap[g]?
  s : w5.heap.size ≤ W8.heap.size
  lt : D < W8.heap.size
  ge : w5.heap.size ≤ D
theorem aft_mk {w w5 wA W8 : World} {E D : Nat} {DE : Array Value} {te : Hr} (hA : Below w5.heap.size w5 wA) (hD : wA.heap[D]? = some (.cells DE 41)) (hDg : w5.heap.size ≤ D) (p5 : w5.heap[E]? = some (.cells (badG .ok) 32)) (r0 : w5.heap[w.heap.size]? = some (.cells z9 44)) (r1 : w5.heap[w.heap.size + 1]? = some (.cells (badC .ok) 32)) (b5 : Below w.heap.size w w5) (hE : w.heap.size + 1 < E) (h8 : W8 = wA.setRow E (badG te)) : Aft w w5 W8 E D DE te := by
  have hEl := lt_of_some p5
  have q0 := keepB hA r0
  have q1 := keepB hA r1
  have qe := keepB hA p5
  have bA : Below w.heap.size w wA := b5.trans (hA.mono b5.size)
  have b7 : Below w.heap.size w W8 := by rw [h8]; exact below_setRow bA (by omega) _
  have hd : W8.heap[D]? = some (.cells DE 41) := by rw [h8, setRow_ne _ _ _ _ (by omega)]; exact hD
  refine ⟨hd, by rw [h8]; exact setRow_heap _ _ _ _ _ qe, ?_, ?_, b7, fun g hg hne => ?_, ?_, lt_of_some hd, hDg⟩
  · have := lt_of_some r0; rw [h8, setRow_ne _ _ _ _ (by omega)]; exact q0
  · have := lt_of_some r1; rw [h8, setRow_ne _ _ _ _ (by omega)]; exact q1
  · rw [h8, setRow_ne _ _ _ _ (by omega)]; exact hA.block g hg
  · have h9 : wA.heap.size ≤ W8.heap.size := by rw [h8]; simp [World.setRow]
    exact Nat.le_trans hA.size h9
theorem run_storeCells_row {P : Program} (g : Nat) (t : TypeId) (cs old : Array Value) (w : World) (hg : w.heap[g]? = some (.cells old t)) (ho : old.size = cs.size) (h1 : cs.all (·.oneCell') = true) : (storeCells ⟨g, 0, none⟩ cs.toList).run P w = .ok () (w.setRow g cs) := by
  have := run_storeCells_from (P := P) g t cs.toList 0 old w hg (by simp; omega) (fun v hv => (Array.all_eq_true_iff_forall_mem.1 h1) v (by simpa using hv))
  simpa using this
theorem set6 {w : World} {B : Nat} {t : TypeId} {o0 o1 o2 o3 o4 o5 : Value} (h : w.heap[B]? = some (.cells #[o0, o1, o2, o3, o4, o5] t)) (v0 v1 v2 v3 v4 v5 : Value) :
    ((((((w.setCell ⟨B, 0, none⟩ v0).setCell ⟨B, 1, none⟩ v1).setCell ⟨B, 2, none⟩ v2).setCell ⟨B, 3, none⟩ v3).setCell ⟨B, 4, none⟩ v4).setCell ⟨B, 5, none⟩ v5).heap[B]? = some (.cells #[v0, v1, v2, v3, v4, v5] t) := by
  rw [heap_setCell_same (heap_setCell_same (heap_setCell_same (heap_setCell_same (heap_setCell_same (heap_setCell_same h _ _) _ _) _ _) _ _) _ _) _ _]
  rfl
theorem Aft.srcV {w w5 W8 : World} {E D : Nat} {DE : Array Value} {te : Hr} (h : Aft w w5 W8 E D DE te) {a : Option Addr} {n c : Nat} {xs : List Value} (hs : SrcV w5 a n c xs) (hf : ∀ b o, a = some ⟨b, o, none⟩ → E < b) : SrcV W8 a n c xs :=
  ⟨hs.hlen, hs.hcap, hs.hmax, fun h0 => by
    obtain ⟨b, o, e, hb, hc⟩ := hs.lies h0
    have hne : b ≠ E := by have := hf b o e; omega
    exact ⟨b, o, e, Nat.lt_of_lt_of_le hb h.s, fun j u hu => (World.cell?_of_block (a := ⟨b, o + j, none⟩) (h.k b hb hne)).trans (hc j u hu)⟩⟩
theorem bln99 {x : List Nat} (h : (bln 99 x).length = 3) : bl x = bln 99 x := by
  rcases Nat.lt_or_ge 99 (bl x).length with h1 | h1
  · have := bln_len x 98 (by omega)
    rw [show (98 : Nat) + 1 = 99 from rfl] at this; omega
  · exact (bln_bl x 98 (by omega)).symm
theorem bln99_not {x : List Nat} (h : (bln 99 x).length ≠ 3) : (bl x).length ≠ 3 := fun h3 => by
  rw [← bln_bl x 98 (by omega)] at h3; exact h h3
theorem len3 {α : Type} {l : List α} (h : l.length = 3) : ∃ a b c, l = [a, b, c] := by
  match l, h with
  | [a, b, c], _ => exact ⟨a, b, c, rfl⟩
def hrN : Hr → Nat
  | .ok => 0
  | .one _ _ => 1
  | .wr _ (.one _ _) => 2
  | .wr _ (.two _ _ _) => 3
  | .wr _ .ok => 0
theorem badG_N (e : Hr) : (badG e)[0]? = some (.int .i64 (hrN e : Nat)) := by
  cases e with
  | wr a e => cases e <;> rfl
  | _ => rfl
theorem targ_pos (m t : List Nat) (h : (targ m t).2 ≠ .ok) : 0 < hrN (targ m t).2 ∧ (targ m t).1 = noR := by
  have key : ∀ (a : Nat) (e : Er), e ≠ .ok → 0 < hrN (.wr a e) := fun a e he => by cases e <;> simp [hrN] at he ⊢
  unfold targ at h ⊢
  split at h
  · rename_i hm
    rw [if_pos hm]
    cases hd : dest t with
    | mk d e =>
      rw [hd] at h
      cases e with
      | ok => exact absurd rfl h
      | one a c => exact ⟨by simp [hrN], rfl⟩
      | two a b c => exact ⟨by simp [hrN], rfl⟩
  · rename_i hm
    rw [if_neg hm]
    split at h
    · rename_i ho
      rw [if_pos ho]
      exact ⟨by simp [hrN], rfl⟩
    · rename_i ho
      rw [if_neg ho]
      cases hd : goTo (cutT t).1 with
      | mk d e =>
        rw [hd] at h
        cases e with
        | ok => exact absurd rfl h
        | one a c => exact ⟨by simp [hrN], rfl⟩
        | two a b c => exact ⟨by simp [hrN], rfl⟩
theorem targ_len (m t : List Nat) : (targ m t).1.2.1.1.1.length = 4 := by
  unfold targ
  split
  · cases hd : dest t with
    | mk d e =>
      have := dest_len t
      rw [hd] at this
      cases e with
      | ok => exact this
      | one a c => rfl
      | two a b c => rfl
  · split
    · rfl
    · cases hd : goTo (cutT t).1 with
      | mk d e =>
        have := goTo_len (cutT t).1
        rw [hd] at this
        cases e with
        | ok => exact this
        | one a c => rfl
        | two a b c => rfl
theorem targ_m (m t : List Nat) (h : (targ m t).2 = .ok) : (targ m t).1.1 = m := by
  unfold targ at h ⊢
  split at h
  · rename_i hm
    rw [if_pos hm]
    cases hd : dest t with
    | mk d e =>
      rw [hd] at h
      cases e with
      | ok => rfl
      | one a c => cases h
      | two a b c => cases h
  · rename_i hm
    rw [if_neg hm]
    split at h
    · cases h
    · rename_i ho
      rw [if_neg ho]
      cases hd : goTo (cutT t).1 with
      | mk d e =>
        rw [hd] at h
        cases e with
        | ok => rfl
        | one a c => cases h
        | two a b c => cases h
theorem flds_pos : ∀ (ls : List (List Nat)) (a : Nat) (acc : List Fd), (flds a ls acc).2 ≠ .ok → 0 < hrN (flds a ls acc).2
  | [], a, acc, h => absurd rfl h
  | x :: r, a, acc, h => by
    unfold flds at h ⊢
    split at h
    · rename_i h1; rw [if_pos h1]; simp [hrN]
    · rename_i h1
      rw [if_neg h1]
      split at h
      · rename_i h2; rw [if_pos h2]; simp [hrN]
      · rename_i h2; rw [if_neg h2]; exact flds_pos r _ _ h
end Go.Proofs.YthbnbnfhbkekpaaGreatDoor
