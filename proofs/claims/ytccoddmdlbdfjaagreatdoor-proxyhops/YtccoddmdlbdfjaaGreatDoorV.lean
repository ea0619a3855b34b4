/-
  Copies and comparisons of the reference's base; Comparisons of heads of the reference's base; The builder that a call has made: copyCheck, WriteString; What package head writes: put; What package head writes: targetOf, PutRequest, PutReply; Numbers: a head that is written is read as it was; conditions as each theorem has them.
-/
import Derived.Test.YtccoddmdlbdfjaaGreatDoorHL
import Derived.Test.YtccoddmdlbdfjaaGreatDoorHM
import Derived.Test.YtccoddmdlbdfjaaGreatDoorBN
import Derived.Lib.AppendStr
import Derived.Shelf.Strings.Builder1
set_option linter.unusedSimpArgs false
set_option linter.unusedVariables false
namespace Go.Proofs.YtccoddmdlbdfjaaGreatDoor
open Go.RowKit

theorem run_str_src {w : World} {a : Option Addr} {len cap : Nat} {l : List Nat} (h : Src w a len cap l) : (convert 35 9 (.slice a len cap)).run Tryz.prog w = .ok (.string (strN l)) w := by
  by_cases h0 : 0 < len
  · obtain ⟨b, o, rfl, _, hc⟩ := h.lies h0
    exact run_str w b o len cap l h.hlen hc
  · obtain rfl : len = 0 := by omega
    obtain rfl : l = [] := List.eq_nil_of_length_eq_zero h.hlen
    cases a with
    | none => exact run_convert_bytes_nil (P := Tryz.prog) w 35 5 Tryz.underlying35 Tryz.underlying5 0 cap 9 Tryz.underlying9
    | some x =>
      rw [run_convert_bytes_string w 35 9 5 _ 0 cap Tryz.underlying35 Tryz.underlying5 Tryz.underlying9]
      exact run_bytesToString w x 0 cap [] (by simpa using run_loadCells_list (P := Tryz.prog) w x [] (by simp))

theorem und22 : Tryz.prog.underlying 35 = some (.slice (Tryz.prog.elem 35)) := by kernel_rfl
theorem size22 (w : World) : (sizeOf (Tryz.prog.elem 35)).run Tryz.prog w = .ok 1 w := by kernel_rfl
theorem own_src {w : World} {B : Nat} {v : Value} {l : List Nat} (h : Own w B 5 v (nums .u8 l)) (hb : ∀ x ∈ l, x < 256) : ∃ a cap, v = .slice a l.length cap ∧ Src w a l.length cap l ∧ (∀ b o, a = some ⟨b, o, none⟩ → B ≤ b) := by
  have hl := nums_length .u8 l
  rcases h.2 with ⟨rfl, h0⟩ | ⟨g, cap, cur, rfl, hg, hh, hc, hm, hs, ht⟩
  · rw [hl] at h0
    obtain rfl : l = [] := List.eq_nil_of_length_eq_zero h0
    exact ⟨none, 0, rfl, Src.nilS w, fun b o e => by cases e⟩
  · rw [hl] at hc ht ⊢
    refine ⟨some ⟨g, 0, none⟩, cap, rfl, ⟨rfl, hc, hm, fun e => (by cases e), fun _ => ⟨g, 0, rfl, lt_of_some hh, fun i hi => ?_⟩, hb⟩, fun b o e => by simp at e; omega⟩
    rw [Nat.mul_one] at ht
    have e1 : cur[i]? = (nums .u8 l)[i]? := by rw [← ht, List.getElem?_take, if_pos hi]; simp
    rw [Nat.zero_add]
    simp only [World.cell?, hh]
    rw [e1]
    exact nums_get .u8 l i hi
theorem inf5 : ∃ i, Tryz.prog.info? 5 = some i ∧ i.zero = some (.int .u8 0) ∧ i.size = 1 ∧ i.bytes = 1 := info5p
/-- 'append(v, x...)', v the call's own bytes. -/
theorem run_app {w : World} {B : Nat} {v : Value} {l : List Nat} (hown : Own w B 5 v (nums .u8 l)) {a : Option Addr} {m c : Nat} {bs : List Nat} (hs : Src w a m c bs) (hlen : l.length + m ≤ 140737488355328) (hB : B ≤ w.heap.size) :
    ∃ v' w', (Builtin.append_ #[35, 35] 35 #[v, .slice a m c]).run Tryz.prog w = .ok v' w' ∧ Own w' B 5 v' (nums .u8 (l ++ bs)) ∧ Below B w w' := by
  cases a with
  | none =>
    obtain ⟨i, hi, hz, hsz, hby⟩ := info5p
    have hc := hs.nil rfl
    have := hs.hcap
    obtain rfl : m = 0 := by omega
    obtain rfl : c = 0 := hc
    obtain rfl : bs = [] := List.eq_nil_of_length_eq_zero hs.hlen
    exact ⟨v, w, run_append_owned_none (P := Tryz.prog) w B 35 35 5 i 1 Tryz.underlying35 hi v _ (nums .u8 l) hown, by simpa using hown, Below.refl _ _⟩
  | some x =>
    obtain ⟨v', w', h1, h2, h3, _⟩ := own_app 35 5 (.int .u8 0) 1 Tryz.underlying35 inf5 rfl hown x m c (nums .u8 bs) (by rw [nums_length, hs.hlen])
      (fun j u hu => by
        obtain ⟨hj, rfl⟩ := nums_at _ _ _ _ hu
        rw [hs.hlen] at hj
        obtain ⟨b, o, e, _, hcell⟩ := hs.lies (by omega)
        simp at e
        subst e
        rw [add_none]
        exact hcell j hj) (nums_one _ _) (by rw [nums_length]; omega) (by rw [nums_length]; omega) hB
    exact ⟨v', w', h1, by rw [nums_append]; exact h2, h3⟩
theorem own_new5 (w : World) : Own (w.alloc (.cells #[] 5)) w.heap.size 5 (.slice (some ⟨w.heap.size, 0, none⟩) 0 0) (nums .u8 []) :=
  ⟨rfl, Or.inr ⟨w.heap.size, 0, #[], rfl, Nat.le_refl _, alloc_new _ _, by simp [nums], Nat.zero_le _, by simp, by simp [nums]⟩⟩
set_option maxRecDepth 100000 in
set_option maxHeartbeats 1000000 in
theorem bytes_at (a : Option Addr) (n c : Nat) (l : List Nat) (w : World) (h : Src w a n c l) (hn : n ≤ 140737488355328) : Calls Tryz.prog 10 #[.slice a n c] w fun e w' => ∃ v, e = .returned v ∧ Own w' w.heap.size 5 v (nums .u8 l) ∧ Below w.heap.size w w' := by
  obtain ⟨W1, hW1⟩ : ∃ W1, W1 = w.alloc (.cells #[] 5) := ⟨_, rfl⟩
  have b1 : Below w.heap.size w W1 := by rw [hW1]; exact (Below.refl _ _).alloc (Nat.le_refl _) _
  have o1 : Own W1 w.heap.size 5 (.slice (some ⟨w.heap.size, 0, none⟩) 0 0) (nums .u8 []) := by rw [hW1]; exact own_new5 w
  obtain ⟨v', W2, hap, o2, b2⟩ := run_app o1 (h.below b1) (by simpa using hn) b1.size
  rw [List.nil_append] at o2
  have hAl : w.alloc (.cells #[] 5) = W1 := hW1.symm
  have HAP := hide hap
  have HO := hide o2
  have HB : Hid (Below w.heap.size w W2) := b1.trans b2
  clear h hW1 b1 o1 hap o2 b2
  go_enter Tryz.func10, Tryz.ntmps10
  go_wp2_with (refine wpList_app_run _ rfl _ _ 35 35 rfl _ _ rfl rfl HAP.out ?_)
  go_ret
  exact ⟨v', rfl, HO.out, HB.out⟩
set_option maxHeartbeats 400000 in
theorem same_bytes (w : World) (a b : Option Addr) (n c m d : Nat) (l : List Nat) (h1 : Src w a n c l) (h2 : Src w b m d l) : Calls Tryz.prog 13 #[.slice a n c, .slice b m d] w fun e w' => e = .returned (.bool true) ∧ w = w' := by
  have r1 := run_str_src h1
  have r2 := run_str_src h2
  clear h1 h2
  go_enter Tryz.func13, Tryz.ntmps13
  go_wp2
  go_ret
  simp
theorem run_cut_h (w : World) (a : Option Addr) (n c : Nat) (b : List Nat) (h : Src w a n c b) (k : Nat) (hk : k ≤ n) : ∃ x : Option Addr,
    (∀ w, (Instr.sliceAt 35 (.slice a n c) none (some (.int .i64 k)) none).run Tryz.prog w = .ok (.slice x k c) w) ∧
    (∀ w, (Instr.slice 35 (.slice a n c) none (some (.int .i64 k)) none).run Tryz.prog w = .ok (.slice x k c) w) ∧ Src w x k c (b.take k) := by
  have hc := h.hcap
  have hl := h.hlen
  have key : ∀ w, (Instr.slice 35 (.slice a n c) none (some (.int .i64 k)) none).run Tryz.prog w = .ok (sliced a 0 k c 1) w := fun w => by
    rw [run_slice_h w 35 _ n c und22 .i64 k (by omega) (by omega), size22]
    simp [Result.andThen]
  refine ⟨if c = 0 then a else a.map (·.add (0 * 1)), fun w => ?_, fun w => ?_, ⟨by rw [List.length_take]; omega, by omega, h.hmax, fun e => ?_, fun h0 => ?_, fun x hx => h.byte x (List.mem_of_mem_take hx)⟩⟩
  · rw [run_sliceAt_slice w 35 _ _ _ _ und22, key]; rfl
  · rw [key]; rfl
  · cases a with
    | none => exact h.nil rfl
    | some x => split at e <;> simp at e
  · obtain ⟨x, o, rfl, hx, hcell⟩ := h.lies (by omega)
    rw [if_neg (by omega)]
    refine ⟨x, o, by rw [Option.map_some, add_none, Nat.zero_mul, Nat.add_zero], hx, fun i hi => ?_⟩
    rw [List.getD, List.getElem?_take, if_pos hi]
    exact hcell i (by omega)
theorem wrap_small (n : Int) (m : Nat) (hm : 0 < m) (hm1 : m ≤ 4611686018427387904) : ∃ k : Nat, k < m ∧ wrap64 ((IntKind.u64.wrap n).tmod m) = (k : Int) := by
  have hu : 0 ≤ IntKind.u64.wrap n := by
    have : IntKind.u64.wrap n = n % 18446744073709551616 := by simp [IntKind.wrap, IntKind.signed, IntKind.bits]
    rw [this]
    exact Int.emod_nonneg _ (by omega)
  generalize IntKind.u64.wrap n = u at hu
  rw [Int.tmod_eq_emod_of_nonneg hu]
  have h1 := Int.emod_nonneg u (show (m : Int) ≠ 0 by omega)
  have h2 := Int.emod_lt_of_pos u (show (0 : Int) < m by omega)
  refine ⟨(u % m).toNat, by omega, ?_⟩
  generalize u % (m : Int) = x at h1 h2
  rw [Int.toNat_of_nonneg h1]
  unfold wrap64
  omega
set_option maxHeartbeats 400000 in
theorem Among_at (n : Int) (m : Nat) (hm : 0 < m) (hm1 : m ≤ 4611686018427387904) (w : World) : Calls Tryz.prog 9 #[.int .i64 n, .int .i64 m] w fun e w' => ∃ k : Nat, k < m ∧ e = .returned (.int .i64 k) ∧ w = w' := by
  go_enter Tryz.func9, Tryz.ntmps9
  go_wp2
  go_ret
  obtain ⟨k, hk, e⟩ := wrap_small n m hm hm1
  exact ⟨k, hk, by rw [← e]; rfl, rfl⟩

theorem own_new76 (w : World) : OwnF (w.alloc (.cells #[] 68)) w.heap.size (.slice (some ⟨w.heap.size, 0, none⟩) 0 0) [] :=
  ⟨rfl, Or.inr ⟨w.heap.size, 0, #[], rfl, Nat.le_refl _, alloc_new _ _, by simp, Nat.zero_le _, by simp, by simp [fcs]⟩⟩
/-- 'append(v, x...)', v the call's own fields. -/
theorem run_appF {w : World} {B : Nat} {v : Value} {fs : List Fd} (hown : OwnF w B v fs) {a : Option Addr} {m c : Nat} {gs : List Fd} (hs : SrcF w a m c gs) (hlen : (fs.length + m) * 32 ≤ 140737488355328) (hB : B ≤ w.heap.size) :
    ∃ v' w', (Builtin.append_ #[32, 32] 32 #[v, .slice a m c]).run Tryz.prog w = .ok v' w' ∧ OwnF w' B v' (fs ++ gs) ∧ Below B w w' := by
  cases a with
  | none =>
    obtain ⟨i, hi, hz, hsz, hby⟩ := inf76
    have hc := hs.nil rfl
    have := hs.hcap
    obtain rfl : m = 0 := by omega
    obtain rfl : c = 0 := hc
    obtain rfl : gs = [] := List.eq_nil_of_length_eq_zero hs.hlen
    exact ⟨v, w, run_append_owned_none (P := Tryz.prog) w B 32 32 68 i 2 Tryz.underlying32 hi v _ (fcs fs) hown, by simpa using hown, Below.refl _ _⟩
  | some x =>
    obtain ⟨v', w', h1, h2, h3, _⟩ := own_appF hown x m c gs hs.hlen
      (fun j u hu => by
        have hj := (List.getElem?_eq_some_iff.1 hu).1
        rw [fcs_len, hs.hlen] at hj
        obtain ⟨b, o, e, _, hcell⟩ := hs.lies (by omega)
        simp at e
        subst e
        rw [add_none]
        exact hcell j u hu) hlen hB
    exact ⟨v', w', h1, h2, h3⟩
set_option maxRecDepth 100000 in
set_option maxHeartbeats 2000000 in
theorem same_fields (w : World) (a b : Option Addr) (n c m d : Nat) (fs : List Fd) (h1 : SrcF w a n c fs) (h2 : SrcF w b m d fs) : Calls Tryz.prog 33 #[.slice a n c, .slice b m d] w fun e w' => e = .returned (.bool true) ∧ Below w.heap.size w w' := by
  obtain rfl : m = n := by rw [← h2.hlen, ← h1.hlen]
  have H1 := hide h1
  have H2 := hide h2
  have hc1 := h1.hcap
  have hm1 := h1.hmax
  have hc2 := h2.hcap
  have hm2 := h2.hmax
  unfold maxLen at hm1 hm2
  clear h1 h2
  go_enter Tryz.func33, Tryz.ntmps33
  go_wp2_with fail
  go_loopw [5] (fun i wr => ∃ k : Nat, k ≤ m ∧ i = .int .i64 k ∧ Hid (Below w.heap.size w wr)) (fun i _ => m - (intOf i).toNat)
  case atStart => exact ⟨0, by omega, rfl, Below.refl _ _⟩
  case round =>
    obtain ⟨k, hk, rfl, HJ⟩ := hrel
    by_cases hkm : k < m
    · have hd : decide ((k : Int) < (m : Int)) = true := decide_eq_true (by omega)
      have s1 := H1.out.keep (w' := wr) (fun h0 b o e => HJ.out.block b (H1.out.lt h0 e)) HJ.out.size
      have s2 := H2.out.keep (w' := wr) (fun h0 b o e => HJ.out.block b (H2.out.lt h0 e)) HJ.out.size
      obtain ⟨xb, xo, rfl, e1, e2⟩ := s1.at_ hkm
      obtain ⟨yb, yo, rfl, e3, e4⟩ := s2.at_ hkm
      rw [Nat.mul_comm 2 k] at e1 e2 e3 e4
      generalize strN (fs.getD k ([], [])).1 = P at e1 e3
      generalize strN (fs.getD k ([], [])).2 = R at e2 e4
      clear s1 s2
      go_wp2_with fail
      go_region
      all_goals go_wp2_with fail
      go_roundw
      case rel => exact ⟨k + 1, by omega, by go_num, HJ.out.drew⟩
      case measure => simp [intOf]; omega
    · have hd : decide ((k : Int) < (m : Int)) = false := decide_eq_false (by omega)
      go_wp2_with fail
      go_ret
      exact ⟨rfl, HJ.out⟩
end Go.Proofs.YtccoddmdlbdfjaaGreatDoor

set_option linter.unusedSimpArgs false
set_option linter.unusedVariables false
namespace Go.Proofs.YtccoddmdlbdfjaaGreatDoor
open Go.RowKit

set_option maxRecDepth 100000 in
set_option maxHeartbeats 4000000 in
theorem same_request (w : World) (q : ByteArray) (x0 x1 x2 x3 : Nat) (s : ByteArray) (p : Int) (t : ByteArray) (a b : Option Addr) (n c m d : Nat) (fs : List Fd) (h1 : SrcF w a n c fs) (h2 : SrcF w b m d fs) : Calls Tryz.prog 26 #[.agg #[.string q, .int .u8 (x0 : Nat), .int .u8 (x1 : Nat), .int .u8 (x2 : Nat), .int .u8 (x3 : Nat), .string s, .int .i64 p, .string t, .slice a n c], .agg #[.string q, .int .u8 (x0 : Nat), .int .u8 (x1 : Nat), .int .u8 (x2 : Nat), .int .u8 (x3 : Nat), .string s, .int .i64 p, .string t, .slice b m d]] w fun e w' => e = .returned (.bool true) ∧ Below w.heap.size w w' := by
  obtain ⟨r1, hr1⟩ : ∃ r : Array Value, r = #[.string q, .int .u8 (x0 : Nat), .int .u8 (x1 : Nat), .int .u8 (x2 : Nat), .int .u8 (x3 : Nat), .string s, .int .i64 p, .string t, .slice a n c] := ⟨_, rfl⟩
  obtain ⟨r2, hr2⟩ : ∃ r : Array Value, r = #[.string q, .int .u8 (x0 : Nat), .int .u8 (x1 : Nat), .int .u8 (x2 : Nat), .int .u8 (x3 : Nat), .string s, .int .i64 p, .string t, .slice b m d] := ⟨_, rfl⟩
  obtain ⟨W2, hW2⟩ : ∃ W, W = (w.alloc (.cells r1 34)).alloc (.cells r2 34) := ⟨_, rfl⟩
  have b2 : Below w.heap.size w W2 := by rw [hW2]; exact ((Below.refl _ _).alloc (Nat.le_refl _) _).alloc (by simp) _
  have HS := hide (same_fields _ a b n c m d fs (h1.below b2) (h2.below b2))
  have B2 := hide b2
  obtain ⟨F, hF⟩ : ∃ F, F = w.heap.size := ⟨_, rfl⟩
  obtain ⟨G, hG⟩ : ∃ G, G = w.heap.size + 1 := ⟨_, rfl⟩
  have g1 : W2.heap[F]? = some (.cells r1 34) := by rw [hW2, hF]; exact alloc_old _ (alloc_new _ _)
  have g2 : W2.heap[G]? = some (.cells r2 34) := by rw [hW2, hG]; exact alloc_new2 _ _ _
  have eF0 : W2.cell? ⟨F, 0, none⟩ = some (.string q) := by simp [World.cell?, g1, hr1]
  have eF1 : W2.cell? ⟨F, 1, none⟩ = some (.int .u8 (x0 : Nat)) := by simp [World.cell?, g1, hr1]
  have eF2 : W2.cell? ⟨F, 2, none⟩ = some (.int .u8 (x1 : Nat)) := by simp [World.cell?, g1, hr1]
  have eF3 : W2.cell? ⟨F, 3, none⟩ = some (.int .u8 (x2 : Nat)) := by simp [World.cell?, g1, hr1]
  have eF4 : W2.cell? ⟨F, 4, none⟩ = some (.int .u8 (x3 : Nat)) := by simp [World.cell?, g1, hr1]
  have eF5 : W2.cell? ⟨F, 5, none⟩ = some (.string s) := by simp [World.cell?, g1, hr1]
  have eF6 : W2.cell? ⟨F, 6, none⟩ = some (.int .i64 p) := by simp [World.cell?, g1, hr1]
  have eF7 : W2.cell? ⟨F, 7, none⟩ = some (.string t) := by simp [World.cell?, g1, hr1]
  have eF8 : W2.cell? ⟨F, 8, none⟩ = some (.slice a n c) := by simp [World.cell?, g1, hr1]
  have eG0 : W2.cell? ⟨G, 0, none⟩ = some (.string q) := by simp [World.cell?, g2, hr2]
  have eG1 : W2.cell? ⟨G, 1, none⟩ = some (.int .u8 (x0 : Nat)) := by simp [World.cell?, g2, hr2]
  have eG2 : W2.cell? ⟨G, 2, none⟩ = some (.int .u8 (x1 : Nat)) := by simp [World.cell?, g2, hr2]
  have eG3 : W2.cell? ⟨G, 3, none⟩ = some (.int .u8 (x2 : Nat)) := by simp [World.cell?, g2, hr2]
  have eG4 : W2.cell? ⟨G, 4, none⟩ = some (.int .u8 (x3 : Nat)) := by simp [World.cell?, g2, hr2]
  have eG5 : W2.cell? ⟨G, 5, none⟩ = some (.string s) := by simp [World.cell?, g2, hr2]
  have eG6 : W2.cell? ⟨G, 6, none⟩ = some (.int .i64 p) := by simp [World.cell?, g2, hr2]
  have eG7 : W2.cell? ⟨G, 7, none⟩ = some (.string t) := by simp [World.cell?, g2, hr2]
  have eG8 : W2.cell? ⟨G, 8, none⟩ = some (.slice b m d) := by simp [World.cell?, g2, hr2]
  have HW2 : Hid ((w.alloc (.cells #[.string q, .int .u8 (x0 : Nat), .int .u8 (x1 : Nat), .int .u8 (x2 : Nat), .int .u8 (x3 : Nat), .string s, .int .i64 p, .string t, .slice a n c] 34)).alloc (.cells #[.string q, .int .u8 (x0 : Nat), .int .u8 (x1 : Nat), .int .u8 (x2 : Nat), .int .u8 (x3 : Nat), .string s, .int .i64 p, .string t, .slice b m d] 34) = W2) := by rw [← hr1, ← hr2]; exact hW2.symm
  have HF := hide hF.symm
  have HG := hide hG.symm
  clear h1 h2 b2 hW2 hr1 hr2 g1 g2 hF hG
  go_enter Tryz.func26, Tryz.ntmps26
  go_wp2_with (first | (rw [HW2.out, HG.out, HF.out]))
  try (rw [HW2.out, HG.out, HF.out]; go_wp2_with fail)
  refine HS.out.mono ?_
  rintro e w3 ⟨rfl, k3⟩
  have B3 := hide (B2.out.trans (k3.mono B2.out.size))
  clear k3 B2 HS
  go_wp2_with fail
  go_ret
  exact ⟨rfl, B3.out⟩
end Go.Proofs.YtccoddmdlbdfjaaGreatDoor

set_option linter.unusedSimpArgs false
set_option linter.unusedVariables false
namespace Go.Proofs.YtccoddmdlbdfjaaGreatDoor
open Go.RowKit

theorem info143 : (Tryz.prog.info? 138).map (·.size) = some 2 := by kernel_rfl
set_option maxHeartbeats 1000000 in
set_option maxRecDepth 100000 in
theorem copyUsed (b : Nat) (w : World) (h0 : w.cell? ⟨b, 0, none⟩ = some (.pointer (some ⟨b, 0, none⟩))) : Calls Tryz.prog 118 #[.pointer (some ⟨b, 0, none⟩)] w fun e w' => e = .returned (.tuple #[]) ∧ w' = w := by
  obtain ⟨j, hj, _⟩ := Option.map_eq_some_iff.1 info143
  go_enter Tryz.func118, Tryz.ntmps118
  go_wp2
  rw [Lib.run_neq_ptr_same w _ Tryz.underlying136 hj]
  go_wp2
  go_end0
  exact ⟨rfl, rfl⟩
set_option maxHeartbeats 1000000 in
set_option maxRecDepth 100000 in
theorem copyFresh (b : Nat) (w : World) (h0 : w.cell? ⟨b, 0, none⟩ = some (.pointer none)) (hsh : w.shape? b = some (138, 2)) (hfz : w.frozen? ⟨b, 0, none⟩ = false) : Calls Tryz.prog 118 #[.pointer (some ⟨b, 0, none⟩)] w fun e w' => e = .returned (.tuple #[]) ∧ w' = w.setCell ⟨b, 0, none⟩ (.pointer (some ⟨b, 0, none⟩)) := by
  obtain ⟨j, hj, hjs⟩ := Option.map_eq_some_iff.1 info143
  go_enter Tryz.func118, Tryz.ntmps118
  go_wp2
  rw [Lib.run_to_unsafe w ⟨b, 0, none⟩ Tryz.underlying136 Tryz.underlying212 hj (by rw [hjs]; decide) hsh (Nat.zero_lt_succ 1)]
  simp only [Result.andThen]
  rw [Oper.upon_value]
  go_wp2
  rw [run_callFunc_extern Tryz.func150 (by kernel_rfl) (by kernel_rfl) (by kernel_rfl) (e := Extern.AbiNoEscape.same) (by kernel_rfl)]
  rw [Lib.run_noEscape]
  simp only [Result.andThen]
  rw [Oper.upon_value]
  go_wp2
  rw [Lib.run_from_unsafe w ⟨b, 0, none⟩ Tryz.underlying212 Tryz.underlying136 hj hsh (by kernel_rfl)]
  simp only [Result.andThen]
  rw [Oper.upon_value]
  go_wp2
  go_end0
  exact ⟨rfl, rfl⟩
theorem copyCheck_at (B b : Nat) (bs : List Value) (w : World) (h : Lib.IsBuilder 138 5 B b bs w) : Calls Tryz.prog 118 #[.pointer (some ⟨b, 0, none⟩)] w fun e w' => e = .returned (.tuple #[]) ∧ (Lib.BuilderAt 138 5 B b (.pointer (some ⟨b, 0, none⟩)) bs w' ∧ Below B w w') := by
  rcases h with h | h
  · refine (copyFresh b w h.cell0 h.shape h.frozen0).mono ?_
    rintro e w' ⟨rfl, rfl⟩
    exact ⟨rfl, h.used _, (Below.refl B w).setCell (p := ⟨b, 0, none⟩) h.1 _⟩
  · refine (copyUsed b w h.cell0).mono ?_
    rintro e w' ⟨rfl, rfl⟩
    exact ⟨rfl, h, Below.refl B _⟩
set_option maxHeartbeats 1000000 in
set_option maxRecDepth 100000 in
theorem writeString_at (B b : Nat) (bs : List Value) (s : ByteArray) (w : World) (h : Lib.IsBuilder 138 5 B b bs w) (hlen : bs.length + s.size ≤ 140737488355328) (hBw : B ≤ w.heap.size) :
    Calls Tryz.prog 80 #[.pointer (some ⟨b, 0, none⟩), .string s] w fun e w' => e = .returned (.tuple #[.int .i64 s.size, .nilIface]) ∧ (Lib.IsBuilder 138 5 B b (bs ++ Lib.strCells s) w' ∧ Below B w w') := by
  obtain ⟨i0, hi, hz0, hz1, hz2⟩ := info5p
  have HC := hide (copyCheck_at B b bs w h)
  clear h
  go_enter Tryz.func80, Tryz.ntmps80
  go_wp2_with fail
  refine HC.out.mono ?_
  rintro e w1 ⟨rfl, h1, hb1⟩
  obtain ⟨hB, v, hbk, hown, hne⟩ := h1
  have c0 : w1.cell? ⟨b, 0, none⟩ = some (.pointer (some ⟨b, 0, none⟩)) := by rw [Lib.cell_of_heap hbk]; rfl
  have c1 : w1.cell? ⟨b, 1, none⟩ = some v := by rw [Lib.cell_of_heap hbk]; rfl
  have HB1 := hide hb1
  have HBK := hide hbk
  have HNE := hide hne
  have HOW := hide hown
  clear hb1 hbk hne hown HC
  go_wp2_with (at_builtin; refine Lib.wpList_append_own_string _ rfl _ _ 35 9 rfl B 5 i0 Tryz.underlying35 Tryz.underlying9 hi hz0 hz1 hz2 _ _ _ rfl HOW.out s rfl ?c3 ?c4 ?c5 ?_)
  case c3 => unfold maxLen; omega
  case c4 => omega
  case c5 => have := HB1.out.size; omega
  intro v' w2 hown' hgrow _
  have hlt : b < w1.heap.size := lt_of_some HBK.out
  have hb2 : w2.heap[b]? = some (.cells #[.pointer (some ⟨b, 0, none⟩), v] 138 (0, 0)) := by
    rw [hgrow.block b hlt (fun e => HNE.out e.symm)]
    exact HBK.out
  have d0 : w2.cell? ⟨b, 0, none⟩ = some (.pointer (some ⟨b, 0, none⟩)) := by rw [Lib.cell_of_heap hb2]; rfl
  have d1 : w2.cell? ⟨b, 1, none⟩ = some v := by rw [Lib.cell_of_heap hb2]; rfl
  have f1 : w2.frozen? ⟨b, 1, none⟩ = false := Lib.frozen_of_heap hb2 1
  obtain ⟨ao, n', cap, rfl⟩ : ∃ ao n' cap, v' = .slice ao n' cap := by
    rcases hown'.2 with ⟨hv, _⟩ | ⟨g, cap, cur, hv, _⟩
    · exact ⟨_, _, _, hv⟩
    · exact ⟨_, _, _, hv⟩
  have HO2 := hide hown'
  have HGR := hide hgrow
  have HB2 := hide hb2
  clear hown' hgrow hb2 hlt
  go_wp2
  go_ret2
  refine ⟨rfl, Or.inr ?_, ?_⟩
  · exact Lib.BuilderAt.put (T := 138) (e := 5) hB HB2.out (bs' := bs ++ Lib.strCells s) (by simpa [Lib.strCells_length] using HO2.out) (by decide)
  · exact (HB1.out.grown HGR.out (by have := HB1.out.size; omega) (fun k hk => (HOW.out.lt k hk).1)).setCell (p := ⟨b, 1, none⟩) hB _
end Go.Proofs.YtccoddmdlbdfjaaGreatDoor

set_option linter.unusedSimpArgs false
set_option linter.unusedVariables false
namespace Go.Proofs.YtccoddmdlbdfjaaGreatDoor
open Go.RowKit

/-- What a writer answers: the bytes, or that it may not be. -/
def Wrote (p : List Nat × Nat) (w : World) (e : Ending) (w' : World) : Prop := ∃ a c, e = .returned (.tuple #[.slice a p.1.length c, .int .i64 (p.2 : Nat)]) ∧ Src w' a p.1.length c p.1 ∧ Below w.heap.size w w'
theorem strCells_byt (s : ByteArray) : Lib.strCells s = nums .u8 (byt s) := by
  unfold Lib.strCells nums byt
  rw [List.map_map]; rfl
theorem byteCells_nums (l : List Nat) (h : ∀ x ∈ l, x < 256) : Lib.byteCells (l.map UInt8.ofNat) = nums .u8 l := by
  have := strCells_byt (strN l)
  rw [byt_strN l h] at this
  rw [← this]; rfl
theorem conv_src (t : ByteArray) (w : World) (h : t.size ≤ maxLen) : ∃ cap, ∃ w', (convert 9 35 (.string t)).run Tryz.prog w = .ok (.slice (some ⟨w.heap.size, 0, none⟩) t.size cap) w' ∧ Src w' (some ⟨w.heap.size, 0, none⟩) t.size cap (byt t) ∧ Below w.heap.size w w' := by
  have hr := Lib.run_convert_string_bytes (P := Tryz.prog) w 9 35 5 t Tryz.underlying9 Tryz.underlying35 Tryz.underlying5
  obtain ⟨cap, w', h1, h2, h3, h4⟩ := conv_bytes t w
  have e := hr.symm.trans h1
  simp only [Result.ok.injEq, Value.slice.injEq] at e
  obtain ⟨⟨_, _, e1⟩, e2⟩ := e
  refine ⟨cap, w', h1, ?_, h3⟩
  have hm : cap ≤ maxLen := by rw [← e1]; exact grownCap_le_maxLen _ _ _ _ h
  have := h4.src (cap := cap) (by rw [byt_length]; exact h2) hm (byt_lt t)
  rwa [byt_length] at this
theorem all_snoc (fs : List Fd) (k : Nat) (hk : k < fs.length) (h : (fs.take k).all okF = true) (h2 : okF (fs.getD k ([], [])) = true) : (fs.take (k + 1)).all okF = true := by
  rw [ftake_snoc fs k hk, List.all_append, h]; simpa using h2
theorem all_nokF (fs : List Fd) (k : Nat) (hk : k < fs.length) (h : okF (fs.getD k ([], [])) = false) : fs.all okF = false := by
  rw [List.all_eq_false]
  exact ⟨fs.getD k ([], []), getD_mem hk, by simpa using h⟩
theorem fla_snoc (L : List Nat) (fs : List Fd) (k : Nat) (hk : k < fs.length) : fla (L :: (fs.take (k + 1)).map fline) = fla (L :: (fs.take k).map fline) ++ ((fs.getD k ([], [])).1 ++ ([58, 32] ++ ((fs.getD k ([], [])).2 ++ [13, 10]))) := by
  rw [ftake_snoc fs k hk, List.map_append, ← List.cons_append, fla_app]
  simp [fla, fline]
theorem bld_below {T e : TypeId} {B b : Nat} {bs : List Value} {w w' : World} (h : Lib.IsBuilder T e B b bs w) (k : Below w.heap.size w w') : Lib.IsBuilder T e B b bs w' := by
  have key : ∀ p, Lib.BuilderAt T e B b p bs w → Lib.BuilderAt T e B b p bs w' := by
    rintro p ⟨hB, v, hb, hown, hne⟩
    refine ⟨hB, v, (k.block b (lt_of_some hb)).trans hb, ⟨hown.1, ?_⟩, hne⟩
    rcases hown.2 with h0 | ⟨x, cap, cur, hv, hx, hh, hrest⟩
    · exact Or.inl h0
    · exact Or.inr ⟨x, cap, cur, hv, hx, (k.block x (lt_of_some hh)).trans hh, hrest⟩
  rcases h with h | h
  · exact Or.inl (key _ h)
  · exact Or.inr (key _ h)
theorem fl_lt (ls : List (List Nat)) (h : ∀ l ∈ ls, ∀ y ∈ l, y < 256) : ∀ y ∈ fl ls, y < 256 := by
  induction ls with
  | nil => intro y hy; simp [fl_nil] at hy; omega
  | cons x r ih =>
    intro y hy
    rw [fl_cons] at hy
    simp only [List.mem_append, List.mem_cons] at hy
    rcases hy with hy | rfl | rfl | hy
    · exact h x (by simp) y hy
    · omega
    · omega
    · exact ih (fun l hl => h l (by simp [hl])) y hy
set_option maxRecDepth 100000 in
set_option maxHeartbeats 4000000 in
theorem put_at (x : ByteArray) (a : Option Addr) (n c : Nat) (fs : List Fd) (w : World) (h : SrcF w a n c fs) (hfm : ∀ f ∈ fs, f.1.length ≤ maxLen ∧ f.2.length ≤ maxLen) (hx : x.size ≤ 100000) : Calls Tryz.prog 78 #[.string x, .slice a n c] w (Wrote (put (byt x) fs) w) := by
  have hcl := h.hcap
  have hmx := h.hmax
  unfold maxLen at hmx
  have H := hide h
  have HFM := hide hfm
  have HNL := hide h.hlen
  clear h hfm
  go_enter Tryz.func78, Tryz.ntmps78
  go_wp2_with fail
  go_loopw [13] (fun i wr => ∃ k : Nat, k ≤ n ∧ i = .int .i64 k ∧ Hid ((fs.take k).all okF = true ∧ Below w.heap.size w wr)) (fun i _ => n - (intOf i).toNat)
  case atStart => exact ⟨0, by omega, rfl, rfl, Below.refl _ _⟩
  case round =>
    obtain ⟨k, hk, rfl, HI⟩ := hrel
    by_cases hkn : k < n
    · have hdk : decide ((k : Int) < (n : Int)) = true := decide_eq_true (by omega)
      have s1 := H.out.keep (w' := wr) (fun h0 b o e => HI.out.2.block b (H.out.lt h0 e)) HI.out.2.size
      obtain ⟨b, o, rfl, c0, c1⟩ := s1.at_ hkn
      rw [Nat.mul_comm 2 k] at c0 c1
      have hkl : k < fs.length := by rw [HNL.out]; exact hkn
      have hmem : fs.getD k ([], []) ∈ fs := getD_mem hkl
      have hby := H.out.byte _ hmem
      have hfl := HFM.out _ hmem
      have HSN : Hid (okF (fs.getD k ([], [])) = true → (fs.take (k + 1)).all okF = true) := fun h => all_snoc fs k hkl HI.out.1 h
      have HNO : Hid (okF (fs.getD k ([], [])) = false → put (byt x) fs = ([], 2)) := fun h => by unfold put; rw [if_pos (all_nokF fs k hkl h)]
      obtain ⟨f, hf⟩ : ∃ f, f = fs.getD k ([], []) := ⟨_, rfl⟩
      rw [← hf] at c0 c1 hby hfl HSN HNO
      obtain ⟨p, q⟩ := f
      simp only at c0 c1 hby hfl
      have HTK : Hid (∀ W, Calls Tryz.prog 92 #[.string (strN p)] W fun e w' => e = .returned (.bool (tok p)) ∧ Below W.heap.size W w') := fun W => by
        have := token_at (strN p) W (by rw [strN_size]; exact hfl.1)
        rw [byt_strN p hby.1] at this; exact this
      have HVL : Hid (∀ W, Calls Tryz.prog 115 #[.string (strN q)] W fun e w' => e = .returned (.bool (value q)) ∧ Below W.heap.size W w') := fun W => by
        have := value_at (strN q) W (by rw [strN_size]; exact hfl.2)
        rw [byt_strN q hby.2] at this; exact this
      have HOK : Hid (okF (p, q) = (tok p && value q)) := rfl
      obtain ⟨P, hP⟩ : ∃ x, x = strN p := ⟨_, rfl⟩
      obtain ⟨R, hR⟩ : ∃ x, x = strN q := ⟨_, rfl⟩
      obtain ⟨tp, htp⟩ : ∃ x, x = tok p := ⟨_, rfl⟩
      obtain ⟨vq, hvq⟩ : ∃ x, x = value q := ⟨_, rfl⟩
      rw [← hP] at c0 HTK
      rw [← hR] at c1 HVL
      rw [← htp] at HTK HOK
      rw [← hvq] at HVL HOK
      obtain ⟨G, hG⟩ : ∃ G, G = wr.heap.size := ⟨_, rfl⟩
      obtain ⟨W1, hW1⟩ : ∃ W, W = wr.alloc (.cells #[.string P, .string R] 68) := ⟨_, rfl⟩
      have b1 : Below wr.heap.size wr W1 := by rw [hW1]; exact (Below.refl _ _).alloc (Nat.le_refl _) _
      have g1 : W1.heap[G]? = some (.cells #[.string P, .string R] 68) := by rw [hW1, hG]; exact alloc_new _ _
      have B1 := hide (HI.out.2.trans (b1.mono HI.out.2.size))
      have G1 := hide g1
      have HW1 : Hid (wr.alloc (.cells #[.string P, .string R] 68) = W1) := hW1.symm
      have HG := hide hG.symm
      have e0 : W1.cell? ⟨G, 0, none⟩ = some (.string P) := by simp [World.cell?, g1]
      clear hkl hmem hby hfl hf hP hR htp hvq s1 hG hW1 b1 g1
      go_wp2_with (first | (rw [HW1.out, HG.out]))
      try (rw [HW1.out, HG.out]; go_wp2_with fail)
      refine (HTK.out _).mono ?_
      rintro e w2 ⟨rfl, hb2⟩
      have B2 := hide (B1.out.trans (hb2.mono B1.out.size))
      have e1 : w2.cell? ⟨G, 1, none⟩ = some (.string R) := by simp [World.cell?, keepB hb2 G1.out]
      clear hb2 HTK e0 c0 c1 B1 G1
      cases tp with
      | false =>
        have HR := hide (HNO.out (by rw [HOK.out]; rfl))
        clear HNO HSN HOK
        go_wp2_with fail
        go_ret2
        rw [HR.out]
        exact ⟨none, 0, rfl, Src.nilS _, B2.out⟩
      | true =>
        go_wp2_with fail
        refine (HVL.out _).mono ?_
        rintro e w3 ⟨rfl, hb3⟩
        have B3 := hide (B2.out.trans (hb3.mono B2.out.size))
        clear hb3 B2
        cases vq with
        | false =>
          have HR := hide (HNO.out (by rw [HOK.out]; rfl))
          clear HNO HSN HOK
          go_wp2_with fail
          go_ret2
          rw [HR.out]
          exact ⟨none, 0, rfl, Src.nilS _, B3.out⟩
        | true =>
          have HR := hide (HSN.out (by rw [HOK.out]; rfl))
          clear HNO HSN HOK
          go_wp2_with fail
          go_roundw
          case rel => exact ⟨k + 1, by omega, by go_num, HR.out, B3.out⟩
          case measure => simp [intOf]; omega
    · have hdk : decide ((k : Int) < (n : Int)) = false := decide_eq_false (by omega)
      have hall := HI.out.1
      rw [List.take_of_length_le (by rw [HNL.out]; omega)] at hall
      have HAL := hide hall
      clear hall
      by_cases h64 : 64 < n
      · have q64 : decide ((64 : Int) < (n : Int)) = true := decide_eq_true (by omega)
        have HP : Hid (put (byt x) fs = ([], 3)) := by show _ = _; unfold put; rw [if_neg (by rw [HAL.out]; simp), if_pos (Or.inl (by rw [HNL.out]; exact h64))]
        go_wp2_with fail
        go_ret2
        rw [HP.out]
        exact ⟨none, 0, rfl, Src.nilS _, HI.out.2⟩
      · have q64 : decide ((64 : Int) < (n : Int)) = false := decide_eq_false (by omega)
        have q64' : decide (64 < n) = false := decide_eq_false (by omega)
        have n1 : ¬ (9223372036854775807 < x.size + 2) := by omega
        obtain ⟨bb, hbb⟩ : ∃ b, b = wr.heap.size := ⟨_, rfl⟩
        obtain ⟨W1, hW1⟩ : ∃ W, W = wr.alloc (.cells #[.pointer none, .slice none 0 0] 138) := ⟨_, rfl⟩
        have b1 : Below w.heap.size w W1 := by rw [hW1]; exact HI.out.2.alloc (by have := HI.out.2.size; omega) _
        have hbld : Lib.IsBuilder 138 5 w.heap.size bb [] W1 := Or.inl ⟨by rw [hbb]; exact HI.out.2.size, .slice none 0 0, by rw [hW1, hbb]; exact alloc_new _ _, ⟨rfl, Or.inl ⟨rfl, rfl⟩⟩, by simp [Value.ownBlock]⟩
        have HW1 : Hid (wr.alloc (.cells #[.pointer none, .slice none 0 0] 138) = W1) := hW1.symm
        have HBB := hide hbb.symm
        obtain ⟨X, hX⟩ : ∃ X, X = x ++ ⟨#[13, 10]⟩ := ⟨_, rfl⟩
        have hXs : X.size = x.size + 2 := by rw [hX]; exact ByteArray.size_append
        have HS1 := hide (writeString_at w.heap.size bb [] X W1 hbld (by simp; omega) b1.size)
        have HX : Hid (x ++ ⟨#[13, 10]⟩ = X) := hX.symm
        have B1 := hide b1
        clear hbb hW1 b1 hbld hX
        go_wp2_with (first | (rw [HW1.out, HBB.out]))
        try (rw [HW1.out, HBB.out]; go_wp2_with fail)
        rw [HX.out]
        refine HS1.out.mono ?_
        rintro e w2 ⟨rfl, hb2, k2⟩
        have B2 := hide (B1.out.trans k2)
        have HB2 : Hid (Lib.IsBuilder 138 5 w.heap.size bb (nums .u8 (fla (byt x :: (fs.take 0).map fline))) w2) := by
          have e1 : nums .u8 (fla (byt x :: (fs.take 0).map fline)) = [] ++ Lib.strCells X := by
            rw [strCells_byt, ← HX.out, List.nil_append]
            congr 1
            simp [fla, byt]
          show Lib.IsBuilder _ _ _ _ _ _
          rw [e1]; exact hb2
        clear hb2 k2 HS1 B1
        go_wp2_with fail
        have hn64 : n ≤ 64 := by omega
        have HSM : Hid (∀ f ∈ fs, f.1.length ≤ 64 ∧ f.2.length ≤ 4096) := fun f hf => by
          have h1 := List.all_eq_true.1 HAL.out f hf
          unfold okF at h1
          rw [Bool.and_eq_true] at h1
          exact ⟨(tok_parts h1.1).2.1, (value_parts h1.2).1⟩
        have HXL : Hid ((byt x).length ≤ 100000) := by show _ ≤ _; rw [byt_length]; exact hx
        clear HFM hkn hdk q64 q64' h64 n1 hXs HX HW1 HBB HI
        go_loopw [36] (fun i wr => ∃ j : Nat, j ≤ n ∧ i = .int .i64 j ∧ Hid (Lib.IsBuilder 138 5 w.heap.size bb (nums .u8 (fla (byt x :: (fs.take j).map fline))) wr ∧ (fla (byt x :: (fs.take j).map fline)).length ≤ 100002 + j * 5000 ∧ Below w.heap.size w wr)) (fun i _ => n - (intOf i).toNat)
        case atStart => exact ⟨0, by omega, rfl, HB2.out, by simp [fla]; exact HXL.out, B2.out⟩
        case round =>
          obtain ⟨j, hj, rfl, HI⟩ := hrel
          by_cases hjn : j < n
          · have hdk : decide ((j : Int) < (n : Int)) = true := decide_eq_true (by omega)
            have s1 := H.out.keep (w' := wr) (fun h0 b o e => HI.out.2.2.block b (H.out.lt h0 e)) HI.out.2.2.size
            obtain ⟨b, o, rfl, c0, c1⟩ := s1.at_ hjn
            rw [Nat.mul_comm 2 j] at c0 c1
            have hjl : j < fs.length := by rw [HNL.out]; exact hjn
            have hmem : fs.getD j ([], []) ∈ fs := getD_mem hjl
            have hby := H.out.byte _ hmem
            have hfl := HSM.out _ hmem
            have HSN := hide (fla_snoc (byt x) fs j hjl)
            obtain ⟨f, hf⟩ : ∃ f, f = fs.getD j ([], []) := ⟨_, rfl⟩
            rw [← hf] at c0 c1 hby hfl HSN
            obtain ⟨p, q⟩ := f
            simp only at c0 c1 hby hfl HSN
            have hpb := byt_strN p hby.1
            have hqb := byt_strN q hby.2
            have hps := strN_size p
            have hqs := strN_size q
            obtain ⟨P, hP⟩ : ∃ x, x = strN p := ⟨_, rfl⟩
            obtain ⟨R, hR⟩ : ∃ x, x = strN q := ⟨_, rfl⟩
            rw [← hP] at c0 hpb hps
            rw [← hR] at c1 hqb hqs
            obtain ⟨Y, hY⟩ : ∃ Y, Y = P ++ ⟨#[58, 32]⟩ ++ R ++ ⟨#[13, 10]⟩ := ⟨_, rfl⟩
            have hYb : byt Y = p ++ ([58, 32] ++ (q ++ [13, 10])) := by
              have e1 : ∀ (A B : ByteArray), byt (A ++ B) = byt A ++ byt B := fun A B => by simp [byt]
              rw [hY, e1, e1, e1, hpb, hqb]
              simp [byt]
            have hYs : Y.size ≤ 4164 := by
              rw [← byt_length, hYb]; simp; omega
            have n1 : ¬ (9223372036854775807 < P.size + 2) := by omega
            have n2 : ¬ (9223372036854775807 < P.size + 2 + R.size) := by omega
            have n3 : ¬ (9223372036854775807 < P.size + 2 + R.size + 2) := by omega
            have HY : Hid (P ++ ⟨#[58, 32]⟩ ++ R ++ ⟨#[13, 10]⟩ = Y) := hY.symm
            obtain ⟨G, hG⟩ : ∃ G, G = wr.heap.size := ⟨_, rfl⟩
            obtain ⟨W1, hW1⟩ : ∃ W, W = wr.alloc (.cells #[.string P, .string R] 68) := ⟨_, rfl⟩
            have b1 : Below wr.heap.size wr W1 := by rw [hW1]; exact (Below.refl _ _).alloc (Nat.le_refl _) _
            have g1 : W1.heap[G]? = some (.cells #[.string P, .string R] 68) := by rw [hW1, hG]; exact alloc_new _ _
            have B1 := hide (HI.out.2.2.trans (b1.mono HI.out.2.2.size))
            have HW1 : Hid (wr.alloc (.cells #[.string P, .string R] 68) = W1) := hW1.symm
            have HG := hide hG.symm
            have e0 : W1.cell? ⟨G, 0, none⟩ = some (.string P) := by simp [World.cell?, g1]
            have e1 : W1.cell? ⟨G, 1, none⟩ = some (.string R) := by simp [World.cell?, g1]
            have hbld := bld_below HI.out.1 b1
            have HS1 := hide (writeString_at w.heap.size bb _ Y W1 hbld (by rw [nums_length]; have := HI.out.2.1; omega) B1.out.size)
            rw [strCells_byt, hYb, ← nums_append, ← HSN.out] at HS1
            have HLN : Hid ((fla (byt x :: (fs.take (j + 1)).map fline)).length ≤ 100002 + (j + 1) * 5000) := by
              show _ ≤ _
              have h2 := HI.out.2.1
              rw [HSN.out, List.length_append, ← hYb, byt_length]
              omega
            clear hjl hmem hby hfl hf hP hR hpb hqb hps hqs hYb hYs hY s1 hG hW1 b1 g1 hbld
            go_wp2_with (first | (rw [HW1.out, HG.out]))
            try (rw [HW1.out, HG.out]; go_wp2_with fail)
            rw [HY.out]
            refine HS1.out.mono ?_
            rintro e w3 ⟨rfl, hb3, k3⟩
            have B3 := hide (B1.out.trans k3)
            have HB3 := hide hb3
            clear hb3 k3 HS1 B1
            go_wp2_with fail
            go_roundw
            case rel => exact ⟨j + 1, by omega, by go_num, HB3.out, HLN.out, B3.out⟩
            case measure => simp [intOf]; omega
          · have hdk : decide ((j : Int) < (n : Int)) = false := decide_eq_false (by omega)
            obtain ⟨hI1, hI2, hI3⟩ := HI.out
            rw [List.take_of_length_le (by rw [HNL.out]; omega)] at hI1 hI2
            have HS1 := hide (writeString_at w.heap.size bb _ ⟨#[13, 10]⟩ wr hI1 (by rw [nums_length]; show _ + 2 ≤ _; omega) hI3.size)
            rw [strCells_byt, ← nums_append, show byt ⟨#[13, 10]⟩ = [13, 10] from rfl] at HS1
            have HFL : Hid (fla (byt x :: fs.map fline) ++ [13, 10] = fl (byt x :: fs.map fline)) := rfl
            rw [HFL.out] at HS1
            have B3 := hide hI3
            clear hI1 hI2 hI3 HI
            go_wp2_with fail
            refine HS1.out.mono ?_
            rintro e w3 ⟨rfl, hb3, k3⟩
            have B4 := hide (B3.out.trans k3)
            have HLE := hide (Tryz.Builder_Len w.heap.size bb _ w3 hb3)
            rw [nums_length] at HLE
            have HPT : Hid (put (byt x) fs = if 8192 < tot (byt x :: fs.map fline) then ([], 3) else (fl (byt x :: fs.map fline), 0)) := by
              show _ = _
              unfold put
              rw [if_neg (by rw [HAL.out]; simp)]
              have : ¬ 64 < fs.length := by rw [HNL.out]; omega
              by_cases h8 : 8192 < tot (byt x :: fs.map fline)
              · rw [if_pos (Or.inr h8), if_pos h8]
              · rw [if_neg (by omega), if_neg h8]
            have hbyt : ∀ y ∈ fl (byt x :: fs.map fline), y < 256 := by
              refine fl_lt _ ?_
              intro l hl y hy
              rcases List.mem_cons.1 hl with rfl | hl
              · exact byt_lt x y hy
              · obtain ⟨f, hf, rfl⟩ := List.mem_map.1 hl
                have hbf := H.out.byte f hf
                unfold fline at hy
                simp only [List.mem_append, List.mem_cons] at hy
                rcases hy with hy | rfl | rfl | hy
                · exact hbf.1 y hy
                · omega
                · omega
                · exact hbf.2 y hy
            have hb3' : Lib.IsBuilder 138 5 w.heap.size bb (Lib.byteCells ((fl (byt x :: fs.map fline)).map UInt8.ofNat)) w3 := by rw [byteCells_nums _ hbyt]; exact hb3
            have HST := hide (Tryz.Builder_String_any w.heap.size bb _ w3 hb3' B4.out.size)
            have hst : (⟨((fl (byt x :: fs.map fline)).map UInt8.ofNat).toArray⟩ : ByteArray) = strN (fl (byt x :: fs.map fline)) := rfl
            rw [hst] at HST
            have HBY := hide (byt_strN _ hbyt)
            obtain ⟨FL, hFL⟩ : ∃ F, F = fl (byt x :: fs.map fline) := ⟨_, rfl⟩
            have htot : tot (byt x :: fs.map fline) = FL.length := by rw [hFL]; rfl
            rw [htot, ← hFL] at HPT
            rw [← hFL] at HLE HST HBY
            clear hb3 k3 hb3' hst hbyt hFL htot HS1 HFL
            go_wp2_with fail
            refine HLE.out.mono ?_
            rintro e w4 ⟨rfl, rfl⟩
            by_cases h8 : 8192 < FL.length
            · have q8 : decide ((8192 : Int) < (FL.length : Int)) = true := decide_eq_true (by omega)
              have q8' : decide (8192 < FL.length) = true := decide_eq_true h8
              rw [if_pos h8] at HPT
              go_wp2_with fail
              go_ret2
              rw [HPT.out]
              exact ⟨none, 0, rfl, Src.nilS _, B4.out⟩
            · have q8 : decide ((8192 : Int) < (FL.length : Int)) = false := decide_eq_false (by omega)
              have q8' : decide (8192 < FL.length) = false := decide_eq_false h8
              rw [if_neg h8] at HPT
              go_wp2_with fail
              refine HST.out.mono ?_
              rintro e w5 ⟨rfl, k5⟩
              obtain ⟨cap, W6, hcv, hs6, hb6⟩ := conv_src (strN FL) w5 (by rw [strN_size]; unfold maxLen; omega)
              rw [HBY.out, strN_size] at hs6
              have b5 := B4.out.trans k5
              have B6 := hide (b5.trans (hb6.mono b5.size))
              have S6 := hide hs6
              rw [strN_size] at hcv
              clear hs6 hb6 b5 k5 HST HLE
              go_wp2_with fail
              go_ret2
              rw [HPT.out]
              exact ⟨_, _, rfl, S6.out, B6.out⟩
end Go.Proofs.YtccoddmdlbdfjaaGreatDoor

set_option linter.unusedSimpArgs false
set_option linter.unusedVariables false
namespace Go.Proofs.YtccoddmdlbdfjaaGreatDoor
open Go.RowKit

/-- The target of a request, if it has one. -/
def tgt (m D p : List Nat) : Option (List Nat) := if D = [] then none else if m = conn then (if p = [] then some D else none) else if path p = true then some (sch ++ (D ++ p)) else none
/-- What is written of a request. -/
def putQ (m D p : List Nat) (fs : List Fd) : List Nat × Nat := match tgt m D p with
  | none => ([], 2)
  | some t => if tok m = true then put (m ++ 32 :: (t ++ 32 :: v11)) fs else ([], 2)
/-- What is written of a reply. -/
def putY (s : Int) (r : List Nat) (fs : List Fd) : List Nat × Nat := if (100 ≤ s ∧ s ≤ 599) ∧ reason r = true then put (v11 ++ 32 :: (dec s.toNat ++ 32 :: r)) fs else ([], 2)
theorem det_lt (a : Ad) (n : List Nat) (p : Int) (hn : ∀ x ∈ n, x < 256) : ∀ x ∈ det a n p, x < 256 := by
  have hot_lt : ∀ x ∈ hot a n, x < 256 := by
    unfold hot
    split
    · split
      · intro x hx
        rcases adt_mem a x hx with h | h <;> omega
      · exact hn
    · intro x hx; simp at hx
  unfold det
  split
  · intro x hx
    simp only [List.mem_append, List.mem_cons] at hx
    rcases hx with hx | rfl | hx
    · exact hot_lt x hx
    · omega
    · exact dec_lt _ x hx
  · intro x hx; simp at hx
theorem tgt_parts {m D p x : List Nat} (h : tgt m D p = some x) (hD : D.length ≤ 259) (hDl : ∀ y ∈ D, y < 256) (hp : ∀ y ∈ p, y < 256) : x.length ≤ 3000 ∧ ∀ y ∈ x, y < 256 := by
  unfold tgt at h
  split at h
  · cases h
  · split at h
    · split at h
      · cases h; exact ⟨by omega, hDl⟩
      · cases h
    · split at h
      · rename_i hpp
        cases h
        have := (path_parts hpp).2.1
        refine ⟨by simp [sch]; omega, fun y hy => ?_⟩
        simp only [List.mem_append] at hy
        rcases hy with hy | hy | hy
        · have : ∀ y ∈ sch, y < 256 := by decide
          exact this y hy
        · exact hDl y hy
        · exact hp y hy
      · cases h
theorem byt_app (A B : ByteArray) : byt (A ++ B) = byt A ++ byt B := by simp [byt]
theorem det_len (a : Ad) (n : List Nat) (p : Int) (ha : a.ok) : (det a n p).length ≤ 259 := by
  unfold det
  split
  · rename_i hc
    have h1 := hot_len a n ha
    have h2 := dec_len (n := p.toNat) (by omega)
    simp; omega
  · simp
set_option maxRecDepth 100000 in
set_option maxHeartbeats 4000000 in
theorem putReply_at (s : Int) (r : ByteArray) (x : Option Addr) (n c : Nat) (fs : List Fd) (w : World) (hs : SrcF w x n c fs) (hfm : ∀ f ∈ fs, f.1.length ≤ maxLen ∧ f.2.length ≤ maxLen) (hP : Pow w) :
    Calls Tryz.prog 47 #[.agg #[.int .i64 s, .string r, .slice x n c]] w (Wrote (putY s (byt r) fs) w) := by
  obtain ⟨G, hG⟩ : ∃ G, G = w.heap.size := ⟨_, rfl⟩
  obtain ⟨W1, hW1⟩ : ∃ W, W = w.alloc (.cells #[.int .i64 s, .string r, .slice x n c] 73) := ⟨_, rfl⟩
  have b1 : Below w.heap.size w W1 := by rw [hW1]; exact (Below.refl _ _).alloc (Nat.le_refl _) _
  have g1 : W1.heap[G]? = some (.cells #[.int .i64 s, .string r, .slice x n c] 73) := by rw [hW1, hG]; exact alloc_new _ _
  have HW1 : Hid (w.alloc (.cells #[.int .i64 s, .string r, .slice x n c] 73) = W1) := hW1.symm
  have HG := hide hG.symm
  have G1 := hide g1
  have B1 := hide b1
  have HS := hide hs
  have HFM := hide hfm
  have HP := hide (hP.below b1)
  have HPY : Hid (putY s (byt r) fs = if (100 ≤ s ∧ s ≤ 599) ∧ reason (byt r) = true then put (v11 ++ 32 :: (dec s.toNat ++ 32 :: byt r)) fs else ([], 2)) := rfl
  have c0 : W1.cell? ⟨G, 0, none⟩ = some (.int .i64 s) := by simp [World.cell?, g1]
  have c1 : W1.cell? ⟨G, 1, none⟩ = some (.string r) := by simp [World.cell?, g1]
  have HST := hide (isStatus_at s W1)
  clear hW1 hG g1 b1 hP hs hfm
  go_enter Tryz.func47, Tryz.ntmps47
  go_wp2_with (first | (rw [HW1.out, HG.out]))
  try (rw [HW1.out, HG.out]; go_wp2_with fail)
  refine HST.out.mono ?_
  rintro e w2 ⟨rfl, rfl⟩
  by_cases h1 : 100 ≤ s ∧ s ≤ 599
  · obtain ⟨k, rfl⟩ : ∃ k : Nat, s = k := ⟨s.toNat, by omega⟩
    rw [show (decide (100 ≤ (k : Int)) && decide ((k : Int) ≤ 599)) = true by simp; omega]
    have HRE := hide (isReason_at r W1)
    go_wp2_with fail
    refine HRE.out.mono ?_
    rintro e w3 ⟨rfl, k3⟩
    have B3 := hide (B1.out.trans (k3.mono B1.out.size))
    have g3 := keepB k3 G1.out
    have f0 : w3.cell? ⟨G, 0, none⟩ = some (.int .i64 (k : Nat)) := by simp [World.cell?, g3]
    have f1 : w3.cell? ⟨G, 1, none⟩ = some (.string r) := by simp [World.cell?, g3]
    have f2 : w3.cell? ⟨G, 2, none⟩ = some (.slice x n c) := by simp [World.cell?, g3]
    have G3 := hide g3
    have HIT := hide (itoa_at k w3 (by omega) (HP.out.below k3))
    have P3 := hide (HP.out.below k3)
    clear k3 g3 HRE HST B1 G1 HP c0 c1
    cases hre : reason (byt r) with
    | false =>
      rw [hre, if_neg (by simp)] at HPY
      clear hre
      go_wp2_with fail
      go_ret2
      rw [HPY.out]
      exact ⟨none, 0, rfl, Src.nilS _, B3.out⟩
    | true =>
      rw [hre, if_pos ⟨h1, rfl⟩] at HPY
      have hrl := (reason_parts hre).1
      rw [byt_length] at hrl
      clear hre
      have hdx := dec_len (n := k) (by omega)
      obtain ⟨D, hD⟩ : ∃ D, D = strN (dec k) := ⟨_, rfl⟩
      have hDs : D.size ≤ 5 := by rw [hD, strN_size]; exact hdx
      have hDb : byt D = dec k := by rw [hD]; exact byt_strN _ (dec_lt k)
      have n1 : ¬ (9223372036854775807 < 9 + D.size) := by omega
      have n2 : ¬ (9223372036854775807 < 9 + D.size + 1) := by omega
      have n3 : ¬ (9223372036854775807 < 9 + D.size + 1 + r.size) := by omega
      obtain ⟨X, hX⟩ : ∃ X, X = (⟨#[72, 84, 84, 80, 47, 49, 46, 49, 32]⟩ : ByteArray) ++ D ++ ⟨#[32]⟩ ++ r := ⟨_, rfl⟩
      have hXb : byt X = v11 ++ 32 :: (dec k ++ 32 :: byt r) := by
        rw [hX, byt_app, byt_app, byt_app, hDb]
        simp [byt, v11]
      have hXs : X.size ≤ 100000 := by rw [← byt_length, hXb]; simp [v11]; rw [byt_length]; omega
      have HX : Hid ((⟨#[72, 84, 84, 80, 47, 49, 46, 49, 32]⟩ : ByteArray) ++ D ++ ⟨#[32]⟩ ++ r = X) := hX.symm
      have HPU : Hid (∀ W, SrcF W x n c fs → Calls Tryz.prog 78 #[.string X, .slice x n c] W (Wrote (put (v11 ++ 32 :: (dec k ++ 32 :: byt r)) fs) W)) := fun W hW => by rw [← hXb]; exact put_at X x n c fs W hW HFM.out hXs
      have HIT2 : Hid (∀ W, Pow W → Calls Tryz.prog 79 #[.int .i64 (k : Int)] W fun e w' => e = .returned (.string D) ∧ Below W.heap.size W w') := fun W hW => by rw [hD]; exact itoa_at k W (by omega) hW
      rw [Int.toNat_natCast] at HPY
      clear hD hX hXb hXs hDb hdx hDs HIT hrl
      go_wp2_with fail
      go_region_held3 (fun w' => w'.cell? ⟨G, 0, none⟩ = some (.int .i64 (k : Nat)) ∧ w'.cell? ⟨G, 1, none⟩ = some (.string r) ∧ w'.cell? ⟨G, 2, none⟩ = some (.slice x n c)) (go_keep) (first
        | (go_at_call 79; refine (HIT2.out _ (by exact P3.out)).mono ?_; rintro e wq ⟨rfl, hk⟩; have hk' : Below w3.heap.size w3 wq := ⟨hk.os, hk.tape, hk.output, hk.size, hk.block⟩; have q3 := keepB hk' G3.out; have r0 : wq.cell? ⟨G, 0, none⟩ = some (.int .i64 (k : Nat)) := by simp [World.cell?, q3]
           have r1 : wq.cell? ⟨G, 1, none⟩ = some (.string r) := by simp [World.cell?, q3]
           have r2 : wq.cell? ⟨G, 2, none⟩ = some (.slice x n c) := by simp [World.cell?, q3]
           have BQ := hide (B3.out.trans (hk'.mono B3.out.size)); have GQ := hide q3; clear hk hk' q3)
        | (go_at_call 78; rw [HX.out]; refine (HPU.out _ (HS.out.keep (fun h0 i o ei => BQ.out.block i (HS.out.lt h0 ei)) BQ.out.size)).mono ?_; rintro e ws ⟨ra, rc, rfl, hsr, hk⟩; have hk' : Below wq.heap.size wq ws := ⟨hk.os, hk.tape, hk.output, hk.size, hk.block⟩; have q3 := keepB hk' GQ.out; have s0 : ws.cell? ⟨G, 0, none⟩ = some (.int .i64 (k : Nat)) := by simp [World.cell?, q3]
           have s1 : ws.cell? ⟨G, 1, none⟩ = some (.string r) := by simp [World.cell?, q3]
           have s2 : ws.cell? ⟨G, 2, none⟩ = some (.slice x n c) := by simp [World.cell?, q3]
           have SS := hide hsr; have BS := hide (BQ.out.trans (hk'.mono BQ.out.size)); clear hk hk' q3 hsr))
      all_goals go_wp2_with fail
      all_goals go_ret2
      all_goals rw [HPY.out]
      all_goals exact ⟨_, _, rfl, SS.out, BS.out⟩
  · rw [show (decide (100 ≤ s) && decide (s ≤ 599)) = false by rw [Bool.and_eq_false_iff, decide_eq_false_iff_not, decide_eq_false_iff_not]; omega]
    rw [if_neg (by intro h; exact h1 h.1)] at HPY
    go_wp2_with fail
    go_ret2
    rw [HPY.out]
    exact ⟨none, 0, rfl, Src.nilS _, B1.out⟩
end Go.Proofs.YtccoddmdlbdfjaaGreatDoor

set_option linter.unusedSimpArgs false
set_option linter.unusedVariables false
namespace Go.Proofs.YtccoddmdlbdfjaaGreatDoor

theorem jn_mem : ∀ (ps : List (List Nat)), ∀ x ∈ jn ps, x = 46 ∨ ∃ p ∈ ps, x ∈ p
  | [], x, h => by simp [jn] at h
  | [p], x, h => by simp [jn] at h; exact Or.inr ⟨p, by simp, h⟩
  | p :: q :: r, x, h => by
    simp only [jn, List.mem_append, List.mem_cons] at h
    rcases h with h | rfl | h
    · exact Or.inr ⟨p, by simp, h⟩
    · exact Or.inl rfl
    · rcases jn_mem (q :: r) x h with h | ⟨p', hp', hx⟩
      · exact Or.inl h
      · exact Or.inr ⟨p', by simp at hp' ⊢; right; exact hp', hx⟩
theorem lab_mem {p : List Nat} (h : isLab p) : ∀ x ∈ p, lb x = true := by
  intro x hx
  obtain ⟨i, hi, rfl⟩ := List.mem_iff_getElem.1 hx
  have := h.2.2 i hi
  unfold lbAt at this
  rw [Bool.and_eq_true] at this
  have h1 := this.1
  rwa [List.getD, List.getElem?_eq_getElem hi] at h1
theorem name_mem {l q : List Nat} (h : name l = (q, .ok)) : ∀ x ∈ l, x = 46 ∨ lb x = true := by
  intro x hx
  obtain ⟨_, h2, _⟩ := name_ok h
  rw [← jn_pcs l] at hx
  rcases jn_mem _ x hx with h | ⟨p, hp, hxp⟩
  · exact Or.inl h
  · exact Or.inr (lab_mem ((bLabsNone _ 0).1 h2 p hp) x hxp)
theorem lb_range {c : Nat} (h : lb c = true) : 33 ≤ c ∧ c ≤ 126 ∧ c ≠ 47 := by
  simp [lb, dig] at h; omega
theorem hot_mem (a : Ad) (n : List Nat) : ∀ x ∈ hot a n, 33 ≤ x ∧ x ≤ 126 ∧ x ≠ 47 := by
  unfold hot
  split
  · rename_i hc
    split
    · intro x hx
      rcases adt_mem a x hx with h | h <;> omega
    · rename_i hn
      intro x hx
      simp only [chk, Bool.or_eq_true, Bool.and_eq_true, decide_eq_true_eq] at hc
      rcases hc with hc | hc
      · exact absurd hc hn
      · rcases name_mem hc.1 x hx with h | h
        · omega
        · exact lb_range h
  · intro x hx; simp at hx
theorem det_isD {a : Ad} {n : List Nat} {p : Int} (ha : a.ok) (h : det a n p ≠ []) : IsD (det a n p) (([a.1, a.2.1, a.2.2.1, a.2.2.2], n), p.toNat) ∧ 1 ≤ p := by
  obtain ⟨h1, h2, h3⟩ := det_ne h
  refine ⟨⟨?_, ?_, dest_det a n p ha h1 h2 h3⟩, h2⟩
  · intro c hc
    unfold det at hc
    rw [if_pos ⟨h1, h2, h3⟩] at hc
    simp only [List.mem_append, List.mem_cons] at hc
    rcases hc with hc | rfl | hc
    · exact hot_mem a n c hc
    · omega
    · have := dec_all _ c hc; omega
  · unfold det
    rw [if_pos ⟨h1, h2, h3⟩]
    simp
theorem putQ_back {m p b : List Nat} {a : Ad} {n : List Nat} {q : Int} {fs : List Fd} (ha : a.ok) (h : putQ m (det a n q) p fs = (b, 0)) (more : List Nat) : request (b ++ more) = (((m, (([a.1, a.2.1, a.2.2.1, a.2.2.2], n), q.toNat), p), fs), b.length, .ok) ∧ b.length ≤ 8192 ∧ 1 ≤ q := by
  unfold putQ at h
  split at h
  · simp at h
  · rename_i t ht
    split at h
    · rename_i htok
      have h8 : b.length ≤ 8192 := by
        obtain ⟨_, _, h3, h4⟩ := put_ok h
        rw [h4]; exact h3
      unfold tgt at ht
      split at ht
      · cases ht
      · rename_i hD
        obtain ⟨hisD, hq⟩ := det_isD ha hD
        refine ⟨?_, h8, hq⟩
        split at ht
        · rename_i hm
          split at ht
          · rename_i hp
            cases ht
            subst hm hp
            have hmem : ∀ c ∈ det a n q, 33 ≤ c ∧ c ≤ 126 := fun c hc => ⟨(hisD.mem c hc).1, (hisD.mem c hc).2.1⟩
            exact request_back h (line_Ln htok hmem) ((rline_parts htok hmem).trans (targ_conn hisD.back)) more
          · cases ht
        · rename_i hm
          split at ht
          · rename_i hp
            cases ht
            have hmem : ∀ c ∈ sch ++ (det a n q ++ p), 33 ≤ c ∧ c ≤ 126 := by
              intro c hc
              simp only [List.mem_append] at hc
              rcases hc with hc | hc | hc
              · have : ∀ c ∈ sch, 33 ≤ c ∧ c ≤ 126 := by decide
                exact this c hc
              · exact ⟨(hisD.mem c hc).1, (hisD.mem c hc).2.1⟩
              · exact (path_parts hp).2.2 c hc
            exact request_back h (line_Ln htok hmem) ((rline_parts htok hmem).trans (targ_other hm hisD hp)) more
          · cases ht
    · simp at h
theorem stat_dec {n : Nat} (h1 : 100 ≤ n) (h2 : n ≤ 599) : stat (dec n) = some n := by
  have hl : (dec n).length = 3 := by
    rw [dec_big (by omega), dec_big (n := n / 10) (by omega), dec_small (n := n / 10 / 10) (by omega)]
    rfl
  have ha : (dec n).all dig = true := by
    rw [List.all_eq_true]
    intro x hx
    have := dec_all n x hx
    simp [dig]; omega
  unfold stat
  rw [val_dec, if_pos ⟨hl, ha, h1, h2⟩]
theorem putY_back {s : Int} {r b : List Nat} {fs : List Fd} (h : putY s r fs = (b, 0)) (more : List Nat) : reply (b ++ more) = (((s.toNat, r), fs), b.length, .ok) ∧ b.length ≤ 8192 ∧ 0 ≤ s := by
  unfold putY at h
  split at h
  · rename_i hc
    obtain ⟨⟨h1, h2⟩, hr⟩ := hc
    have h8 : b.length ≤ 8192 := by
      obtain ⟨_, _, h3, h4⟩ := put_ok h
      rw [h4]; exact h3
    have hst : stat (dec s.toNat) = some s.toNat := stat_dec (by omega) (by omega)
    exact ⟨reply_back h (yline_Ln hst hr) (yline_parts hst hr) more, h8, by omega⟩
  · simp at h
theorem putY_bad {s : Int} {r : List Nat} {fs : List Fd} (h : (putY s r fs).2 ≠ 0) : (putY s r fs).1 = [] := by
  unfold putY at h ⊢
  split
  · rename_i hc
    rw [if_pos hc] at h
    exact put_bad h
  · rfl
end Go.Proofs.YtccoddmdlbdfjaaGreatDoor
