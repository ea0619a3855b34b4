/-
  The reference's New, when, key, fresh, find, Used, Keys and Drop; conditions as each theorem has them.
-/
import Derived.Test.YtcihkdmndpdmoaaX
set_option linter.unusedSimpArgs false
set_option linter.unusedVariables false
namespace Go.Proofs.Ytcihkdmndpdmoaa
open Go.RowKit
def zE : Array Value := #[.string noN, .slice none 0 0, .int .i64 0, .int .i64 0, .bool false]
theorem zE_enC : (enC zeroS (.slice none 0 0)).toArray = zE := rfl
theorem infoEa : (Try.prog.info? 67).map (fun i => (i.zero, i.size, i.bytes)) = some (some (.agg zE), 5, 64) := by kernel_rfl
theorem made_E (n : Nat) : madeCells zE (n * 5) = (rflat (List.replicate n zeroS) (fun _ => .slice none 0 0) n).toArray := by
  apply Array.ext
  · rw [size_madeCells]; rw [List.size_toArray, rflat_length]; omega
  · intro i h1 h2
    rw [size_madeCells] at h1
    have hz : at0 (List.replicate n zeroS) (i / 5) = zeroS := by simp [at0, show i / 5 < n by omega]
    have f := rflat_at (List.replicate n zeroS) (fun _ => .slice none 0 0) n (i / 5) (by omega) (i % 5) (by omega)
    rw [hz] at f
    have e1 : (madeCells zE (n * 5))[i] = zE[i % 5]! := by simp [madeCells, zE]
    rw [e1]
    have e2 : (rflat (List.replicate n zeroS) (fun _ => .slice none 0 0) n).toArray[i]? = some zE[i % 5]! := by
      rw [show i / 5 * 5 + i % 5 = i by omega] at f
      simp only [List.getElem?_toArray]
      rw [f]
      have h4 : i % 5 = 0 ∨ i % 5 = 1 ∨ i % 5 = 2 ∨ i % 5 = 3 ∨ i % 5 = 4 := by omega
      rcases h4 with h4 | h4 | h4 | h4 | h4 <;> rw [h4] <;> rfl
    rw [Array.getElem?_eq_getElem h2] at e2
    exact (Option.some.inj e2).symm
/-- 'make([]Entry, n)'. -/
theorem run_makeE (n : Nat) (hn : n ≤ 4096) (w : World) : (Instr.makeSlice 42 (.int .i64 n) (.int .i64 n)).run Try.prog w = .ok (.slice (some ⟨w.heap.size, 0, none⟩) n n) (w.alloc (.cells (rflat (List.replicate n zeroS) (fun _ => .slice none 0 0) n).toArray 67)) := by
  obtain ⟨i, hi, hzz⟩ := Option.map_eq_some_iff.1 infoEa
  simp only [Prod.mk.injEq] at hzz
  obtain ⟨hz, hs, hb⟩ := hzz
  have := run_make (P := Try.prog) w 42 67 i (.agg zE) Try.underlying42 hi hz .i64 .i64 n n (by omega) (Int.le_refl _) (by rw [hb]; omega) (by omega)
  rw [this, hs, Int.toNat_natCast, show (Value.agg zE).cells = zE from rfl, made_E]
set_option maxHeartbeats 1000000 in
theorem rnew_bad (n k : Int) (w : World) (h : badNew n k) :
    Calls Try.prog 10 #[.int .i64 n, .int .i64 k] w fun e w' => e = .returned (.tuple #[.pointer none, .int .i64 2]) ∧ w = w' := by
  by_cases h1 : n < 0
  · go_enter Try.func10, Try.ntmps10
    go_wp2
    go_ret2
    exact ⟨rfl, rfl⟩
  by_cases h2 : 4096 < n
  · go_enter Try.func10, Try.ntmps10
    go_wp2
    go_ret2
    exact ⟨rfl, rfl⟩
  by_cases h3 : k < 0
  · go_enter Try.func10, Try.ntmps10
    go_wp2
    go_ret2
    exact ⟨rfl, rfl⟩
  by_cases h4 : 65536 < k
  · go_enter Try.func10, Try.ntmps10
    go_wp2
    go_ret2
    exact ⟨rfl, rfl⟩
  have h5 : 4194304 < n * k := by
    unfold badNew at h
    rcases h with h | h | h | h | h
    · omega
    · omega
    · omega
    · omega
    · exact h
  have e1 : n * k ≤ 4096 * 65536 := Int.mul_le_mul (by omega) (by omega) (by omega) (by omega)
  have e2 : 0 ≤ n * k := Int.mul_nonneg (by omega) (by omega)
  have hw : IntKind.i64.wrap (n * k) = n * k := wrap_int _ (by omega) (by omega)
  have d1 : decide (4194304 < n * k) = true := decide_eq_true h5
  have d2 : decide (n * k > 4194304) = true := decide_eq_true h5
  clear h
  go_enter Try.func10, Try.ntmps10
  go_wp2
  go_ret2
  exact ⟨rfl, rfl⟩
set_option maxHeartbeats 1000000 in
theorem rnew_good (n k x : Nat) (w : World) (hn : n ≤ 4096) (hk : k ≤ 65536) (hnk : n * k ≤ 4194304) :
    Calls Try.prog 10 #[.int .i64 n, .int .i64 k] w fun e w' => e = .returned (.tuple #[.pointer (some ⟨w.heap.size + 1, 0, none⟩), .int .i64 0]) ∧ RT x w' (w.heap.size + 1) w.heap.size k (List.replicate n zeroS) 0 ∧ Below w.heap.size w w' := by
  have hmk := run_makeE n hn
  obtain ⟨C, hC⟩ : ∃ C, C = (rflat (List.replicate n zeroS) (fun _ => .slice none 0 0) n).toArray := ⟨_, rfl⟩
  rw [← hC] at hmk
  have HC := hide hC
  have e1 : (n : Int) * (k : Int) ≤ 4194304 := by rw [← Int.natCast_mul]; omega
  have e2 : (0 : Int) ≤ (n : Int) * (k : Int) := Int.mul_nonneg (by omega) (by omega)
  have hw : IntKind.i64.wrap ((n : Int) * (k : Int)) = (n : Int) * (k : Int) := wrap_int _ (by omega) (by omega)
  have d1 : decide (4194304 < (n : Int) * (k : Int)) = false := decide_eq_false (by omega)
  have d2 : decide ((n : Int) * (k : Int) > 4194304) = false := decide_eq_false (by omega)
  have HNK := hide hnk
  clear hC hnk
  go_enter Try.func10, Try.ntmps10
  go_wp2_with fail
  go_ret2
  refine ⟨rfl, ⟨?_, new_inv n k hn hk, fun _ => .slice none 0 0, ?_, fun i hi => ?_⟩, ((Below.refl w.heap.size w).alloc (Nat.le_refl _) _).alloc (by simp) _⟩
  · rw [List.length_replicate]
    exact alloc_new2 _ _ _
  · rw [List.length_replicate, ← HC.out]
    exact alloc_old _ (alloc_new _ _)
  · have hz : at0 (List.replicate n zeroS) i = zeroS := by rw [List.length_replicate] at hi; simp [at0, hi]
    rw [hz]
    exact ⟨own_nil _ _, by intro e; cases e⟩
theorem rwhen_at (now : Int) (w : World) : Calls Try.prog 35 #[.int .i64 now] w fun e w' => e = .returned (.bool (decide (¬ badNow now))) ∧ w = w' := by
  by_cases h1 : now < 0
  · have e : decide (¬ badNow now) = false := by simp [badNow]; omega
    rw [e]
    have d : decide (now ≥ 0) = false := by simp; omega
    have d' : decide (0 ≤ now) = false := by simp; omega
    go_enter Try.func35, Try.ntmps35
    go_wp2
    go_ret
    exact ⟨rfl, rfl⟩
  · have d : decide (now ≥ 0) = true := by simp; omega
    have d' : decide (0 ≤ now) = true := by simp; omega
    by_cases h2 : 1099511627776 < now
    · have e : decide (¬ badNow now) = false := by simp [badNow]; omega
      rw [e]
      have d2 : decide (now ≤ 1099511627776) = false := by simp; omega
      go_enter Try.func35, Try.ntmps35
      go_wp2
      go_ret
      exact ⟨rfl, rfl⟩
    · have e : decide (¬ badNow now) = true := by simp [badNow]; omega
      rw [e]
      have d2 : decide (now ≤ 1099511627776) = true := by simp; omega
      go_enter Try.func35, Try.ntmps35
      go_wp2
      go_ret
      exact ⟨rfl, rfl⟩
theorem rkey_at (key : ByteArray) (w : World) : Calls Try.prog 36 #[.string key] w fun e w' => e = .returned (.bool (decide (¬ badKey key))) ∧ w = w' := by
  have e0 : (key.toList == []) = decide (key.size = 0) := ba_nil key
  have e0' : key.toList.isEmpty = decide (key.size = 0) := ba_emp key
  by_cases h1 : key.size = 0
  · have e : decide (¬ badKey key) = false := decide_eq_false (by unfold badKey; omega)
    rw [e]
    have d1 : decide (key.size = 0) = true := by simp [h1]
    go_enter Try.func36, Try.ntmps36
    go_wp2
    go_ret
    exact ⟨rfl, rfl⟩
  have d1 : decide (key.size = 0) = false := by simp [h1]
  by_cases h2 : 4096 < key.size
  · have e : decide (¬ badKey key) = false := decide_eq_false (by unfold badKey; omega)
    rw [e]
    have d2 : decide ((key.size : Int) ≤ 4096) = false := by simp; omega
    go_enter Try.func36, Try.ntmps36
    go_wp2
    go_ret
    exact ⟨rfl, rfl⟩
  have d2 : decide ((key.size : Int) ≤ 4096) = true := by simp; omega
  have e : decide (¬ badKey key) = true := decide_eq_true (by unfold badKey; omega)
  rw [e]
  go_enter Try.func36, Try.ntmps36
  go_wp2
  go_ret
  exact ⟨rfl, rfl⟩
set_option maxHeartbeats 1000000 in
theorem rfresh_at (s : Sl) (K : Nat) (ya : Option Addr) (yn yc : Nat) (now : Int) (w : World) (hs : s.Ok K) (hn : ¬ badNow now) : Calls Try.prog 38 #[.agg #[.string s.key, .slice ya yn yc, .int .i64 s.at_, .int .i64 s.age, .bool s.asked], .int .i64 now] w fun e w' => e = .returned (.bool (fresh s now)) ∧ Below w.heap.size w w' := by
  obtain ⟨k, b, p, q, a⟩ := s
  obtain ⟨l1, l2, l3, l4, _, _, _⟩ := hs
  simp only at l1 l2 l3 l4
  unfold badNow at hn
  have hw : IntKind.i64.wrap (now - p) = now - p := wrap_int _ (by omega) (by omega)
  by_cases h1 : p ≤ now
  · have d1 : decide (now ≥ p) = true := decide_eq_true h1
    have d2 : decide (p ≤ now) = true := decide_eq_true h1
    obtain ⟨R, hR⟩ : ∃ R, R = fresh ⟨k, b, p, q, a⟩ now := ⟨_, rfl⟩
    have hR' : R = decide (now - p < q) := by rw [hR]; simp [fresh, h1]
    rw [← hR]
    have HR := hide hR'
    clear hR hR'
    go_enter Try.func38, Try.ntmps38
    go_wp2
    go_ret
    exact ⟨by rw [HR.out]; rfl, (Below.refl _ _).alloc (Nat.le_refl _) _⟩
  · have d1 : decide (now ≥ p) = false := decide_eq_false h1
    have d2 : decide (p ≤ now) = false := decide_eq_false h1
    rw [show fresh ⟨k, b, p, q, a⟩ now = false by simp [fresh, h1]]
    go_enter Try.func38, Try.ntmps38
    go_wp2
    go_ret
    exact ⟨rfl, (Below.refl _ _).alloc (Nat.le_refl _) _⟩
/-- What the reference's loops read. -/
structure Reads (w : World) (r g N : Nat) (L : List Sl) : Prop where
  len : L.length = N
  max : N ≤ 4096
  head : ∀ w', Below w.heap.size w w' → w'.cell? ⟨r, 2, none⟩ = some (.slice (some ⟨g, 0, none⟩) N N)
  at_ : ∀ w', Below w.heap.size w w' → ∀ i, i < N → w'.cell? ⟨g, i * 5, none⟩ = some (.string (at0 L i).key)
theorem RT.reads {x : Nat} {w : World} {r g K h : Nat} {L : List Sl} (t : RT x w r g K L h) : Reads w r g L.length L :=
  ⟨rfl, t.inv.max, fun w' k => (t.below k).cellR.2.2, fun w' k i hi => by obtain ⟨v, h1, _⟩ := (t.below k).cells hi; exact h1⟩
def rfi (key : ByteArray) (L : List Sl) : Int := if fidx key L < L.length then (fidx key L : Nat) else -1
set_option maxRecDepth 100000 in
set_option maxHeartbeats 2000000 in
theorem rfind_at (r g N : Nat) (L : List Sl) (key : ByteArray) (w : World) (h : Reads w r g N L) :
    Calls Try.prog 37 #[.pointer (some ⟨r, 0, none⟩), .string key] w fun e w' => e = .returned (.int .i64 (rfi key L)) ∧ Below w.heap.size w w' := by
  have hm := h.max
  have H := hide h
  clear h
  obtain ⟨R, hR⟩ : ∃ R, R = rfi key L := ⟨_, rfl⟩
  rw [← hR]
  have HR := hide hR
  clear hR
  go_enter Try.func37, Try.ntmps37
  go_wp2_with fail
  go_loopw [5] (fun v wr => ∃ j : Nat, j ≤ N ∧ v = .int .i64 j ∧ Hid (Below w.heap.size w wr) ∧ Hid (∀ (k : Nat) (x : Sl), k < j → L[k]? = some x → x.key ≠ key)) (fun v _ => N - (intOf v).toNat)
  case atStart => exact ⟨0, Nat.zero_le _, rfl, Below.refl _ _, fun k x hk => by omega⟩
  case round =>
    obtain ⟨j, hj, rfl, HB, HX⟩ := hrel
    have hc0 := H.out.head wr HB.out
    by_cases hjn : j < N
    · have hd : decide ((j : Int) < (N : Int)) = true := decide_eq_true (by omega)
      have HJ : Hid (L[j]? = some (at0 L j)) := get_at0 (by rw [H.out.len]; exact hjn)
      have c0 := H.out.at_ wr HB.out j hjn
      by_cases hnm : (at0 L j).key = key
      · have z1 : ((at0 L j).key.toList == key.toList) = true := by rw [eq_ba]; simp [hnm]
        have HRJ : Hid (R = (j : Nat)) := by
          have e := fidx_eq HJ.out hnm HX.out
          have := H.out.len
          show _ = _
          rw [HR.out]
          unfold rfi
          rw [e, if_pos (by omega)]
        generalize (at0 L j).key = nj at c0 z1
        clear hnm
        go_wp2_with fail
        go_ret
        exact ⟨by rw [HRJ.out]; rfl, HB.out⟩
      · have z1 : ((at0 L j).key.toList == key.toList) = false := by rw [eq_ba]; simp [hnm]
        have HX2 : Hid (∀ (k : Nat) (x : Sl), k < j + 1 → L[k]? = some x → x.key ≠ key) := fun k x hk hx => by
          rcases Nat.lt_or_ge k j with h1 | h1
          · exact HX.out k x h1 hx
          · obtain rfl : k = j := by omega
            rw [HJ.out] at hx
            simp at hx
            subst hx
            exact hnm
        generalize (at0 L j).key = nj at c0 z1
        clear hnm
        go_wp2_with fail
        go_roundw
        case rel => exact ⟨j + 1, by omega, by go_num, HB, HX2⟩
        case measure => simp [intOf]; omega
    · have hd : decide ((j : Int) < (N : Int)) = false := decide_eq_false (by omega)
      have HRJ : Hid (R = -1) := by
        have hl := H.out.len
        have e := fidx_none (key := key) (L := L) (fun k x hx => HX.out k x (by have := (List.getElem?_eq_some_iff.1 hx).1; omega) hx)
        show _ = _
        rw [HR.out]
        unfold rfi
        rw [e, if_neg (Nat.lt_irrefl _)]
      go_wp2_with fail
      go_ret
      exact ⟨by rw [HRJ.out]; rfl, HB.out⟩
set_option maxRecDepth 100000 in
set_option maxHeartbeats 2000000 in
theorem rused_at (r g N : Nat) (L : List Sl) (w : World) (h : Reads w r g N L) :
    Calls Try.prog 22 #[.pointer (some ⟨r, 0, none⟩)] w fun e w' => e = .returned (.int .i64 (used L : Nat)) ∧ Below w.heap.size w w' := by
  have hm := h.max
  have H := hide h
  have HU : Hid (used L = cnt L N) := by show _ = _; unfold used; rw [h.len]
  clear h
  go_enter Try.func22, Try.ntmps22
  go_wp2_with fail
  go_loopw [3, 4] (fun u v wr => ∃ j c : Nat, j ≤ N ∧ c ≤ j ∧ v = .int .i64 j ∧ u = .int .i64 c ∧ Hid (Below w.heap.size w wr) ∧ Hid (c = cnt L j)) (fun _ v _ => N - (intOf v).toNat)
  case atStart => exact ⟨0, 0, Nat.zero_le _, Nat.zero_le _, rfl, rfl, Below.refl _ _, rfl⟩
  case round =>
    obtain ⟨j, c, hj, hc, rfl, rfl, HB, HX⟩ := hrel
    have hc0 := H.out.head wr HB.out
    by_cases hjn : j < N
    · have hd : decide ((j : Int) < (N : Int)) = true := decide_eq_true (by omega)
      have c0 := H.out.at_ wr HB.out j hjn
      by_cases hn : (at0 L j).key.size = 0
      · have HX2 : Hid (c = cnt L (j + 1)) := by show _ = _; rw [HX.out]; simp [cnt, hn]
        have z1 : ((at0 L j).key.toList == []) = true := by rw [ba_nil]; simp [hn]
        have z2 : (at0 L j).key.toList.isEmpty = true := by rw [ba_emp]; simp [hn]
        generalize (at0 L j).key = nj at c0 z1 z2
        clear hn
        go_wp2_with fail
        go_roundw
        case rel => exact ⟨j + 1, c, by omega, by omega, by go_num, rfl, HB, HX2⟩
        case measure => simp [intOf]; omega
      · have HX2 : Hid (c + 1 = cnt L (j + 1)) := by show _ = _; rw [HX.out]; simp [cnt, hn]
        have z1 : ((at0 L j).key.toList == []) = false := by rw [ba_nil]; simp [hn]
        have z2 : (at0 L j).key.toList.isEmpty = false := by rw [ba_emp]; simp [hn]
        generalize (at0 L j).key = nj at c0 z1 z2
        clear hn
        go_wp2_with fail
        go_roundw
        case rel => exact ⟨j + 1, c + 1, by omega, by omega, by go_num, by go_num, HB, HX2⟩
        case measure => simp [intOf]; omega
    · have hd : decide ((j : Int) < (N : Int)) = false := decide_eq_false (by omega)
      obtain rfl : j = N := by omega
      go_wp2_with fail
      go_ret
      exact ⟨by rw [HU.out, ← HX.out]; rfl, HB.out⟩
theorem Own.shape {w : World} {B : Nat} {e : TypeId} {v : Value} {l : List Value} (h : Own w B e v l) : ∃ a cap, v = .slice a l.length cap := by
  rcases h.2 with ⟨rfl, h0⟩ | ⟨g, cap, cur, rfl, _⟩
  · exact ⟨none, 0, by rw [h0]⟩
  · exact ⟨_, cap, rfl⟩
theorem own_srcT {w : World} {B : Nat} {v : Value} {l : List ByteArray} (h : Own w B 9 v (rowT l)) : ∃ a cap, v = .slice a l.length cap ∧ SrcT w a l.length cap l := by
  rcases h.2 with ⟨rfl, h0⟩ | ⟨g, cap, cur, rfl, hx, hh, hc, hm, hs, ht⟩
  · rw [rowT_length] at h0
    have : l = [] := List.length_eq_zero_iff.1 h0
    subst this
    exact ⟨none, 0, rfl, rfl, Nat.le_refl _, Nat.zero_le _, fun h => by simp at h⟩
  · rw [rowT_length] at hc ht ⊢
    refine ⟨_, cap, rfl, ⟨rfl, hc, hm, fun _ => ⟨g, 0, rfl, lt_of_some hh, fun j u hu => ?_⟩⟩⟩
    have hj := (List.getElem?_eq_some_iff.1 hu).1
    rw [rowT_length] at hj
    rw [Nat.mul_one] at ht
    have : cur.toList[j]? = some u := by rw [← hu, ← ht, List.getElem?_take, if_pos (by omega)]
    rw [Nat.zero_add]
    simp only [World.cell?, hh]
    simpa using this
theorem own_newT (w : World) : Own (w.alloc (.cells #[] 9)) w.heap.size 9 (.slice (some ⟨w.heap.size, 0, none⟩) 0 0) (rowT []) :=
  ⟨rfl, Or.inr ⟨w.heap.size, 0, #[], rfl, Nat.le_refl _, alloc_new _ _, by simp [rowT], Nat.zero_le _, by simp, by simp [rowT]⟩⟩
theorem run_appT {w : World} {B : Nat} {v : Value} {l : List ByteArray} (h : Own w B 9 v (rowT l)) (d : ByteArray) (hl : l.length ≤ 4096) (hB : B ≤ w.heap.size) :
    ∃ v' w', (Builtin.append_ #[46, 46] 46 #[v, .slice (some ⟨w.heap.size, 0, none⟩) 1 1]).run Try.prog (w.alloc (.cells #[.string d] 9)) = .ok v' w' ∧ Own w' B 9 v' (rowT (l ++ [d])) ∧ Below B w w' := by
  have ha := (Below.refl w.heap.size w).alloc (Nat.le_refl _) (.cells #[.string d] 9)
  obtain ⟨v', w', h1, h2, h3, _⟩ := own_app 46 9 _ 16 Try.underlying46 inf9 rfl (h.below ha) ⟨w.heap.size, 0, none⟩ 1 1 (rowT [d]) rfl
    (fun j u hu => by
      rw [add_none, Nat.zero_add]
      have hn : (w.alloc (.cells #[.string d] 9)).heap[w.heap.size]? = some (.cells #[.string d] 9) := alloc_new _ _
      simp only [World.cell?, hn]
      rw [← hu]
      simp [rowT]) (rowT_one _) (by rw [rowT_length]; omega) (by rw [rowT_length]; omega) (by simp; omega)
  exact ⟨v', w', h1, by rw [rowT_append]; exact h2, (ha.mono hB).trans h3⟩
set_option maxRecDepth 100000 in
set_option maxHeartbeats 4000000 in
theorem rkeys_at (r g N : Nat) (L : List Sl) (w : World) (h : Reads w r g N L) :
    Calls Try.prog 26 #[.pointer (some ⟨r, 0, none⟩)] w fun e w' => ∃ a c, e = .returned (.slice a N c) ∧ SrcT w' a N c (nms L) ∧ Below w.heap.size w w' := by
  have hm := h.max
  have H := hide h
  have HN := hide h.len
  clear h
  go_enter Try.func26, Try.ntmps26
  go_wp2_with fail
  go_loopw [3, 4] (fun u v wr => ∃ j : Nat, j ≤ N ∧ v = .int .i64 j ∧ Hid (Own wr w.heap.size 9 u (rowT (nms (L.take j)))) ∧ Hid (Below w.heap.size w wr)) (fun _ v _ => N - (intOf v).toNat)
  case atStart => exact ⟨0, Nat.zero_le _, rfl, own_newT w, (Below.refl _ _).alloc (Nat.le_refl _) _⟩
  case round =>
    obtain ⟨j, hj, rfl, HO, HB⟩ := hrel
    have hc0 := H.out.head wr HB.out
    by_cases hjn : j < N
    · have hd : decide ((j : Int) < (N : Int)) = true := decide_eq_true (by omega)
      have hjL : j < L.length := by rw [HN.out]; exact hjn
      have c0 := H.out.at_ wr HB.out j hjn
      obtain ⟨ua, uc, hu⟩ := HO.out.shape
      subst hu
      obtain ⟨v2, w2, ap, ow, bl⟩ := run_appT HO.out (at0 L j).key (by simp [nms]; omega) HB.out.size
      have OW : Hid (Own w2 w.heap.size 9 v2 (rowT (nms (L.take (j + 1))))) := by
        show Own _ _ _ _ _
        rw [show nms (L.take (j + 1)) = nms (L.take j) ++ [(at0 L j).key] by
          rw [show L.take (j + 1) = L.take j ++ [at0 L j] by rw [List.take_succ_eq_append_getElem hjL]; simp [at0, hjL]]
          simp only [nms, List.map_append, List.map_cons, List.map_nil]]
        exact ow
      have BL := hide (HB.out.trans bl)
      generalize (at0 L j).key = nj at c0 ap
      generalize (rowT (nms (L.take j))).length = nl at ap ⊢
      have AP := hide ap
      clear ow bl HO hjL ap
      go_wp2_with (refine wpList_app_run _ rfl _ _ 46 46 rfl (.slice ua nl uc) (.slice (some ⟨wr.heap.size, 0, none⟩) 1 1) rfl rfl AP.out ?_)
      go_roundw
      case rel => exact ⟨j + 1, by omega, by go_num, OW, BL⟩
      case measure => simp [intOf]; omega
    · have hd : decide ((j : Int) < (N : Int)) = false := decide_eq_false (by omega)
      obtain rfl : j = N := by omega
      have HE : Hid (nms (L.take j) = nms L) := by show _ = _; rw [← HN.out, List.take_length]
      obtain ⟨ua, uc, hu, hs⟩ := own_srcT HO.out
      subst hu
      rw [HE.out, show (nms L).length = j by simp [nms]; exact HN.out] at hs
      rw [HE.out, show (nms L).length = j by simp [nms]; exact HN.out]
      have HS := hide hs
      clear hs HO
      go_wp2_with fail
      go_ret
      exact ⟨_, _, rfl, HS.out, HB.out⟩
theorem wpList_store_ent {ops : Array Oper} {rest : List Oper} {op : Oper} {a : Act} {w w' : World} {Q : Exit → Act → World → Prop} (hgd : op.guard = none) (p v : Operand) (ho : op.op = .store 67 p v) (x y : Value) (hp : a.eval p = x) (hv : a.eval v = y)
    (hr : (Instr.storeAt 67 x y).run Try.prog w = .ok () w') (h : wpList Try.prog ops Q rest (a.put op.dst undef) w') : wpList Try.prog ops Q (op :: rest) a w := by
  refine wpList_plain hgd fun K hK => ?_
  unfold Oper.wp execOp
  simp only [ho, hp, hv, Sem.run_bind, Sem.run_pure, Result.andThen_ok, hr]
  exact hK _ _ h
set_option maxRecDepth 100000 in
set_option maxHeartbeats 2000000 in
theorem rdrop_at (x r g K h : Nat) (L : List Sl) (key : ByteArray) (w : World) (t : RT x w r g K L h) :
    Calls Try.prog 19 #[.pointer (some ⟨r, 0, none⟩), .string key] w fun e w' => e = .returned (.bool (isIn L key)) ∧ RT x w' r g K (dropL L key) h ∧ Kept g g w w' := by
  have HF := hide (rfind_at r g L.length L key w t.reads)
  have hm := t.inv.max
  have HT := hide t
  have HD := hide (drop_inv t.inv key)
  obtain ⟨N, hN⟩ : ∃ N, N = L.length := ⟨_, rfl⟩
  rw [← hN] at hm
  have HN := hide hN
  have e0 : (key.toList == []) = decide (key.size = 0) := ba_nil key
  have e0' : key.toList.isEmpty = decide (key.size = 0) := ba_emp key
  by_cases hi : isIn L key = true
  · have HE : Hid (dropL L key = L.set (fidx key L) zeroS) := by show _ = _; unfold dropL; rw [if_pos hi]
    rw [hi, HE.out]
    rw [HE.out] at HD
    have hlt := (isIn_iff.1 hi).2
    rw [show rfi key L = (fidx key L : Nat) by unfold rfi; rw [if_pos hlt]] at HF
    have hk0 : decide (key.size = 0) = false := decide_eq_false (isIn_iff.1 hi).1
    rw [hk0] at e0 e0'
    obtain ⟨P, hP⟩ : ∃ P, P = fidx key L := ⟨_, rfl⟩
    rw [← hP] at HF hlt HD ⊢
    have HL := hide hlt
    rw [← hN] at hlt
    clear t hN hP hi HE hk0
    go_enter Try.func19, Try.ntmps19
    go_wp2_with fail
    refine HF.out.mono ?_
    rintro e w2 ⟨rfl, k2⟩
    have T2 := hide (HT.out.below k2)
    have e3 := T2.out.cellR.2.2
    rw [← HN.out] at e3
    obtain ⟨w3, s1, s2, s3⟩ := HT.out.store k2 P HL.out zeroS HD.out (.slice none 0 0) (own_nil _ _) (by intro e; cases e)
    rw [zE_enC] at s1
    have S1 := hide s1
    have S2 := hide s2
    have S3 := hide s3
    have hd : decide ((P : Int) < 0) = false := decide_eq_false (by omega)
    clear k2 s1 s2 s3
    go_wp2_with (refine wpList_store_ent rfl _ _ rfl (.pointer (some ⟨g, P * 5, none⟩)) (.agg zE) rfl rfl S1.out ?_)
    go_ret
    exact ⟨rfl, S2.out, S3.out⟩
  · have hi : isIn L key = false := by simpa using hi
    have HE : Hid (dropL L key = L) := by show _ = _; unfold dropL; rw [hi]; rfl
    rw [hi, HE.out]
    have hcs : key.size = 0 ∨ (key.size ≠ 0 ∧ rfi key L = -1) := by
      by_cases hk : key.size = 0
      · exact Or.inl hk
      · refine Or.inr ⟨hk, ?_⟩
        unfold rfi
        rw [if_neg (fun e => by rw [isIn_iff.2 ⟨hk, e⟩] at hi; cases hi)]
    generalize rfi key L = R at HF hcs
    clear t hN hi HE
    rcases hcs with hk | ⟨hk, rfl⟩
    · rw [show decide (key.size = 0) = true by simp [hk]] at e0 e0'
      clear hk
      go_enter Try.func19, Try.ntmps19
      go_wp2_with fail
      refine HF.out.mono ?_
      rintro e w2 ⟨rfl, k2⟩
      have T2 := hide (HT.out.below k2)
      have K2 := hide k2
      clear k2
      go_wp2_with fail
      go_ret
      exact ⟨rfl, T2.out, Kept.of_below K2.out⟩
    · rw [show decide (key.size = 0) = false by simp [hk]] at e0 e0'
      clear hk
      go_enter Try.func19, Try.ntmps19
      go_wp2_with fail
      refine HF.out.mono ?_
      rintro e w2 ⟨rfl, k2⟩
      have T2 := hide (HT.out.below k2)
      have K2 := hide k2
      clear k2
      go_wp2_with fail
      go_ret
      exact ⟨rfl, T2.out, Kept.of_below K2.out⟩
end Go.Proofs.Ytcihkdmndpdmoaa
