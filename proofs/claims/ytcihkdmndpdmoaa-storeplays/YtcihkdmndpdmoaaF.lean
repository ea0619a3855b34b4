/-
  New, Clone, Used, Hand and Keys of package store; conditions as each theorem has them.
-/
import Derived.Test.YtcihkdmndpdmoaaE
set_option linter.unusedSimpArgs false
set_option linter.unusedVariables false
namespace Go.Proofs.Ytcihkdmndpdmoaa
open Go.RowKit
theorem slC_zero : (slC zeroS).toArray = #[.string ⟨#[]⟩, .string ⟨#[]⟩, .int .i64 0, .int .i64 0, .bool false] := rfl
theorem made_flat (n : Nat) : madeCells (slC zeroS).toArray (n * 5) = (flat (List.replicate n zeroS)).toArray := by
  apply Array.ext
  · rw [size_madeCells]; rw [List.size_toArray, flat_length]; simp; omega
  · intro i h1 h2
    rw [size_madeCells] at h1
    have hq : (List.replicate n zeroS)[i / 5]? = some zeroS := by rw [List.getElem?_replicate, if_pos (by omega)]
    have hf := flat_at _ (i / 5) zeroS hq (i % 5) (by omega)
    rw [show i / 5 * 5 + i % 5 = i by omega] at hf
    have hz : (slC zeroS).toArray.size = 5 := rfl
    have e1 : (madeCells (slC zeroS).toArray (n * 5))[i] = (slC zeroS).toArray[i % 5]! := by
      simp only [madeCells, Array.getElem_map, Array.getElem_range]
      rw [hz]
    have e2 : (flat (List.replicate n zeroS)).toArray[i]? = some ((slC zeroS).toArray[i % 5]!) := by
      simp only [List.getElem?_toArray]
      rw [hf]
      have hlt : i % 5 < (slC zeroS).length := by rw [slC_length]; omega
      rw [List.getElem?_eq_getElem hlt]
      simp [hlt]
    rw [Array.getElem?_eq_getElem h2] at e2
    rw [e1]
    exact (Option.some.inj e2).symm
theorem infoSa : (Try.prog.info? 62).map (fun i => (i.zero, i.size, i.bytes)) = some (some (.agg (slC zeroS).toArray), 5, 56) := by kernel_rfl
theorem infoS : (Try.prog.info? 62).map (·.size) = some 5 := by kernel_rfl
/-- 'make([]slot, n)'. -/
theorem run_make0 (n : Nat) (hn : n ≤ 4096) (w : World) : (Instr.makeSlice 55 (.int .i64 n) (.int .i64 n)).run Try.prog w = .ok (.slice (some ⟨w.heap.size, 0, none⟩) n n) (w.alloc (.cells (flat (List.replicate n zeroS)).toArray 62)) := by
  obtain ⟨i, hi, hzz⟩ := Option.map_eq_some_iff.1 infoSa
  simp only [Prod.mk.injEq] at hzz
  obtain ⟨hz, hs, hb⟩ := hzz
  have := run_make (P := Try.prog) w 55 62 i (.agg (slC zeroS).toArray) Try.underlying55 hi hz .i64 .i64 n n (by omega) (Int.le_refl _) (by rw [hb]; omega) (by omega)
  rw [this, hs, Int.toNat_natCast, show (Value.agg (slC zeroS).toArray).cells = (slC zeroS).toArray from rfl, made_flat]
abbrev badNew (n k : Int) : Prop := n < 0 ∨ 4096 < n ∨ k < 0 ∨ 65536 < k ∨ 4194304 < n * k
set_option maxHeartbeats 1000000 in
theorem new_bad (n k : Int) (w : World) (h : badNew n k) :
    Calls Try.prog 9 #[.int .i64 n, .int .i64 k] w fun e w' => e = .returned (.tuple #[.pointer none, .int .i64 2]) ∧ w = w' := by
  by_cases h1 : n < 0
  · go_enter Try.func9, Try.ntmps9
    go_wp2
    go_ret2
    exact ⟨rfl, rfl⟩
  by_cases h2 : 4096 < n
  · go_enter Try.func9, Try.ntmps9
    go_wp2
    go_ret2
    exact ⟨rfl, rfl⟩
  by_cases h3 : k < 0
  · go_enter Try.func9, Try.ntmps9
    go_wp2
    go_ret2
    exact ⟨rfl, rfl⟩
  by_cases h4 : 65536 < k
  · go_enter Try.func9, Try.ntmps9
    go_wp2
    go_ret2
    exact ⟨rfl, rfl⟩
  have h5 : 4194304 < n * k := by
    unfold badNew at h
    rcases h with h | h | h | h | h
    · omega
    · omega
    · omega
    · omega
    · exact h
  have e1 : n * k ≤ 4096 * 65536 := Int.mul_le_mul (by omega) (by omega) (by omega) (by omega)
  have e2 : 0 ≤ n * k := Int.mul_nonneg (by omega) (by omega)
  have hw : IntKind.i64.wrap (n * k) = n * k := wrap_int _ (by omega) (by omega)
  have d1 : decide (4194304 < n * k) = true := decide_eq_true h5
  have d2 : decide (n * k > 4194304) = true := decide_eq_true h5
  clear h
  go_enter Try.func9, Try.ntmps9
  go_wp2
  go_ret2
  exact ⟨rfl, rfl⟩
set_option maxHeartbeats 1000000 in
theorem new_good (n k : Nat) (w : World) (hn : n ≤ 4096) (hk : k ≤ 65536) (hnk : n * k ≤ 4194304) :
    Calls Try.prog 9 #[.int .i64 n, .int .i64 k] w fun e w' => e = .returned (.tuple #[.pointer (some ⟨w.heap.size + 1, 0, none⟩), .int .i64 0]) ∧ IsTab w' (w.heap.size + 1) w.heap.size k (List.replicate n zeroS) 0 ∧ Below w.heap.size w w' := by
  have hmk := run_make0 n hn
  obtain ⟨C, hC⟩ : ∃ C, C = (flat (List.replicate n zeroS)).toArray := ⟨_, rfl⟩
  rw [← hC] at hmk
  have HC := hide hC
  have e1 : (n : Int) * (k : Int) ≤ 4194304 := by rw [← Int.natCast_mul]; omega
  have e2 : (0 : Int) ≤ (n : Int) * (k : Int) := Int.mul_nonneg (by omega) (by omega)
  have hw : IntKind.i64.wrap ((n : Int) * (k : Int)) = (n : Int) * (k : Int) := wrap_int _ (by omega) (by omega)
  have d1 : decide (4194304 < (n : Int) * (k : Int)) = false := decide_eq_false (by omega)
  have d2 : decide ((n : Int) * (k : Int) > 4194304) = false := decide_eq_false (by omega)
  have HNK := hide hnk
  clear hC hnk
  go_enter Try.func9, Try.ntmps9
  go_wp2_with fail
  go_ret2
  refine ⟨rfl, ⟨?_, ?_, by omega, new_inv n k hn hk⟩, ((Below.refl w.heap.size w).alloc (Nat.le_refl _) _).alloc (by simp) _⟩
  · rw [List.length_replicate]
    exact alloc_new2 _ _ _
  · show _ = _
    rw [← HC.out]
    exact alloc_old _ (alloc_new _ _)
/-- 'copy' of all slots. -/
theorem run_copyS (w : World) (ty : TypeId) (g s n : Nat) (cur L : List Sl) (hn : L.length = n) (hl : cur.length = n) (hg : Row w g cur) (hs : Row w s L) :
    (Builtin.copy_ #[55, 55] ty #[.slice (some ⟨g, 0, none⟩) n n, .slice (some ⟨s, 0, none⟩) n n]).run Try.prog w = .ok (goInt n) (w.setRow g (flat L).toArray) := by
  subst hn
  obtain ⟨i, hi, hz⟩ := Option.map_eq_some_iff.1 infoS
  have hload := run_loadCells_list (P := Try.prog) w ⟨s, 0, none⟩ (flat L) (fun j v hv => by
    rw [add_none, Nat.zero_add]
    unfold Row at hs
    simp [World.cell?, hs, hv])
  have hst := run_storeCells_at Try.prog g 0 62 (flat L) 0 (flat cur).toArray w hg (by simp [flat_length, hl]) (flat_one L)
  have e1 : L.length * 5 = (flat L).length := by rw [flat_length]; omega
  have e2 : (List.take (0 + 0) (flat cur).toArray.toList ++ flat L ++ List.drop (0 + 0 + (flat L).length) (flat cur).toArray.toList) = flat L := by
    simp [flat_length, hl]
  rw [e2] at hst
  simp [Builtin.copy_, run_underlying Try.underlying55, Builtin.lenOf, Builtin.firstCells, sizeOf, typeInfo, hi, hz, e1, hload, hst]
set_option maxRecDepth 100000 in
set_option maxHeartbeats 2000000 in
theorem clone_at (r g K h : Nat) (L : List Sl) (w : World) (t : IsTab w r g K L h) :
    Calls Try.prog 20 #[.pointer (some ⟨r, 0, none⟩)] w fun e w' => e = .returned (.pointer (some ⟨w.heap.size, 0, none⟩)) ∧ IsTab w' w.heap.size (w.heap.size + 1) K L h ∧ Below w.heap.size w w' := by
  obtain ⟨c0, c1, c2, c3⟩ := t.cells
  obtain ⟨N, hN⟩ : ∃ N, N = L.length := ⟨_, rfl⟩
  have hm := t.inv.max
  have hlr := t.lt.1
  rw [← hN] at c3 hm
  have hmk := run_make0 N hm
  have HM := hide (isMade_at r true w c0)
  have HT := hide t
  have HN := hide hN
  clear t hN
  go_enter Try.func20, Try.ntmps20
  go_wp2_with fail
  refine HM.out.mono ?_
  rintro x w1 ⟨rfl, rfl⟩
  obtain ⟨C, hC⟩ : ∃ C, C = (flat (List.replicate N zeroS)).toArray := ⟨_, rfl⟩
  obtain ⟨D, hD⟩ : ∃ D, D = (flat L).toArray := ⟨_, rfl⟩
  have hcp := run_copyS ((w.alloc (thd K h N (w.heap.size + 1))).alloc (.cells (flat (List.replicate N zeroS)).toArray 62)).drew 3 (w.heap.size + 1) g N (List.replicate N zeroS) L HN.out.symm (by simp) (alloc_new2 _ _ _) (alloc_old _ (alloc_old _ HT.out.row))
  unfold thd at hcp
  rw [← hC] at hcp hmk
  rw [← hD] at hcp
  have HC := hide hC
  have HD := hide hD
  clear hC hD
  go_wp2_with fail
  go_region
  all_goals
    clear hcp
    go_wp2
    go_ret
    refine ⟨rfl, ⟨?_, ?_, by omega, HT.out.inv⟩, below_setRow ((((Below.refl w.heap.size w).alloc (Nat.le_refl _) _).alloc (by simp) _).drew) (by omega) _⟩
    · rw [setRow_other _ _ _ _ (by omega), ← HN.out]
      exact alloc_old _ (alloc_new _ _)
    · show _ = _
      rw [← HD.out]
      exact setRow_heap _ _ C _ 62 (0, 0) (alloc_new2 _ _ _)
set_option maxRecDepth 100000 in
set_option maxHeartbeats 2000000 in
theorem hand_at (r g K h : Nat) (L : List Sl) (w : World) (t : IsTab w r g K L h) :
    Calls Try.prog 23 #[.pointer (some ⟨r, 0, none⟩)] w fun e w' => e = .returned (.int .i64 (h : Nat)) ∧ w = w' := by
  obtain ⟨c0, c1, c2, c3⟩ := t.cells
  have HM := hide (isMade_at r true w c0)
  clear t
  go_enter Try.func23, Try.ntmps23
  go_wp2_with fail
  refine HM.out.mono ?_
  rintro x w1 ⟨rfl, rfl⟩
  go_wp2_with fail
  go_ret
  exact ⟨rfl, rfl⟩
set_option maxRecDepth 100000 in
set_option maxHeartbeats 2000000 in
theorem used_at (r g K h : Nat) (L : List Sl) (w : World) (t : IsTab w r g K L h) :
    Calls Try.prog 21 #[.pointer (some ⟨r, 0, none⟩)] w fun e w' => e = .returned (.int .i64 (used L : Nat)) ∧ Below w.heap.size w w' := by
  obtain ⟨c0, c1, c2, c3⟩ := t.cells
  have HM := hide (isMade_at r true w c0)
  obtain ⟨N, hN⟩ : ∃ N, N = L.length := ⟨_, rfl⟩
  have hm := t.inv.max
  rw [← hN] at c3 hm
  have HT := hide t
  have HN := hide hN
  obtain ⟨U, hU⟩ : ∃ U, U = used L := ⟨_, rfl⟩
  have HU : Hid (U = cnt L N) := by show _ = _; rw [hU, hN]; rfl
  rw [← hU]
  clear t hN hU
  go_enter Try.func21, Try.ntmps21
  go_wp2_with fail
  refine HM.out.mono ?_
  rintro x w1 ⟨rfl, rfl⟩
  go_wp2_with fail
  go_loopw [3, 14] (fun u v wr => ∃ j c : Nat, j ≤ N ∧ c ≤ j ∧ v = .int .i64 j ∧ u = .int .i64 c ∧ Hid (Below w.heap.size w wr) ∧ Hid (c = cnt L j)) (fun _ v _ => N - (intOf v).toNat)
  case atStart => exact ⟨0, 0, Nat.zero_le _, Nat.zero_le _, rfl, rfl, Below.refl _ _, rfl⟩
  case round =>
    obtain ⟨j, c, hj, hc, rfl, rfl, HK, HX⟩ := hrel
    by_cases hjn : j < N
    · have hd : decide ((j : Int) < (N : Int)) = true := decide_eq_true (by omega)
      have hs : Hid (L[j]? = some (at0 L j)) := get_at0 (by have := HN.out; omega)
      obtain ⟨d0, d1, d2, d3, d4⟩ := (HT.out.row.below HK.out).cells hs.out
      have hok := HT.out.inv.ok _ _ hs.out
      have HB := hide (HK.out.alloc HK.out.size (.cells (slC (at0 L j)).toArray 62))
      by_cases hn : (at0 L j).key.size = 0
      · have HX2 : Hid (c = cnt L (j + 1)) := by show _ = _; rw [HX.out]; simp [cnt, hn]
        rw [hok.none hn] at d0 d1 d2 d3 d4 HB
        simp only [zeroS, noN, slC] at d0 d1 d2 d3 d4 HB
        have hq := neq_zero
        clear hn hs hok
        go_wp2_with fail
        go_roundw
        case rel => exact ⟨j + 1, c, by omega, by omega, by go_num, rfl, HB, HX2⟩
        case measure => simp [intOf]; omega
      · have HX2 : Hid (c + 1 = cnt L (j + 1)) := by show _ = _; rw [HX.out]; simp [cnt, hn]
        generalize at0 L j = s at d0 d1 d2 d3 d4 hs hn hok HB
        obtain ⟨k, b, p, q, a⟩ := s
        simp only [slC] at d0 d1 d2 d3 d4 hn HB
        have hq := neq_key hn b p q a
        clear hs hn hok
        go_wp2_with fail
        go_roundw
        case rel => exact ⟨j + 1, c + 1, by omega, by omega, by go_num, by go_num, HB, HX2⟩
        case measure => simp [intOf]; omega
    · have hd : decide ((j : Int) < (N : Int)) = false := decide_eq_false (by omega)
      obtain rfl : j = N := by omega
      go_wp2_with fail
      go_ret
      exact ⟨by rw [HU.out, ← HX.out]; rfl, HK.out⟩
/-- Texts as they lie in memory. -/
def rowT (l : List ByteArray) : List Value := l.map Value.string
theorem rowT_length (l : List ByteArray) : (rowT l).length = l.length := by simp [rowT]
theorem rowT_append (l m : List ByteArray) : rowT (l ++ m) = rowT l ++ rowT m := by simp [rowT]
theorem rowT_one (l : List ByteArray) : ∀ v ∈ rowT l, v.oneCell' = true := by
  intro v hv
  simp [rowT] at hv
  obtain ⟨t, _, rfl⟩ := hv
  rfl
theorem info9a : (Try.prog.info? 9).map (fun i => (i.zero, i.size, i.bytes)) = some (some (.string noN), 1, 16) := by kernel_rfl
theorem made_T (n : Nat) : madeCells #[.string noN] n = (rowT (List.replicate n noN)).toArray := by
  apply Array.ext
  · rw [size_madeCells]; simp [rowT]
  · intro i h1 h2
    rw [size_madeCells] at h1
    simp [madeCells, rowT, Nat.mod_one]
/-- 'make([]string, n)'. -/
theorem run_makeT (n : Nat) (hn : n ≤ 4096) (w : World) : (Instr.makeSlice 46 (.int .i64 n) (.int .i64 n)).run Try.prog w = .ok (.slice (some ⟨w.heap.size, 0, none⟩) n n) (w.alloc (.cells (rowT (List.replicate n noN)).toArray 9)) := by
  obtain ⟨i, hi, hzz⟩ := Option.map_eq_some_iff.1 info9a
  simp only [Prod.mk.injEq] at hzz
  obtain ⟨hz, hs, hb⟩ := hzz
  have := run_make (P := Try.prog) w 46 9 i (.string noN) Try.underlying46 hi hz .i64 .i64 n n (by omega) (Int.le_refl _) (by rw [hb]; omega) (by omega)
  rw [this, hs, Int.toNat_natCast, show (Value.string noN).cells = #[.string noN] from rfl, Nat.mul_one, made_T]
def half (L : List Sl) (j : Nat) : List ByteArray := nms (L.take j) ++ List.replicate (L.length - j) noN
theorem half_set {L : List Sl} {j : Nat} (hj : j < L.length) : (rowT (half L j)).set j (.string (at0 L j).key) = rowT (half L (j + 1)) := by
  unfold half rowT nms
  rw [List.map_append, List.set_append_right _ _ (by simp; omega)]
  simp only [List.length_map, List.length_take, Nat.min_eq_left (Nat.le_of_lt hj), Nat.sub_self]
  rw [show L.length - j = (L.length - (j + 1)) + 1 by omega, List.replicate_succ, List.map_cons, List.set_cons_zero]
  rw [show L.take (j + 1) = L.take j ++ [at0 L j] by rw [List.take_succ_eq_append_getElem hj]; simp [at0, hj]]
  simp only [List.map_append, List.map_cons, List.map_nil, List.append_assoc, List.singleton_append]
theorem half_length {L : List Sl} {j : Nat} (hj : j ≤ L.length) : (half L j).length = L.length := by unfold half nms; simp; omega
set_option maxRecDepth 100000 in
set_option maxHeartbeats 2000000 in
theorem keys_at (r g K h : Nat) (L : List Sl) (w : World) (t : IsTab w r g K L h) :
    Calls Try.prog 25 #[.pointer (some ⟨r, 0, none⟩)] w fun e w' => e = .returned (.slice (some ⟨w.heap.size, 0, none⟩) L.length L.length) ∧ w'.heap[w.heap.size]? = some (.cells (rowT (nms L)).toArray 9) ∧ Below w.heap.size w w' := by
  obtain ⟨c0, c1, c2, c3⟩ := t.cells
  have HM := hide (isMade_at r true w c0)
  obtain ⟨hlr, hlg⟩ := t.lt
  obtain ⟨N, hN⟩ : ∃ N, N = L.length := ⟨_, rfl⟩
  have hm := t.inv.max
  rw [← hN] at c3 hm
  have HT := hide t
  have HN := hide hN
  rw [← hN]
  clear t hN
  go_enter Try.func25, Try.ntmps25
  go_wp2_with fail
  refine HM.out.mono ?_
  rintro x w1 ⟨rfl, rfl⟩
  have hmk := run_makeT N hm
  obtain ⟨C, hC⟩ : ∃ C, C = (rowT (List.replicate N noN)).toArray := ⟨_, rfl⟩
  rw [← hC] at hmk
  have HC := hide hC
  clear hC
  go_wp2_with fail
  go_loopw [20] (fun v wr => ∃ j : Nat, j ≤ N ∧ v = .int .i64 j ∧ Hid (wr.heap[w.heap.size]? = some (.cells (rowT (half L j)).toArray 9)) ∧ Hid (Below w.heap.size w wr)) (fun v _ => N - (intOf v).toNat)
  case atStart =>
    refine ⟨0, Nat.zero_le _, rfl, ?_, ((Below.refl w.heap.size w).alloc (Nat.le_refl _) _)⟩
    have : half L 0 = List.replicate N noN := by rw [HN.out]; simp [half, nms]
    rw [this, ← HC.out]
    exact alloc_new _ _
  case round =>
    obtain ⟨j, hj, rfl, HR, HB⟩ := hrel
    by_cases hjn : j < N
    · have hd : decide ((j : Int) < (N : Int)) = true := decide_eq_true (by omega)
      have hjL : j < L.length := by rw [← HN.out]; exact hjn
      have ht := HT.out.below HB.out
      obtain ⟨d0, d1, d2, d3, d4⟩ := ht.row.cells (get_at0 hjL)
      have hlt : w.heap.size < wr.heap.size := lt_of_some HR.out
      obtain ⟨x, hx⟩ : ∃ x, wr.cell? ⟨w.heap.size, j, none⟩ = some x := by
        have := HR.out
        simp only [World.cell?, this, List.getElem?_toArray]
        rw [List.getElem?_eq_getElem (by rw [rowT_length, half_length (Nat.le_of_lt hjL)]; exact hjL)]
        exact ⟨_, rfl⟩
      have hfz : wr.frozen? ⟨w.heap.size, j, none⟩ = false := by simp [World.frozen?, HR.out]
      obtain ⟨s, hs⟩ : ∃ s, s = at0 L j := ⟨_, rfl⟩
      have HR2 : Hid (∀ o, ((wr.setCell ⟨w.heap.size, j, none⟩ (.string s.key)).alloc o).heap[w.heap.size]? = some (.cells (rowT (half L (j + 1))).toArray 9)) := fun o => alloc_old o (by
        rw [heap_setCell_same HR.out, ← half_set hjL, hs]
        simp)
      have HB2 : Hid (∀ o, Below w.heap.size w ((wr.setCell ⟨w.heap.size, j, none⟩ (.string s.key)).alloc o)) := fun o => by
        have hb := HB.out.trans (((Kept.refl w.heap.size w.heap.size wr).set j (.string s.key)).below (Nat.le_refl _) (Nat.le_refl _) HB.out.size)
        exact hb.alloc hb.size o
      rw [← hs] at d0 d1 d2 d3 d4
      clear ht hjL hs
      obtain ⟨k, b, p, q, a⟩ := s
      simp only at d0 d1 d2 d3 d4 HR2 HB2
      go_wp2_with fail
      go_roundw
      case rel => exact ⟨j + 1, by omega, by go_num, HR2.out _, HB2.out _⟩
      case measure => simp [intOf]; omega
    · have hd : decide ((j : Int) < (N : Int)) = false := decide_eq_false (by omega)
      obtain rfl : j = N := by omega
      have HE : Hid (half L j = nms L) := by show _ = _; rw [HN.out]; simp [half]
      go_wp2_with fail
      go_ret
      refine ⟨rfl, ?_, HB.out⟩
      rw [← HE.out]
      exact HR.out
end Go.Proofs.Ytcihkdmndpdmoaa
