/-
  Open where there is room, Age, Used, New and Clone of package desc; conditions as each theorem has them.
-/
import Derived.Test.YthfkjephnhnpoaaC
set_option linter.unusedSimpArgs false
set_option linter.unusedVariables false
namespace Go.Proofs.Ythfkjephnhnpoaa
open Go.RowKit

theorem cells_frozen {w : World} {b : Nat} {C : Array Value} {t : TypeId} (h : w.heap[b]? = some (.cells C t)) (o : Nat) : w.frozen? ⟨b, o, none⟩ = false := by
  simp [World.frozen?, h]

theorem res_cell_tmp {P : Program} {fn : Func} {p u : Tmp} {ty : TypeId} (h : fn.results = #[.cell p ty, .tmp u]) (tmps : Array Value) (w : World) (g : Nat) (t : TypeId) (cs : Array Value) (fr : Nat × Nat) (d : TypeDesc)
    (hp : tmps.getD p undef = .pointer (some ⟨g, 0, none⟩)) (hg : w.heap[g]? = some (.cells cs t fr))
    (hu : P.underlying ty = some d) (hd : (match d with | .struct _ | .array _ _ => true | _ => false) = true) (hi : (P.info? ty).map (·.size) = some cs.size) :
    (results fn tmps).run P w = .ok (.tuple #[.agg cs, tmps.getD u undef]) w := by
  have hp' : tmps[p]?.getD undef = .pointer (some ⟨g, 0, none⟩) := by simpa using hp
  rw [results_cell_tmp h]
  simp [hp', asAddr, run_loadVar_row w g t ty cs fr d hg hu hd hi, Result.andThen]

theorem info32 : (Try.prog.info? 32).map (·.size) = some 2 := by kernel_rfl

theorem kept_over {g : Nat} {w w2 : World} (k : Kept g g w w2) (b : Nat) (hb : w.heap.size ≤ b) (o : Nat) (u : Value) : Kept g g w (w2.setCell ⟨b, o, none⟩ u) :=
  ⟨k.os, k.tape, k.output, by simp [World.setCell]; exact k.size, fun i hi h1 h2 => (Below.heap_setCell _ _ _ _ (by simp; omega)).trans (k.block i hi h1 h2)⟩

theorem box_set {w : World} {b : Nat} {x y : Int} (h : w.heap[b]? = some (boxH x y)) (p q : Int) : ((w.setCell ⟨b, 0, none⟩ (.int .i64 p)).setCell ⟨b, 1, none⟩ (.int .i64 q)).heap[b]? = some (boxH p q) := by
  rw [heap_setCell_same (heap_setCell_same h _ _)]
  rfl

set_option maxHeartbeats 1000000 in
theorem open_ok (r g : Nat) (es : List En) (i : Nat) (e : En) (k n : Int) (w : World) (h : IsTab w r g es) (hf : lst es = i) (he : es[i]? = some e) :
    Calls Try.prog 13 #[.pointer (some ⟨r, 0, none⟩), .int .i64 k, .int .i64 n] w fun x w' => x = .returned (.tuple #[hnd i e.gen, .int .i64 0]) ∧ IsTab w' r g (es.set i { e with st := 1, k := k, n := n }) ∧ Kept g g w w' := by
  obtain ⟨c0, c1⟩ := thd_cells h.head
  obtain ⟨N, hN⟩ : ∃ N, N = es.length := ⟨_, rfl⟩
  have hr := h.lt.1
  have hm := h.max
  have hi := (List.getElem?_eq_some_iff.1 he).1
  rw [← hN] at c1 hm hi
  have H := hide h
  have HF := hide hf
  have HN := hide hN
  have HE := hide he
  clear h hf hN he
  go_enter Try.func13, Try.ntmps13
  go_wp2_with fail
  refine (isMade_at r true _ (alloc_cell c0 _)).mono ?_
  rintro x w1 ⟨rfl, rfl⟩
  go_wp2_with fail
  go_loopw [19] (fun v wr => ∃ j : Nat, j ≤ i ∧ v = .int .i64 j ∧ Hid (wr = w.alloc (boxH 0 0))) (fun v _ => N - (intOf v).toNat)
  case atStart => exact ⟨0, Nat.zero_le _, rfl, rfl⟩
  case round =>
    obtain ⟨j, hj, rfl, HW⟩ := hrel
    have hw := HW.out
    subst hw
    have hg := H.out.lt.2
    by_cases hlt : j < i
    · obtain ⟨a, ha⟩ := get_lt (show j < es.length by rw [← HN.out]; omega)
      have hst := lst_held es j a (by rw [HF.out]; exact hlt) ha
      obtain ⟨d0, _⟩ := H.out.row.cells ha
      have d0' := alloc_cell d0 (boxH 0 0)
      clear ha
      go_wp2_with fail
      go_roundw
      case rel => exact ⟨j + 1, by omega, by go_num, trivial⟩
      case measure => simp [intOf]; omega
    · obtain rfl : j = i := by omega
      have hst := lst_free es e (by rw [HF.out]; exact HE.out)
      obtain ⟨d0, _⟩ := H.out.row.cells HE.out
      have d0' := alloc_cell d0 (boxH 0 0)
      rw [hst] at d0 d0'
      have HST := hide hst
      clear hst hlt hj
      go_wp2_with fail
      refine (eopen_at g es j e k n (w.alloc (boxH 0 0)) (H.out.alloc _).row HE.out).mono ?_
      rintro x w2 ⟨rfl, hr2, hk2⟩
      have hb2 : w2.heap[w.heap.size]? = some (boxH 0 0) := (hk2.block w.heap.size (by simp) (by omega) (by omega)).trans (alloc_new _ _)
      have hz2 : w.heap.size < w2.heap.size := lt_of_some hb2
      have hr2' : r < w2.heap.size := by omega
      have hg2' : g < w2.heap.size := by omega
      have ht2 : IsTab w2 r g (es.set j { e with st := 1, k := k, n := n }) := (H.out.alloc (boxH 0 0)).put j _ ⟨(show (1 : Nat) < 3 by decide), (H.out.ok j e HE.out).one, (H.out.ok j e HE.out).top, fun _ => (H.out.ok j e HE.out).last (by rw [HST.out]; decide)⟩ (hk2.block r (by simp; omega) H.out.ne H.out.ne) hr2
      obtain ⟨e0, e1⟩ := thd_cells ht2.head
      rw [List.length_set, ← HN.out] at e1
      obtain ⟨_, q1, _⟩ := ht2.row.cells (set_at HE.out _)
      have b0 : w2.cell? ⟨w.heap.size, 0, none⟩ = some (.int .i64 0) := by simp only [World.cell?, hb2]; rfl
      have b1 : w2.cell? ⟨w.heap.size, 1, none⟩ = some (.int .i64 0) := by simp only [World.cell?, hb2]; rfl
      have bf0 := cells_frozen hb2 0
      have bf1 := cells_frozen hb2 1
      have HT2 := hide ht2
      have HB2 := hide hb2
      have HK2 := hide hk2
      clear hr2 hk2 ht2 hb2 e0 d0 d0'
      go_wp2_with fail
      refine (handle_at r g N j { e with st := 1, k := k, n := n } w2 e1 hi hm q1).mono ?_
      rintro x w3 ⟨rfl, rfl⟩
      go_wp2_with fail
      have hbox := alloc_old (boxH j e.gen) (box_set HB2.out j e.gen)
      refine bodyPost_ret (res_cell_tmp rfl _ _ w.heap.size 32 #[.int .i64 (j : Nat), .int .i64 (e.gen : Nat)] (0, 0) _ rfl hbox Try.underlying32 rfl info32) rfl ?_
      refine ⟨rfl, HT2.out.keep ?_ ?_, ?_⟩
      · rw [Below.heap_alloc _ _ _ (by simp [World.setCell]; omega), Below.heap_setCell _ _ _ _ (by simp; omega), Below.heap_setCell _ _ _ _ (by simp; omega)]
      · rw [Below.heap_alloc _ _ _ (by simp [World.setCell]; omega), Below.heap_setCell _ _ _ _ (by simp; omega), Below.heap_setCell _ _ _ _ (by simp; omega)]
      · have k1 : Kept g g w w2 := kept_new ((Below.refl _ _).alloc (Nat.le_refl _) _) HK2.out
        exact (kept_over (kept_over k1 _ (Nat.le_refl _) _ _) _ (Nat.le_refl _) _ _).alloc _

set_option maxHeartbeats 1000000 in
theorem age_out (r g : Nat) (es : List En) (x y : Int) (w : World) (h : IsTab w r g es) (hx : x < 0 ∨ (es.length : Int) ≤ x) :
    Calls Try.prog 22 #[.pointer (some ⟨r, 0, none⟩), .int .i64 x, .int .i64 y] w fun e w' => e = .returned (.int .i64 5) ∧ w = w' := by
  obtain ⟨c0, c1⟩ := thd_cells h.head
  have hm := h.max
  clear h
  go_enter Try.func22, Try.ntmps22
  go_wp2_with fail
  refine (isMade_at r true _ c0).mono ?_
  rintro e w1 ⟨rfl, rfl⟩
  go_wp2_with fail
  refine (has_out r g es.length x _ c1 hx hm).mono ?_
  rintro e w1 ⟨rfl, rfl⟩
  go_wp2_with fail
  go_ret
  exact ⟨rfl, rfl⟩

set_option maxHeartbeats 1000000 in
theorem age_held (r g : Nat) (es : List En) (i : Nat) (e : En) (y : Int) (w : World) (h : IsTab w r g es) (he : es[i]? = some e) (hs : e.st ≠ 0) :
    Calls Try.prog 22 #[.pointer (some ⟨r, 0, none⟩), .int .i64 i, .int .i64 y] w fun x w' => x = .returned (.int .i64 5) ∧ w = w' := by
  obtain ⟨c0, c1⟩ := thd_cells h.head
  obtain ⟨d0, d1, _⟩ := h.row.cells he
  have hm := h.max
  have hi := (List.getElem?_eq_some_iff.1 he).1
  have h3 := (h.ok i e he).st
  have h4 : e.st = 1 ∨ e.st = 2 := by omega
  clear h h3 hs
  rcases h4 with h4 | h4
  all_goals
    rw [h4] at d0
    go_enter Try.func22, Try.ntmps22
    go_wp2_with fail
    refine (isMade_at r true _ c0).mono ?_
    rintro e w1 ⟨rfl, rfl⟩
    go_wp2_with fail
    refine (has_in r g es.length i _ c1 hi hm).mono ?_
    rintro e w1 ⟨rfl, rfl⟩
    go_wp2_with fail
    go_ret
    exact ⟨rfl, rfl⟩

set_option maxHeartbeats 1000000 in
theorem age_arg (r g : Nat) (es : List En) (i : Nat) (e : En) (y : Int) (w : World) (h : IsTab w r g es) (he : es[i]? = some e) (hs : e.st = 0) (hy : y < e.gen ∨ 1048576 < y) :
    Calls Try.prog 22 #[.pointer (some ⟨r, 0, none⟩), .int .i64 i, .int .i64 y] w fun x w' => x = .returned (.int .i64 2) ∧ w = w' := by
  obtain ⟨c0, c1⟩ := thd_cells h.head
  obtain ⟨d0, d1, _⟩ := h.row.cells he
  rw [hs] at d0
  have hm := h.max
  have hi := (List.getElem?_eq_some_iff.1 he).1
  clear h
  by_cases hlt : y < e.gen
  all_goals
    have hgt : y < e.gen ∨ 1048576 < y := hy
    go_enter Try.func22, Try.ntmps22
    go_wp2_with fail
    refine (isMade_at r true _ c0).mono ?_
    rintro e w1 ⟨rfl, rfl⟩
    go_wp2_with fail
    refine (has_in r g es.length i _ c1 hi hm).mono ?_
    rintro e w1 ⟨rfl, rfl⟩
    go_wp2_with fail
    go_ret
    exact ⟨rfl, rfl⟩

set_option maxRecDepth 100000 in
set_option maxHeartbeats 1000000 in
theorem age_ok (r g : Nat) (es : List En) (i : Nat) (e : En) (y : Nat) (w : World) (h : IsTab w r g es) (he : es[i]? = some e) (hs : e.st = 0) (hy : e.gen ≤ y) (hy2 : y ≤ 1048576) :
    Calls Try.prog 22 #[.pointer (some ⟨r, 0, none⟩), .int .i64 i, .int .i64 y] w fun x w' => x = .returned (.int .i64 0) ∧ IsTab w' r g (es.set i { e with gen := y }) ∧ Kept g g w w' := by
  obtain ⟨c0, c1⟩ := thd_cells h.head
  obtain ⟨d0, d1, _⟩ := h.row.cells he
  have f1 := h.row.frozen (i * 4 + 1)
  rw [hs] at d0
  have hm := h.max
  have hi := (List.getElem?_eq_some_iff.1 he).1
  have hd1 : decide ((y : Int) < e.gen) = false := by simp; omega
  have hd2 : decide ((1048576 : Int) < y) = false := by simp; omega
  have HY := hide (show e.gen ≤ y ∧ y ≤ 1048576 from ⟨hy, hy2⟩)
  have H := hide h
  have HE := hide he
  clear h he
  go_enter Try.func22, Try.ntmps22
  go_wp2_with fail
  refine (isMade_at r true _ c0).mono ?_
  rintro e w1 ⟨rfl, rfl⟩
  go_wp2_with fail
  refine (has_in r g es.length i _ c1 hi hm).mono ?_
  rintro e w1 ⟨rfl, rfl⟩
  go_wp2_with fail
  go_ret
  exact ⟨rfl, H.out.put i { e with gen := y } ⟨(H.out.ok i e HE.out).st, Nat.le_trans (H.out.ok i e HE.out).one HY.out.1, Nat.le_trans HY.out.2 (by decide), fun _ => HY.out.2⟩
    (Below.heap_setCell _ _ _ _ (by simpa using H.out.ne)) (H.out.row.set1 HE.out y), (Kept.refl g g w).set _ _⟩

end Go.Proofs.Ythfkjephnhnpoaa
