/-
  The calls of a table of package desc; conditions as each theorem has them.
-/
import Derived.Test.YthfkjephnhnpoaaB
set_option linter.unusedSimpArgs false
set_option linter.unusedVariables false
namespace Go.Proofs.Ythfkjephnhnpoaa
open Go.RowKit

/-- What is wrong with a handle. -/
def code (es : List En) (x y : Int) : Int :=
  match (if 0 ≤ x then es[x.toNat]? else none) with
  | none => 5
  | some e => if y < 1 then 5 else if e.st = 1 ∧ y = e.gen then 0 else if y < e.gen then 30 else 5

theorem code_ok {es : List En} {x y : Int} (h : code es x y = 0) : ∃ (i : Nat) (e : En), x = i ∧ es[i]? = some e ∧ e.st = 1 ∧ y = e.gen := by
  unfold code at h
  by_cases hx : 0 ≤ x
  · rw [if_pos hx] at h
    cases he : es[x.toNat]? with
    | none => rw [he] at h; simp at h
    | some e =>
      rw [he] at h
      simp only at h
      by_cases h1 : y < 1
      · rw [if_pos h1] at h; simp at h
      · rw [if_neg h1] at h
        by_cases h2 : e.st = 1 ∧ y = e.gen
        · exact ⟨x.toNat, e, by omega, he, h2.1, h2.2⟩
        · rw [if_neg h2] at h
          split at h <;> simp at h
  · rw [if_neg hx] at h; simp at h
theorem code_of {es : List En} {i : Nat} {e : En} (he : es[i]? = some e) (hs : e.st = 1) (h1 : 1 ≤ e.gen) : code es i e.gen = 0 := by
  unfold code
  rw [if_pos (by omega)]
  simp only [Int.toNat_natCast, he]
  rw [if_neg (by omega), if_pos (by simpa using hs)]

theorem find_bad (r g : Nat) (es : List En) (x y : Int) (w : World) (h : IsTab w r g es) (hc : code es x y ≠ 0) :
    Calls Try.prog 24 #[.pointer (some ⟨r, 0, none⟩), hnd x y] w fun e w' => e = .returned (.tuple #[.pointer none, .int .i64 (code es x y)]) ∧ Below w.heap.size w w' := by
  by_cases hx : 0 ≤ x
  · cases he : es[x.toNat]? with
    | none =>
      have : code es x y = 5 := by unfold code; rw [if_pos hx, he]
      rw [this]
      exact find_out r g es x y w h (Or.inr (by have := List.getElem?_eq_none_iff.1 he; omega))
    | some e =>
      obtain ⟨i, rfl⟩ : ∃ i : Nat, x = i := ⟨x.toNat, by omega⟩
      rw [Int.toNat_natCast] at he
      have ec : code es i y = if y < 1 then 5 else if e.st = 1 ∧ y = e.gen then 0 else if y < e.gen then 30 else 5 := by
        unfold code; rw [if_pos hx, Int.toNat_natCast, he]
      by_cases h1 : y < 1
      · rw [if_pos h1] at ec
        rw [ec]
        exact find_low r g es i e y w h he h1
      · rw [if_neg h1] at ec
        by_cases h2 : e.st = 1 ∧ y = e.gen
        · rw [if_pos h2] at ec; exact absurd ec hc
        · rw [if_neg h2] at ec
          rw [ec]
          by_cases h3 : e.st = 1
          · exact find_open r g es i e y w h he (by omega) h3 (fun h4 => h2 ⟨h3, h4⟩)
          · exact find_shut r g es i e y w h he (by omega) h3
  · have : code es x y = 5 := by unfold code; rw [if_neg hx]
    rw [this]
    exact find_out r g es x y w h (Or.inl (by omega))

theorem box_cells (w : World) (x y : Int) : (w.alloc (boxH x y)).cell? ⟨w.heap.size, 0, none⟩ = some (.int .i64 x) ∧ (w.alloc (boxH x y)).cell? ⟨w.heap.size, 1, none⟩ = some (.int .i64 y) := by
  have := alloc_new w (boxH x y)
  constructor
  · simp only [World.cell?, this]; rfl
  · simp only [World.cell?, this]; rfl

theorem IsTab.alloc {w : World} {r g : Nat} {es : List En} (h : IsTab w r g es) (o : Obj) : IsTab (w.alloc o) r g es := h.keep (Below.heap_alloc _ _ _ h.lt.1) (Below.heap_alloc _ _ _ h.lt.2)
theorem below_new {w w' : World} (o : Obj) (h : Below (w.alloc o).heap.size (w.alloc o) w') : Below w.heap.size w w' :=
  ((Below.refl w.heap.size w).alloc (Nat.le_refl _) o).trans (h.mono (by simp))

set_option maxHeartbeats 400000 in
theorem lookup_bad (r g : Nat) (es : List En) (x y : Int) (w : World) (h : IsTab w r g es) (hc : code es x y ≠ 0) :
    Calls Try.prog 20 #[.pointer (some ⟨r, 0, none⟩), hnd x y] w fun e w' => e = .returned (.tuple #[.int .i64 0, .int .i64 0, .int .i64 (code es x y)]) ∧ Below w.heap.size w w' := by
  have H := hide h
  obtain ⟨c, hcc⟩ : ∃ c, c = code es x y := ⟨_, rfl⟩
  have hc0 : ¬ c = 0 := by rw [hcc]; exact hc
  have HF := hide (find_bad r g es x y _ (h.alloc (boxH x y)) hc)
  rw [← hcc] at HF ⊢
  clear h hc hcc
  go_enter Try.func20, Try.ntmps20
  go_wp2_with fail
  refine HF.out.mono ?_
  rintro e w1 ⟨rfl, hb⟩
  have HB := hide hb
  clear hb
  go_wp2_with fail
  go_ret3
  exact ⟨rfl, below_new _ HB.out⟩

set_option maxHeartbeats 400000 in
theorem lookup_ok (r g : Nat) (es : List En) (i : Nat) (e : En) (w : World) (h : IsTab w r g es) (he : es[i]? = some e) (hs : e.st = 1) :
    Calls Try.prog 20 #[.pointer (some ⟨r, 0, none⟩), hnd i e.gen] w fun x w' => x = .returned (.tuple #[.int .i64 e.k, .int .i64 e.n, .int .i64 0]) ∧ Below w.heap.size w w' := by
  have H := hide h
  have HF := hide (find_ok r g es i e _ (h.alloc (boxH i e.gen)) he hs)
  have HE := hide he
  clear h he
  go_enter Try.func20, Try.ntmps20
  go_wp2_with fail
  refine HF.out.mono ?_
  rintro x w1 ⟨rfl, hb⟩
  have hl := H.out.lt
  obtain ⟨d0, d1, d2, d3⟩ := ((H.out.alloc (boxH i e.gen)).below hb (by simp; omega) (by simp; omega)).row.cells HE.out
  have HB := hide hb
  clear hb d0 d1
  go_wp2_with fail
  go_quiet (fail)
  go_wp2_with fail
  go_ret3
  exact ⟨rfl, below_drewN (below_new _ HB.out) _⟩

set_option maxHeartbeats 400000 in
theorem set_bad (r g : Nat) (es : List En) (x y k n : Int) (w : World) (h : IsTab w r g es) (hc : code es x y ≠ 0) :
    Calls Try.prog 21 #[.pointer (some ⟨r, 0, none⟩), hnd x y, .int .i64 k, .int .i64 n] w fun e w' => e = .returned (.int .i64 (code es x y)) ∧ Below w.heap.size w w' := by
  have H := hide h
  obtain ⟨c, hcc⟩ : ∃ c, c = code es x y := ⟨_, rfl⟩
  have hc0 : ¬ c = 0 := by rw [hcc]; exact hc
  have HF := hide (find_bad r g es x y _ (h.alloc (boxH x y)) hc)
  rw [← hcc] at HF ⊢
  clear h hc hcc
  go_enter Try.func21, Try.ntmps21
  go_wp2_with fail
  refine HF.out.mono ?_
  rintro e w1 ⟨rfl, hb⟩
  have HB := hide hb
  clear hb
  go_wp2_with fail
  go_ret
  exact ⟨rfl, below_new _ HB.out⟩

theorem kept_new {g : Nat} {w w1 w' : World} (h : Below w.heap.size w w1) (k : Kept g g w1 w') : Kept g g w w' := (Kept.of_below h).trans k

set_option maxHeartbeats 400000 in
theorem set_ok (r g : Nat) (es : List En) (i : Nat) (e : En) (k n : Int) (w : World) (h : IsTab w r g es) (he : es[i]? = some e) (hs : e.st = 1) :
    Calls Try.prog 21 #[.pointer (some ⟨r, 0, none⟩), hnd i e.gen, .int .i64 k, .int .i64 n] w fun x w' => x = .returned (.int .i64 0) ∧ IsTab w' r g (es.set i { e with k := k, n := n }) ∧ Kept g g w w' := by
  have H := hide h
  have HF := hide (find_ok r g es i e _ (h.alloc (boxH i e.gen)) he hs)
  have HE := hide he
  clear h he
  go_enter Try.func21, Try.ntmps21
  go_wp2_with fail
  refine HF.out.mono ?_
  rintro x w1 ⟨rfl, hb⟩
  have hl := H.out.lt
  have ht := (H.out.alloc (boxH i e.gen)).below hb (by simp; omega) (by simp; omega)
  obtain ⟨d0, d1, d2, d3⟩ := ht.row.cells HE.out
  have f2 := ht.row.frozen (i * 4 + 2)
  have f3 := ht.row.frozen (i * 4 + 3)
  have HB := hide hb
  have HT := hide ht
  clear hb d0 d1 ht
  go_wp2_with fail
  go_ret
  have e1 := (HT.out.row.set2 HE.out k).set3 (set_at HE.out { e with k := k }) n
  rw [List.set_set] at e1
  exact ⟨rfl, HT.out.put i { e with k := k, n := n } ⟨(HT.out.ok i e HE.out).st, (HT.out.ok i e HE.out).one, (HT.out.ok i e HE.out).top, (HT.out.ok i e HE.out).last⟩
    ((Below.heap_setCell _ _ _ _ (by simpa using HT.out.ne)).trans (Below.heap_setCell _ _ _ _ (by simpa using HT.out.ne))) e1, kept_new (below_new _ HB.out) (((Kept.refl g g w1).set _ _).set _ _)⟩

/-- An entry behind Close. -/
def closed (e : En) : En := ⟨if 1048576 < e.gen + 1 then 2 else 0, e.gen + 1, 0, 0⟩

set_option maxRecDepth 100000 in
set_option maxHeartbeats 400000 in
theorem eclose_at (g : Nat) (es : List En) (i : Nat) (e : En) (w : World) (h : Row w g es) (he : es[i]? = some e) (hg : e.gen ≤ 1048576) :
    Calls Try.prog 25 #[.pointer (some ⟨g, i * 4, none⟩)] w fun x w' => x = .returned (.tuple #[]) ∧ Row w' g (es.set i (closed e)) ∧ Kept g g w w' := by
  obtain ⟨d0, d1, d2, d3⟩ := h.cells he
  have f0 := h.frozen (i * 4)
  have f1 := h.frozen (i * 4 + 1)
  have f2 := h.frozen (i * 4 + 2)
  have f3 := h.frozen (i * 4 + 3)
  have H := hide h
  have HE := hide he
  clear h he
  by_cases hl : (1048576 : Int) < e.gen + 1
  · have hz : closed e = ⟨2, e.gen + 1, 0, 0⟩ := by unfold closed; rw [if_pos (by omega)]
    go_enter Try.func25, Try.ntmps25
    go_wp2_with fail
    go_end0
    have e1 := ((((H.out.set0 HE.out 0).set1 (set_at HE.out _) (e.gen + 1)).set2 (set_at (set_at HE.out _) _) 0).set3 (set_at (set_at (set_at HE.out _) _) _) 0).set0 (set_at (set_at (set_at (set_at HE.out _) _) _) _) 2
    simp only [List.set_set] at e1
    try rw [hz]
    exact ⟨rfl, e1, (((((Kept.refl g g w).set _ _).set _ _).set _ _).set _ _).set _ _⟩
  · have hz : closed e = ⟨0, e.gen + 1, 0, 0⟩ := by unfold closed; rw [if_neg (by omega)]
    go_enter Try.func25, Try.ntmps25
    go_wp2_with fail
    go_end0
    have e1 := ((((H.out.set0 HE.out 0).set1 (set_at HE.out _) (e.gen + 1)).set2 (set_at (set_at HE.out _) _) 0).set3 (set_at (set_at (set_at HE.out _) _) _) 0)
    simp only [List.set_set] at e1
    try rw [hz]
    exact ⟨rfl, e1, ((((Kept.refl g g w).set _ _).set _ _).set _ _).set _ _⟩

set_option maxHeartbeats 400000 in
theorem eopen_at (g : Nat) (es : List En) (i : Nat) (e : En) (k n : Int) (w : World) (h : Row w g es) (he : es[i]? = some e) :
    Calls Try.prog 26 #[.pointer (some ⟨g, i * 4, none⟩), .int .i64 k, .int .i64 n] w fun x w' => x = .returned (.tuple #[]) ∧ Row w' g (es.set i { e with st := 1, k := k, n := n }) ∧ Kept g g w w' := by
  obtain ⟨d0, d1, d2, d3⟩ := h.cells he
  have f0 := h.frozen (i * 4)
  have f1 := h.frozen (i * 4 + 1)
  have f2 := h.frozen (i * 4 + 2)
  have f3 := h.frozen (i * 4 + 3)
  have H := hide h
  have HE := hide he
  clear h he
  go_enter Try.func26, Try.ntmps26
  go_wp2_with fail
  go_end0
  have e1 := ((H.out.set0 HE.out 1).set2 (set_at HE.out { e with st := 1 }) k).set3 (set_at (set_at HE.out { e with st := 1 }) { e with st := 1, k := k }) n
  rw [List.set_set, List.set_set] at e1
  exact ⟨rfl, e1, (((Kept.refl g g w).set _ _).set _ _).set _ _⟩

theorem closed_ok {e : En} (h : e.Ok) (hs : e.st = 1) : (closed e).Ok := by
  have h1 := h.one
  have h2 := h.last (by omega)
  unfold closed
  refine ⟨?_, ?_, ?_, ?_⟩
  · show (if 1048576 < e.gen + 1 then 2 else 0) < 3
    split <;> omega
  · show 1 ≤ e.gen + 1
    omega
  · show e.gen + 1 ≤ 1048577
    omega
  · show (if 1048576 < e.gen + 1 then 2 else 0) ≠ 2 → e.gen + 1 ≤ 1048576
    split <;> omega

set_option maxHeartbeats 400000 in
theorem close_bad (r g : Nat) (es : List En) (x y : Int) (w : World) (h : IsTab w r g es) (hc : code es x y ≠ 0) :
    Calls Try.prog 12 #[.pointer (some ⟨r, 0, none⟩), hnd x y] w fun e w' => e = .returned (.int .i64 (code es x y)) ∧ Below w.heap.size w w' := by
  have H := hide h
  obtain ⟨c, hcc⟩ : ∃ c, c = code es x y := ⟨_, rfl⟩
  have hc0 : ¬ c = 0 := by rw [hcc]; exact hc
  have HF := hide (find_bad r g es x y _ (h.alloc (boxH x y)) hc)
  rw [← hcc] at HF ⊢
  clear h hc hcc
  go_enter Try.func12, Try.ntmps12
  go_wp2_with fail
  refine HF.out.mono ?_
  rintro e w1 ⟨rfl, hb⟩
  have HB := hide hb
  clear hb
  go_wp2_with fail
  go_ret
  exact ⟨rfl, below_new _ HB.out⟩

set_option maxHeartbeats 400000 in
theorem close_ok (r g : Nat) (es : List En) (i : Nat) (e : En) (w : World) (h : IsTab w r g es) (he : es[i]? = some e) (hs : e.st = 1) :
    Calls Try.prog 12 #[.pointer (some ⟨r, 0, none⟩), hnd i e.gen] w fun x w' => x = .returned (.int .i64 0) ∧ IsTab w' r g (es.set i (closed e)) ∧ Kept g g w w' := by
  have H := hide h
  have HF := hide (find_ok r g es i e _ (h.alloc (boxH i e.gen)) he hs)
  have HE := hide he
  have HO := hide (h.ok i e he)
  have HS := hide hs
  clear h he hs
  go_enter Try.func12, Try.ntmps12
  go_wp2_with fail
  refine HF.out.mono ?_
  rintro x w1 ⟨rfl, hb⟩
  have hl := H.out.lt
  have ht := (H.out.alloc (boxH i e.gen)).below hb (by simp; omega) (by simp; omega)
  have HB := hide hb
  have HT := hide ht
  clear hb ht
  go_wp2_with fail
  refine (eclose_at g es i e w1 HT.out.row HE.out (HO.out.last (by rw [HS.out]; decide))).mono ?_
  rintro x w2 ⟨rfl, hr2, hk2⟩
  have HR2 := hide hr2
  have HK2 := hide hk2
  clear hr2 hk2
  go_wp2_with fail
  go_ret
  exact ⟨rfl, HT.out.put i (closed e) (closed_ok HO.out HS.out) (HK2.out.block r HT.out.lt.1 HT.out.ne HT.out.ne) HR2.out, kept_new (below_new _ HB.out) HK2.out⟩

/-- The least free entry. -/
def lst : List En → Nat
  | [] => 0
  | e :: t => if e.st = 0 then 0 else lst t + 1
theorem lst_le : ∀ es : List En, lst es ≤ es.length
  | [] => Nat.le_refl _
  | e :: t => by
    unfold lst
    have := lst_le t
    split <;> simp
    omega
theorem lst_free : ∀ (es : List En) (e : En), es[lst es]? = some e → e.st = 0
  | [], e, h => by simp [lst] at h
  | a :: t, e, h => by
    unfold lst at h
    split at h
    · simp at h; subst h; assumption
    · exact lst_free t e (by simpa using h)
theorem lst_held : ∀ (es : List En) (j : Nat) (e : En), j < lst es → es[j]? = some e → e.st ≠ 0
  | [], j, e, h, _ => by simp [lst] at h
  | a :: t, j, e, h, he => by
    unfold lst at h
    split at h
    · omega
    · cases j with
      | zero => simp at he; subst he; assumption
      | succ j => exact lst_held t j e (by omega) (by simpa using he)

theorem get_lt {es : List En} {j : Nat} (h : j < es.length) : ∃ e, es[j]? = some e := ⟨es[j], List.getElem?_eq_getElem h⟩

set_option maxHeartbeats 1000000 in
theorem open_full (r g : Nat) (es : List En) (k n : Int) (w : World) (h : IsTab w r g es) (hf : lst es = es.length) :
    Calls Try.prog 13 #[.pointer (some ⟨r, 0, none⟩), .int .i64 k, .int .i64 n] w fun x w' => x = .returned (.tuple #[hnd 0 0, .int .i64 4]) ∧ Below w.heap.size w w' := by
  obtain ⟨c0, c1⟩ := thd_cells h.head
  obtain ⟨N, hN⟩ : ∃ N, N = es.length := ⟨_, rfl⟩
  have hr := h.lt.1
  have hm := h.max
  rw [← hN] at c1 hm hf
  have H := hide h
  have HF := hide hf
  have HN := hide hN
  clear h hf hN
  go_enter Try.func13, Try.ntmps13
  go_wp2_with fail
  refine (isMade_at r true _ (alloc_cell c0 _)).mono ?_
  rintro e w1 ⟨rfl, rfl⟩
  go_wp2_with fail
  go_loopw [19] (fun i wr => ∃ j : Nat, j ≤ N ∧ i = .int .i64 j ∧ Hid (wr = w.alloc (boxH 0 0))) (fun i _ => N - (intOf i).toNat)
  case atStart => exact ⟨0, Nat.zero_le _, rfl, rfl⟩
  case round =>
    obtain ⟨j, hj, rfl, HW⟩ := hrel
    have hw := HW.out
    subst hw
    by_cases hlt : j < N
    · obtain ⟨e, he⟩ := get_lt (show j < es.length by rw [← HN.out]; exact hlt)
      have hst := lst_held es j e (by rw [HF.out]; exact hlt) he
      obtain ⟨d0, _⟩ := H.out.row.cells he
      have hg := H.out.lt.2
      have d0' := alloc_cell d0 (boxH 0 0)
      clear he
      go_wp2_with fail
      go_roundw
      case rel => exact ⟨j + 1, by omega, by go_num, trivial⟩
      case measure => simp [intOf]; omega
    · obtain rfl : j = N := by omega
      go_wp2_with fail
      go_returns
      exact ⟨rfl, (Below.refl _ _).alloc (Nat.le_refl _) _⟩

end Go.Proofs.Ythfkjephnhnpoaa
