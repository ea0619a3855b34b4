/-
  The reference table's calls that write; conditions as each theorem has them.
-/
import Derived.Test.YthfkjephnhnpoaaX
set_option linter.unusedSimpArgs false
set_option linter.unusedVariables false
namespace Go.Proofs.Ythfkjephnhnpoaa
open Go.RowKit

/-- A row whose beginning is L. -/
def RRow (w : World) (b : Nat) (L rest : List Value) : Prop := w.heap[b]? = some (.cells (L ++ rest).toArray 63)
theorem RRow.set {w : World} {b : Nat} {L rest : List Value} (h : RRow w b L rest) (o : Nat) (v : Value) (ho : o < L.length) : RRow (w.setCell ⟨b, o, none⟩ v) b (L.set o v) rest := by
  unfold RRow at h ⊢
  rw [heap_setCell_same h]
  congr 2
  apply Array.ext'
  simp [List.set_append, ho]

theorem flat5_set0 : ∀ (es : List En) (i : Nat) (e : En), es[i]? = some e → e.st = 0 → (flat5 es).set (i * 5) (.bool true) = flat5 (es.set i { e with st := 1 })
  | [], i, e, h, _ => by simp at h
  | a :: t, 0, e, h, h0 => by simp at h; subst h; simp [flat5, h0]
  | a :: t, i + 1, e, h, h0 => by
    have := flat5_set0 t i e (by simpa using h) h0
    rw [show (i + 1) * 5 = i * 5 + 5 by omega]
    simp [flat5, this]
theorem flat5_set2 : ∀ (es : List En) (i : Nat) (e : En) (x : Nat), es[i]? = some e → (flat5 es).set (i * 5 + 2) (.int .i64 (x : Nat)) = flat5 (es.set i { e with gen := x })
  | [], i, e, x, h => by simp at h
  | a :: t, 0, e, x, h => by simp at h; subst h; simp [flat5]
  | a :: t, i + 1, e, x, h => by
    have := flat5_set2 t i e x (by simpa using h)
    rw [show (i + 1) * 5 + 2 = i * 5 + 2 + 5 by omega]
    simp [flat5, this]
theorem flat5_set3 : ∀ (es : List En) (i : Nat) (e : En) (x : Int), es[i]? = some e → (flat5 es).set (i * 5 + 3) (.int .i64 x) = flat5 (es.set i { e with k := x })
  | [], i, e, x, h => by simp at h
  | a :: t, 0, e, x, h => by simp at h; subst h; simp [flat5]
  | a :: t, i + 1, e, x, h => by
    have := flat5_set3 t i e x (by simpa using h)
    rw [show (i + 1) * 5 + 3 = i * 5 + 3 + 5 by omega]
    simp [flat5, this]
theorem flat5_set4 : ∀ (es : List En) (i : Nat) (e : En) (x : Int), es[i]? = some e → (flat5 es).set (i * 5 + 4) (.int .i64 x) = flat5 (es.set i { e with n := x })
  | [], i, e, x, h => by simp at h
  | a :: t, 0, e, x, h => by simp at h; subst h; simp [flat5]
  | a :: t, i + 1, e, x, h => by
    have := flat5_set4 t i e x (by simpa using h)
    rw [show (i + 1) * 5 + 4 = i * 5 + 4 + 5 by omega]
    simp [flat5, this]

theorem RT.put {w w' : World} {y b cap : Nat} {es : List En} {rest : List Value} (h : RT w y b es) (r : RefT w y b cap es rest) (i : Nat) (e : En) (ho : e.Ok) (h1 : w'.heap[y]? = w.heap[y]?) (h2 : RRow w' b (flat5 (es.set i e)) rest) : RT w' y b (es.set i e) := by
  refine ⟨Or.inr ⟨cap, rest, ?_, h2, r.ne⟩, by rw [List.length_set]; exact h.max, fun j x hx => ?_⟩
  · rw [List.length_set]; exact h1.trans r.head
  · rw [List.getElem?_set] at hx
    split at hx
    · split at hx
      · simp at hx; subst hx; exact ho
      · cases hx
    · exact h.ok j x hx

theorem Kept.drew {r g : Nat} {a b : World} (h : Kept r g a b) : Kept r g a b.drew := ⟨h.os, h.tape, h.output, h.size, h.block⟩

set_option maxHeartbeats 1000000 in
theorem rset_bad (y b : Nat) (es : List En) (x z k n : Int) (w : World) (h : RT w y b es) (hc : code es x z ≠ 0) :
    Calls Try.prog 31 #[.pointer (some ⟨y, 0, none⟩), hnd x z, .int .i64 k, .int .i64 n] w fun e w' => e = .returned (.int .i64 (code es x z)) ∧ Below w.heap.size w w' := by
  obtain ⟨c, hcc⟩ : ∃ c, c = code es x z := ⟨_, rfl⟩
  have hc0 : ¬ c = 0 := by rw [hcc]; exact hc
  have HF := hide (rlook_any y b es x z _ (h.alloc (boxH x z)))
  rw [← hcc] at HF ⊢
  clear h hc hcc
  go_enter Try.func31, Try.ntmps31
  go_wp2_with fail
  refine HF.out.mono ?_
  rintro e w1 ⟨rfl, hb⟩
  have HB := hide hb
  clear hb
  go_wp2_with fail
  go_ret
  exact ⟨rfl, below_new _ HB.out⟩

set_option maxHeartbeats 1000000 in
theorem rset_ok (y b : Nat) (es : List En) (i : Nat) (e : En) (k n : Int) (w : World) (h : RT w y b es) (he : es[i]? = some e) (hs : e.st = 1) :
    Calls Try.prog 31 #[.pointer (some ⟨y, 0, none⟩), hnd i e.gen, .int .i64 k, .int .i64 n] w fun x w' => x = .returned (.int .i64 0) ∧ RT w' y b (es.set i { e with k := k, n := n }) ∧ Kept b b w w' := by
  have HF := hide (rlook_any y b es i e.gen _ (h.alloc (boxH i e.gen)))
  rw [code_of he hs (h.ok i e he).one] at HF
  have HE := hide he
  have H := hide h
  have hi := (List.getElem?_eq_some_iff.1 he).1
  have hm := h.max
  clear h he
  go_enter Try.func31, Try.ntmps31
  go_wp2_with fail
  refine HF.out.mono ?_
  rintro x w1 ⟨rfl, hb⟩
  have hl := H.out.lt
  have ht := (H.out.alloc (boxH i e.gen)).below hb (by simp; omega) (by simp; omega)
  obtain ⟨cap, rest, r⟩ := ht.get HE.out
  have hc := yhd_cell r.head
  obtain ⟨d0, d1, d2, d3, d4⟩ := r.cells HE.out
  have f3 := r.frozen (i * 5 + 3)
  have f4 := r.frozen (i * 5 + 4)
  have hbx : Box w1 w.heap.size i e.gen := (box_new w i e.gen).below hb (by simp)
  obtain ⟨x0, x1⟩ := hbx.cells
  have n1 : ¬ y = b := r.ne
  have n2 : ¬ b = y := Ne.symm r.ne
  have n3 : ¬ b = w.heap.size := by omega
  have n4 : ¬ w.heap.size = b := by omega
  have HB := hide hb
  have HR := hide r
  have HT := hide ht
  clear hb d0 d1 d2 ht r hbx
  go_wp2_with fail
  go_region_held3 (fun w' => w'.cell? ⟨y, 0, none⟩ = some (.slice (some ⟨b, 0, none⟩) es.length cap) ∧ w'.cell? ⟨w.heap.size, 0, none⟩ = some (.int .i64 (i : Nat))) (go_keep) (fail)
  all_goals
    go_wp2_with fail
    go_ret
    have e1 : RRow w1 b (flat5 es) rest := HR.out.row
    have e2 := (e1.set (i * 5 + 3) (.int .i64 k) (by rw [flat5_length]; omega)).set (i * 5 + 4) (.int .i64 n) (by rw [List.length_set, flat5_length]; omega)
    rw [flat5_set3 es i e k HE.out, flat5_set4 _ i _ n (set_at HE.out _), List.set_set] at e2
    refine ⟨rfl, HT.out.put HR.out i { e with k := k, n := n } ⟨(HT.out.ok i e HE.out).st, (HT.out.ok i e HE.out).one, (HT.out.ok i e HE.out).top, (HT.out.ok i e HE.out).last⟩ ?_ e2, (kept_new (below_new _ HB.out) (((Kept.refl b b w1).set _ _).set _ _)).drew⟩
    exact (Below.heap_setCell _ _ _ _ (by simpa using n1)).trans (Below.heap_setCell _ _ _ _ (by simpa using n1))

set_option maxHeartbeats 1000000 in
theorem rclose_bad (y b : Nat) (es : List En) (x z : Int) (w : World) (h : RT w y b es) (hc : code es x z ≠ 0) :
    Calls Try.prog 29 #[.pointer (some ⟨y, 0, none⟩), hnd x z] w fun e w' => e = .returned (.int .i64 (code es x z)) ∧ Below w.heap.size w w' := by
  obtain ⟨c, hcc⟩ : ∃ c, c = code es x z := ⟨_, rfl⟩
  have hc0 : ¬ c = 0 := by rw [hcc]; exact hc
  have HF := hide (rlook_any y b es x z _ (h.alloc (boxH x z)))
  rw [← hcc] at HF ⊢
  clear h hc hcc
  go_enter Try.func29, Try.ntmps29
  go_wp2_with fail
  refine HF.out.mono ?_
  rintro e w1 ⟨rfl, hb⟩
  have HB := hide hb
  clear hb
  go_wp2_with fail
  go_ret
  exact ⟨rfl, below_new _ HB.out⟩

set_option maxRecDepth 100000 in
set_option maxHeartbeats 4000000 in
theorem rclose_ok (y b : Nat) (es : List En) (i : Nat) (e : En) (w : World) (h : RT w y b es) (he : es[i]? = some e) (hs : e.st = 1) :
    Calls Try.prog 29 #[.pointer (some ⟨y, 0, none⟩), hnd i e.gen] w fun x w' => x = .returned (.int .i64 0) ∧ RT w' y b (es.set i (closed e)) ∧ Kept b b w w' := by
  have HF := hide (rlook_any y b es i e.gen _ (h.alloc (boxH i e.gen)))
  rw [code_of he hs (h.ok i e he).one] at HF
  have HE := hide he
  have H := hide h
  have hi := (List.getElem?_eq_some_iff.1 he).1
  have hm := h.max
  have hgt := (h.ok i e he).last (by omega)
  have HCO := hide (closed_ok (h.ok i e he) hs)
  clear h he
  go_enter Try.func29, Try.ntmps29
  go_wp2_with fail
  refine HF.out.mono ?_
  rintro x w1 ⟨rfl, hb⟩
  have hl := H.out.lt
  have ht := (H.out.alloc (boxH i e.gen)).below hb (by simp; omega) (by simp; omega)
  obtain ⟨cap, rest, r⟩ := ht.get HE.out
  have hc := yhd_cell r.head
  obtain ⟨d0, d1, d2, d3, d4⟩ := r.cells HE.out
  have f0 := r.frozen (i * 5)
  have f1 := r.frozen (i * 5 + 1)
  have f2 := r.frozen (i * 5 + 2)
  have f3 := r.frozen (i * 5 + 3)
  have f4 := r.frozen (i * 5 + 4)
  have hbx : Box w1 w.heap.size i e.gen := (box_new w i e.gen).below hb (by simp)
  obtain ⟨x0, x1⟩ := hbx.cells
  have hxl := hbx.lt
  have n1 : ¬ y = b := r.ne
  have n2 : ¬ b = y := Ne.symm r.ne
  have n3 : ¬ b = w.heap.size := by omega
  have n4 : ¬ w.heap.size = b := by omega
  have m1 : y < w1.heap.size := by omega
  have m2 : b < w1.heap.size := by omega
  have HB := hide hb
  have HR := hide r
  have HT := hide ht
  clear hb ht r hbx
  obtain ⟨G, hG⟩ : ∃ G : Int, (e.gen : Int) + 1 = G := ⟨_, rfl⟩
  have hwr : IntKind.i64.wrap ((e.gen : Int) + 1) = G := by rw [IntKind.wrap_i64]; omega
  have hwr2 : IntKind.i64.wrap G = G := by rw [IntKind.wrap_i64]; omega
  have hGN : G = ((e.gen + 1 : Nat) : Int) := by omega
  have HGN := hide hGN
  clear hGN
  by_cases hgl : (1048576 : Int) < G
  · have hdg : decide ((1048576 : Int) < G) = true := decide_eq_true hgl
    have hz : closed e = ⟨2, e.gen + 1, 0, 0⟩ := by unfold closed; rw [if_pos (by omega)]
    have HZ := hide hz
    clear hz
    go_wp2_with fail
    go_region_held3 (fun w' => w'.cell? ⟨y, 0, none⟩ = some (.slice (some ⟨b, 0, none⟩) es.length cap) ∧ w'.cell? ⟨w.heap.size, 0, none⟩ = some (.int .i64 (i : Nat)) ∧ w'.cell? ⟨b, i * 5 + 2, none⟩ = some (.int .i64 (e.gen : Nat))) (go_keep) (fail)
    go_wp2_with fail
    obtain ⟨W2, hW2⟩ : ∃ W2, W2 = (w1.alloc (.cells #[.bool false, .bool true, .int .i64 G, .int .i64 0, .int .i64 0] 63)).drew := ⟨_, rfl⟩
    rw [← hW2]
    have r2 : RefT W2 y b cap es rest := by rw [hW2]; exact ⟨alloc_old _ HR.out.head, alloc_old _ HR.out.row, HR.out.ne⟩
    have t2 : RT W2 y b es := by rw [hW2]; exact (HT.out.alloc _).keep rfl rfl
    have k2 : Below w1.heap.size w1 W2 := by rw [hW2]; exact ((Below.refl _ _).alloc (Nat.le_refl _) _).drew
    have hX : W2.heap[w1.heap.size]? = some (.cells #[.bool false, .bool true, .int .i64 G, .int .i64 0, .int .i64 0] 63) := by rw [hW2]; exact alloc_new _ _
    have c2 := yhd_cell r2.head
    obtain ⟨g0, g1, g2, g3, g4⟩ := r2.cells HE.out
    have p0 := r2.frozen (i * 5)
    have p1 := r2.frozen (i * 5 + 1)
    have p2 := r2.frozen (i * 5 + 2)
    have p3 := r2.frozen (i * 5 + 3)
    have p4 := r2.frozen (i * 5 + 4)
    have v0 : W2.cell? ⟨w.heap.size, 0, none⟩ = some (.int .i64 (i : Nat)) := (k2.cell (p := ⟨w.heap.size, 0, none⟩) hxl).trans x0
    obtain ⟨X, hXX⟩ : ∃ X, X = w1.heap.size := ⟨_, rfl⟩
    rw [← hXX] at hX ⊢
    have s0 : W2.cell? ⟨X, 0, none⟩ = some (.bool false) := by simp [World.cell?, hX]
    have s1 : W2.cell? ⟨X, 1, none⟩ = some (.bool true) := by simp [World.cell?, hX]
    have s2 : W2.cell? ⟨X, 2, none⟩ = some (.int .i64 G) := by simp [World.cell?, hX]
    have s3 : W2.cell? ⟨X, 3, none⟩ = some (.int .i64 0) := by simp [World.cell?, hX]
    have s4 : W2.cell? ⟨X, 4, none⟩ = some (.int .i64 0) := by simp [World.cell?, hX]
    have n5 : ¬ b = X := by omega
    have n6 : ¬ X = b := by omega
    have R2 := hide r2
    have T2 := hide t2
    have K2 := hide k2
    have HE2 : Hid (RRow W2 b (flat5 es) rest) := r2.row
    clear r2 t2 k2 hX hW2 hXX hc d0 d1 d2 d3 d4 f0 f1 f2 f3 f4 x0 x1
    go_region_held3 (fun w' => w'.cell? ⟨y, 0, none⟩ = some (.slice (some ⟨b, 0, none⟩) es.length cap) ∧ w'.cell? ⟨w.heap.size, 0, none⟩ = some (.int .i64 (i : Nat)) ∧ w'.cell? ⟨X, 0, none⟩ = some (.bool false) ∧ w'.cell? ⟨X, 1, none⟩ = some (.bool true) ∧ w'.cell? ⟨X, 2, none⟩ = some (.int .i64 G) ∧ w'.cell? ⟨X, 3, none⟩ = some (.int .i64 0) ∧ w'.cell? ⟨X, 4, none⟩ = some (.int .i64 0)) (go_keep) (fail)
    go_wp2_with fail
    go_ret
    have e2 := ((((HE2.out.set (i * 5) (.bool false) (by rw [flat5_length]; omega)).set (i * 5 + 1) (.bool true) (by simp only [List.length_set, flat5_length]; omega)).set (i * 5 + 2) (.int .i64 G) (by simp only [List.length_set, flat5_length]; omega)).set (i * 5 + 3) (.int .i64 0) (by simp only [List.length_set, flat5_length]; omega)).set (i * 5 + 4) (.int .i64 0) (by simp only [List.length_set, flat5_length]; omega)
    have e3 := flat5_put es i e (closed e) HE.out
    rw [HZ.out] at e3
    have e4 : ((((((flat5 es).set (i * 5) (.bool false)).set (i * 5 + 1) (.bool true)).set (i * 5 + 2) (.int .i64 G)).set (i * 5 + 3) (.int .i64 0)).set (i * 5 + 4) (.int .i64 0)) = flat5 (es.set i ⟨2, e.gen + 1, 0, 0⟩) := by rw [HGN.out]; exact e3
    rw [e4] at e2
    rw [HZ.out]
    have hO := HCO.out
    rw [HZ.out] at hO
    refine ⟨rfl, T2.out.put R2.out i _ hO ?_ e2, ((kept_new (below_new _ HB.out) ((Kept.of_below K2.out).trans ((((((Kept.refl b b W2).set _ _).set _ _).set _ _).set _ _).set _ _)))).drew⟩
    have h0 : y ≠ b := n1
    exact (Below.heap_setCell _ _ _ _ h0).trans ((Below.heap_setCell _ _ _ _ h0).trans ((Below.heap_setCell _ _ _ _ h0).trans ((Below.heap_setCell _ _ _ _ h0).trans (Below.heap_setCell _ _ _ _ h0))))
  · have hdg : decide ((1048576 : Int) < G) = false := decide_eq_false hgl
    have hz : closed e = ⟨0, e.gen + 1, 0, 0⟩ := by unfold closed; rw [if_neg (by omega)]
    have HZ := hide hz
    clear hz
    go_wp2_with fail
    go_region_held3 (fun w' => w'.cell? ⟨y, 0, none⟩ = some (.slice (some ⟨b, 0, none⟩) es.length cap) ∧ w'.cell? ⟨w.heap.size, 0, none⟩ = some (.int .i64 (i : Nat)) ∧ w'.cell? ⟨b, i * 5 + 2, none⟩ = some (.int .i64 (e.gen : Nat))) (go_keep) (fail)
    go_wp2_with fail
    obtain ⟨W2, hW2⟩ : ∃ W2, W2 = (w1.alloc (.cells #[.bool false, .bool false, .int .i64 G, .int .i64 0, .int .i64 0] 63)).drew := ⟨_, rfl⟩
    rw [← hW2]
    have r2 : RefT W2 y b cap es rest := by rw [hW2]; exact ⟨alloc_old _ HR.out.head, alloc_old _ HR.out.row, HR.out.ne⟩
    have t2 : RT W2 y b es := by rw [hW2]; exact (HT.out.alloc _).keep rfl rfl
    have k2 : Below w1.heap.size w1 W2 := by rw [hW2]; exact ((Below.refl _ _).alloc (Nat.le_refl _) _).drew
    have hX : W2.heap[w1.heap.size]? = some (.cells #[.bool false, .bool false, .int .i64 G, .int .i64 0, .int .i64 0] 63) := by rw [hW2]; exact alloc_new _ _
    have c2 := yhd_cell r2.head
    obtain ⟨g0, g1, g2, g3, g4⟩ := r2.cells HE.out
    have p0 := r2.frozen (i * 5)
    have p1 := r2.frozen (i * 5 + 1)
    have p2 := r2.frozen (i * 5 + 2)
    have p3 := r2.frozen (i * 5 + 3)
    have p4 := r2.frozen (i * 5 + 4)
    have v0 : W2.cell? ⟨w.heap.size, 0, none⟩ = some (.int .i64 (i : Nat)) := (k2.cell (p := ⟨w.heap.size, 0, none⟩) hxl).trans x0
    obtain ⟨X, hXX⟩ : ∃ X, X = w1.heap.size := ⟨_, rfl⟩
    rw [← hXX] at hX ⊢
    have s0 : W2.cell? ⟨X, 0, none⟩ = some (.bool false) := by simp [World.cell?, hX]
    have s1 : W2.cell? ⟨X, 1, none⟩ = some (.bool false) := by simp [World.cell?, hX]
    have s2 : W2.cell? ⟨X, 2, none⟩ = some (.int .i64 G) := by simp [World.cell?, hX]
    have s3 : W2.cell? ⟨X, 3, none⟩ = some (.int .i64 0) := by simp [World.cell?, hX]
    have s4 : W2.cell? ⟨X, 4, none⟩ = some (.int .i64 0) := by simp [World.cell?, hX]
    have n5 : ¬ b = X := by omega
    have n6 : ¬ X = b := by omega
    have R2 := hide r2
    have T2 := hide t2
    have K2 := hide k2
    have HE2 : Hid (RRow W2 b (flat5 es) rest) := r2.row
    clear r2 t2 k2 hX hW2 hXX hc d0 d1 d2 d3 d4 f0 f1 f2 f3 f4 x0 x1
    go_region_held3 (fun w' => w'.cell? ⟨y, 0, none⟩ = some (.slice (some ⟨b, 0, none⟩) es.length cap) ∧ w'.cell? ⟨w.heap.size, 0, none⟩ = some (.int .i64 (i : Nat)) ∧ w'.cell? ⟨X, 0, none⟩ = some (.bool false) ∧ w'.cell? ⟨X, 1, none⟩ = some (.bool false) ∧ w'.cell? ⟨X, 2, none⟩ = some (.int .i64 G) ∧ w'.cell? ⟨X, 3, none⟩ = some (.int .i64 0) ∧ w'.cell? ⟨X, 4, none⟩ = some (.int .i64 0)) (go_keep) (fail)
    go_wp2_with fail
    go_ret
    have e2 := ((((HE2.out.set (i * 5) (.bool false) (by rw [flat5_length]; omega)).set (i * 5 + 1) (.bool false) (by simp only [List.length_set, flat5_length]; omega)).set (i * 5 + 2) (.int .i64 G) (by simp only [List.length_set, flat5_length]; omega)).set (i * 5 + 3) (.int .i64 0) (by simp only [List.length_set, flat5_length]; omega)).set (i * 5 + 4) (.int .i64 0) (by simp only [List.length_set, flat5_length]; omega)
    have e3 := flat5_put es i e (closed e) HE.out
    rw [HZ.out] at e3
    have e4 : ((((((flat5 es).set (i * 5) (.bool false)).set (i * 5 + 1) (.bool false)).set (i * 5 + 2) (.int .i64 G)).set (i * 5 + 3) (.int .i64 0)).set (i * 5 + 4) (.int .i64 0)) = flat5 (es.set i ⟨0, e.gen + 1, 0, 0⟩) := by rw [HGN.out]; exact e3
    rw [e4] at e2
    rw [HZ.out]
    have hO := HCO.out
    rw [HZ.out] at hO
    refine ⟨rfl, T2.out.put R2.out i _ hO ?_ e2, ((kept_new (below_new _ HB.out) ((Kept.of_below K2.out).trans ((((((Kept.refl b b W2).set _ _).set _ _).set _ _).set _ _).set _ _)))).drew⟩
    have h0 : y ≠ b := n1
    exact (Below.heap_setCell _ _ _ _ h0).trans ((Below.heap_setCell _ _ _ _ h0).trans ((Below.heap_setCell _ _ _ _ h0).trans ((Below.heap_setCell _ _ _ _ h0).trans (Below.heap_setCell _ _ _ _ h0))))

set_option maxHeartbeats 1000000 in
theorem rage_out (y n cap : Nat) (a : Option Addr) (x z : Int) (w : World) (hc : w.cell? ⟨y, 0, none⟩ = some (.slice a n cap)) (hn : n ≤ 4096) (hx : x < 0 ∨ (n : Int) ≤ x) :
    Calls Try.prog 32 #[.pointer (some ⟨y, 0, none⟩), .int .i64 x, .int .i64 z] w fun e w' => e = .returned (.int .i64 5) ∧ w = w' := by
  by_cases h : x < 0
  · go_enter Try.func32, Try.ntmps32
    go_wp2_with fail
    go_ret
    exact ⟨rfl, rfl⟩
  · have h2 : (n : Int) ≤ x := by omega
    have hd1 : decide (x < 0) = false := decide_eq_false (by omega)
    have hd2 : decide ((n : Int) ≤ x) = true := decide_eq_true (by omega)
    go_enter Try.func32, Try.ntmps32
    go_wp2_with fail
    go_ret
    exact ⟨rfl, rfl⟩

set_option maxHeartbeats 1000000 in
theorem rage_held (y b : Nat) (es : List En) (i : Nat) (e : En) (z : Int) (w : World) (h : RT w y b es) (he : es[i]? = some e) (hs : e.st ≠ 0) :
    Calls Try.prog 32 #[.pointer (some ⟨y, 0, none⟩), .int .i64 i, .int .i64 z] w fun x w' => x = .returned (.int .i64 5) ∧ w = w' := by
  obtain ⟨cap, rest, r⟩ := h.get he
  have hc := yhd_cell r.head
  obtain ⟨d0, d1, d2, d3, d4⟩ := r.cells he
  have hi := (List.getElem?_eq_some_iff.1 he).1
  have hm := h.max
  have h3 := (h.ok i e he).st
  have h4 : e.st = 1 ∨ e.st = 2 := by omega
  have hd1 : decide ((i : Int) < 0) = false := decide_eq_false (by omega)
  have hd2 : decide ((es.length : Int) ≤ (i : Int)) = false := decide_eq_false (by omega)
  have hd2' : decide (es.length ≤ i) = false := decide_eq_false (by omega)
  clear h h3 hs r
  rcases h4 with h4 | h4
  · rw [show decide (e.st = 1) = true by simp [h4]] at d0
    rw [show decide (e.st = 2) = false by simp [h4]] at d1
    clear h4
    go_enter Try.func32, Try.ntmps32
    go_wp2_with fail
    go_ret
    exact ⟨rfl, rfl⟩
  · rw [show decide (e.st = 1) = false by simp [h4]] at d0
    rw [show decide (e.st = 2) = true by simp [h4]] at d1
    clear h4
    go_enter Try.func32, Try.ntmps32
    go_wp2_with fail
    go_ret
    exact ⟨rfl, rfl⟩

set_option maxHeartbeats 1000000 in
theorem rage_arg (y b : Nat) (es : List En) (i : Nat) (e : En) (z : Int) (w : World) (h : RT w y b es) (he : es[i]? = some e) (hs : e.st = 0) (hy : z < e.gen ∨ 1048576 < z) :
    Calls Try.prog 32 #[.pointer (some ⟨y, 0, none⟩), .int .i64 i, .int .i64 z] w fun x w' => x = .returned (.int .i64 2) ∧ w = w' := by
  obtain ⟨cap, rest, r⟩ := h.get he
  have hc := yhd_cell r.head
  obtain ⟨d0, d1, d2, d3, d4⟩ := r.cells he
  rw [show decide (e.st = 1) = false by simp [hs]] at d0
  rw [show decide (e.st = 2) = false by simp [hs]] at d1
  have hi := (List.getElem?_eq_some_iff.1 he).1
  have hm := h.max
  have hd1 : decide ((i : Int) < 0) = false := decide_eq_false (by omega)
  have hd2 : decide ((es.length : Int) ≤ (i : Int)) = false := decide_eq_false (by omega)
  have hd2' : decide (es.length ≤ i) = false := decide_eq_false (by omega)
  clear h r hs
  by_cases hlt : z < e.gen
  · go_enter Try.func32, Try.ntmps32
    go_wp2_with fail
    go_ret
    exact ⟨rfl, rfl⟩
  · have hgt : (1048576 : Int) < z := by omega
    have hd3 : decide (z < (e.gen : Int)) = false := decide_eq_false (by omega)
    have hd4 : decide ((1048576 : Int) < z) = true := decide_eq_true (by omega)
    go_enter Try.func32, Try.ntmps32
    go_wp2_with fail
    go_ret
    exact ⟨rfl, rfl⟩

set_option maxRecDepth 100000 in
set_option maxHeartbeats 1000000 in
theorem rage_ok (y b : Nat) (es : List En) (i : Nat) (e : En) (z : Nat) (w : World) (h : RT w y b es) (he : es[i]? = some e) (hs : e.st = 0) (hy : e.gen ≤ z) (hy2 : z ≤ 1048576) :
    Calls Try.prog 32 #[.pointer (some ⟨y, 0, none⟩), .int .i64 i, .int .i64 z] w fun x w' => x = .returned (.int .i64 0) ∧ RT w' y b (es.set i { e with gen := z }) ∧ Kept b b w w' := by
  obtain ⟨cap, rest, r⟩ := h.get he
  have hc := yhd_cell r.head
  obtain ⟨d0, d1, d2, d3, d4⟩ := r.cells he
  rw [show decide (e.st = 1) = false by simp [hs]] at d0
  rw [show decide (e.st = 2) = false by simp [hs]] at d1
  have f2 := r.frozen (i * 5 + 2)
  have hi := (List.getElem?_eq_some_iff.1 he).1
  have hm := h.max
  have hd1 : decide ((i : Int) < 0) = false := decide_eq_false (by omega)
  have hd2 : decide ((es.length : Int) ≤ (i : Int)) = false := decide_eq_false (by omega)
  have hd2' : decide (es.length ≤ i) = false := decide_eq_false (by omega)
  have hd3 : decide ((z : Int) < (e.gen : Int)) = false := decide_eq_false (by omega)
  have hd3' : decide (z < e.gen) = false := decide_eq_false (by omega)
  have hd4 : decide ((1048576 : Int) < (z : Int)) = false := decide_eq_false (by omega)
  have hd4' : decide (1048576 < z) = false := decide_eq_false (by omega)
  have HY := hide (show e.gen ≤ z ∧ z ≤ 1048576 from ⟨hy, hy2⟩)
  have H := hide h
  have HR := hide r
  have HE := hide he
  clear h r he
  go_enter Try.func32, Try.ntmps32
  go_wp2_with fail
  go_ret
  have e1 : RRow w b (flat5 es) rest := HR.out.row
  have e2 := e1.set (i * 5 + 2) (.int .i64 (z : Nat)) (by rw [flat5_length]; omega)
  rw [flat5_set2 es i e z HE.out] at e2
  exact ⟨rfl, H.out.put HR.out i { e with gen := z } ⟨(H.out.ok i e HE.out).st, Nat.le_trans (H.out.ok i e HE.out).one HY.out.1, Nat.le_trans HY.out.2 (by decide), fun _ => HY.out.2⟩
    (Below.heap_setCell _ _ _ _ (by simpa using HR.out.ne)) e2, (Kept.refl b b w).set _ _⟩

end Go.Proofs.Ythfkjephnhnpoaa
