/-
  The reference table in memory, and its calls that only read; conditions as each theorem has them.
-/
import Derived.Test.YthfkjephnhnpoaaG
set_option linter.unusedSimpArgs false
set_option linter.unusedVariables false
namespace Go.Proofs.Ythfkjephnhnpoaa
open Go.RowKit

/-- Entries of the reference as they lie in memory. -/
def flat5 : List En → List Value
  | [] => []
  | e :: t => .bool (decide (e.st = 1)) :: .bool (decide (e.st = 2)) :: .int .i64 (e.gen : Nat) :: .int .i64 e.k :: .int .i64 e.n :: flat5 t

theorem flat5_length : ∀ es : List En, (flat5 es).length = es.length * 5
  | [] => rfl
  | e :: t => by simp only [flat5, List.length_cons, flat5_length t]; omega
theorem flat5_append : ∀ l m : List En, flat5 (l ++ m) = flat5 l ++ flat5 m
  | [], m => rfl
  | p :: t, m => by simp [flat5, flat5_append t m]
theorem flat5_one : ∀ (es : List En), ∀ v ∈ flat5 es, v.oneCell' = true
  | [], v, h => by simp [flat5] at h
  | e :: t, v, h => by
    simp only [flat5, List.mem_cons] at h
    rcases h with rfl | rfl | rfl | rfl | rfl | h
    · rfl
    · rfl
    · rfl
    · rfl
    · rfl
    · exact flat5_one t v h

theorem flat5_at : ∀ (es : List En) (i : Nat) (e : En), es[i]? = some e →
    (flat5 es)[i * 5]? = some (.bool (decide (e.st = 1))) ∧ (flat5 es)[i * 5 + 1]? = some (.bool (decide (e.st = 2))) ∧ (flat5 es)[i * 5 + 2]? = some (.int .i64 (e.gen : Nat)) ∧ (flat5 es)[i * 5 + 3]? = some (.int .i64 e.k) ∧ (flat5 es)[i * 5 + 4]? = some (.int .i64 e.n)
  | [], i, e, h => by simp at h
  | a :: t, 0, e, h => by
    simp at h
    subst h
    simp [flat5]
  | a :: t, i + 1, e, h => by
    have := flat5_at t i e (by simpa using h)
    rw [show (i + 1) * 5 = i * 5 + 5 by omega]
    simpa [flat5] using this

/-- The whole of entry i is written anew. -/
theorem flat5_put : ∀ (es : List En) (i : Nat) (e x : En), es[i]? = some e →
    (((((flat5 es).set (i * 5) (.bool (decide (x.st = 1)))).set (i * 5 + 1) (.bool (decide (x.st = 2)))).set (i * 5 + 2) (.int .i64 (x.gen : Nat))).set (i * 5 + 3) (.int .i64 x.k)).set (i * 5 + 4) (.int .i64 x.n) = flat5 (es.set i x)
  | [], i, e, x, h => by simp at h
  | a :: t, 0, e, x, h => by simp [flat5]
  | a :: t, i + 1, e, x, h => by
    have := flat5_put t i e x (by simpa using h)
    rw [show (i + 1) * 5 = i * 5 + 5 by omega, show i * 5 + 5 + 1 = i * 5 + 1 + 5 by omega, show i * 5 + 5 + 2 = i * 5 + 2 + 5 by omega, show i * 5 + 5 + 3 = i * 5 + 3 + 5 by omega, show i * 5 + 5 + 4 = i * 5 + 4 + 5 by omega]
    simp [flat5, this]

def yhd (a : Option Addr) (n cap : Nat) : Obj := .cells #[.slice a n cap] 61
theorem yhd_cell {w : World} {y n cap : Nat} {a : Option Addr} (h : w.heap[y]? = some (yhd a n cap)) : w.cell? ⟨y, 0, none⟩ = some (.slice a n cap) := by
  unfold yhd at h
  simp [World.cell?, h]

/-- The reference table, with entries: its head in block y, its entries es in block b. -/
structure RefT (w : World) (y b cap : Nat) (es : List En) (rest : List Value) : Prop where
  head : w.heap[y]? = some (yhd (some ⟨b, 0, none⟩) es.length cap)
  row : w.heap[b]? = some (.cells (flat5 es ++ rest).toArray 63)
  ne : y ≠ b

/-- The reference table, with entries or without. -/
structure RT (w : World) (y b : Nat) (es : List En) : Prop where
  mem : (es = [] ∧ y = b ∧ w.heap[y]? = some (yhd none 0 0)) ∨ ∃ cap rest, RefT w y b cap es rest
  max : es.length ≤ 4096
  ok : ∀ (i : Nat) (e : En), es[i]? = some e → e.Ok

theorem RT.keep {w w' : World} {y b : Nat} {es : List En} (h : RT w y b es) (h1 : w'.heap[y]? = w.heap[y]?) (h2 : w'.heap[b]? = w.heap[b]?) : RT w' y b es := by
  refine ⟨?_, h.max, h.ok⟩
  rcases h.mem with ⟨e1, e2, e3⟩ | ⟨cap, rest, r⟩
  · exact Or.inl ⟨e1, e2, h1.trans e3⟩
  · exact Or.inr ⟨cap, rest, h1.trans r.head, h2.trans r.row, r.ne⟩
theorem RT.lt {w : World} {y b : Nat} {es : List En} (h : RT w y b es) : y < w.heap.size ∧ b < w.heap.size := by
  rcases h.mem with ⟨e1, e2, e3⟩ | ⟨cap, rest, r⟩
  · have := lt_of_some e3
    omega
  · exact ⟨lt_of_some r.head, lt_of_some r.row⟩
theorem RT.below {w w' : World} {y b B : Nat} {es : List En} (h : RT w y b es) (k : Below B w w') (hy : y < B) (hb : b < B) : RT w' y b es := h.keep (k.block y hy) (k.block b hb)
theorem RT.alloc {w : World} {y b : Nat} {es : List En} (h : RT w y b es) (o : Obj) : RT (w.alloc o) y b es := h.keep (Below.heap_alloc _ _ _ h.lt.1) (Below.heap_alloc _ _ _ h.lt.2)
theorem RT.head {w : World} {y b : Nat} {es : List En} (h : RT w y b es) : ∃ a cap, w.cell? ⟨y, 0, none⟩ = some (.slice a es.length cap) := by
  rcases h.mem with ⟨e1, e2, e3⟩ | ⟨cap, rest, r⟩
  · exact ⟨none, 0, by rw [e1]; exact yhd_cell e3⟩
  · exact ⟨_, cap, yhd_cell r.head⟩
theorem RT.get {w : World} {y b : Nat} {es : List En} (h : RT w y b es) {i : Nat} {e : En} (he : es[i]? = some e) : ∃ cap rest, RefT w y b cap es rest := by
  rcases h.mem with ⟨e1, e2, e3⟩ | r
  · rw [e1] at he; simp at he
  · exact r

theorem RefT.cells {w : World} {y b cap : Nat} {es : List En} {rest : List Value} (h : RefT w y b cap es rest) {i : Nat} {e : En} (he : es[i]? = some e) :
    w.cell? ⟨b, i * 5, none⟩ = some (.bool (decide (e.st = 1))) ∧ w.cell? ⟨b, i * 5 + 1, none⟩ = some (.bool (decide (e.st = 2))) ∧ w.cell? ⟨b, i * 5 + 2, none⟩ = some (.int .i64 (e.gen : Nat)) ∧ w.cell? ⟨b, i * 5 + 3, none⟩ = some (.int .i64 e.k) ∧ w.cell? ⟨b, i * 5 + 4, none⟩ = some (.int .i64 e.n) := by
  have hi := (List.getElem?_eq_some_iff.1 he).1
  have := flat5_at es i e he
  simp only [World.cell?, h.row]
  simp only [List.getElem?_toArray]
  rw [List.getElem?_append_left (by rw [flat5_length]; omega), List.getElem?_append_left (by rw [flat5_length]; omega), List.getElem?_append_left (by rw [flat5_length]; omega), List.getElem?_append_left (by rw [flat5_length]; omega), List.getElem?_append_left (by rw [flat5_length]; omega)]
  exact this
theorem RefT.frozen {w : World} {y b cap : Nat} {es : List En} {rest : List Value} (h : RefT w y b cap es rest) (o : Nat) : w.frozen? ⟨b, o, none⟩ = false := cells_frozen h.row o

set_option maxHeartbeats 1000000 in
theorem rlook_out (y n cap : Nat) (a : Option Addr) (x z : Int) (w : World) (hc : w.cell? ⟨y, 0, none⟩ = some (.slice a n cap)) (hn : n ≤ 4096) (hx : x < 0 ∨ (n : Int) ≤ x) :
    Calls Try.prog 34 #[.pointer (some ⟨y, 0, none⟩), hnd x z] w fun e w' => e = .returned (.int .i64 5) ∧ Below w.heap.size w w' := by
  have hy := lt_of_cell hc
  by_cases h : x < 0
  · have hd1 : decide (x < 0) = true := by simp; omega
    go_enter Try.func34, Try.ntmps34
    go_wp2_with fail
    go_quiet (fail)
    go_wp2_with fail
    go_ret
    exact ⟨rfl, below_drewN ((Below.refl _ _).alloc (Nat.le_refl _) _) _⟩
  · have h2 : (n : Int) ≤ x := by omega
    have hd1 : decide (x < 0) = false := by simp; omega
    have hd2 : decide ((n : Int) ≤ x) = true := by simp; omega
    go_enter Try.func34, Try.ntmps34
    go_wp2_with fail
    go_quiet (fail)
    go_wp2_with fail
    go_ret
    exact ⟨rfl, below_drewN ((Below.refl _ _).alloc (Nat.le_refl _) _) _⟩

set_option maxHeartbeats 2000000 in
theorem rlook_in (y b cap : Nat) (es : List En) (rest : List Value) (i : Nat) (e : En) (z : Int) (w : World) (h : RefT w y b cap es rest) (hm : es.length ≤ 4096) (ho : e.Ok) (he : es[i]? = some e) :
    Calls Try.prog 34 #[.pointer (some ⟨y, 0, none⟩), hnd i z] w fun x w' => x = .returned (.int .i64 (code es i z)) ∧ Below w.heap.size w w' := by
  have hc := yhd_cell h.head
  obtain ⟨d0, d1, d2, d3, d4⟩ := h.cells he
  have hi := (List.getElem?_eq_some_iff.1 he).1
  have hy := lt_of_cell hc
  have hb := lt_of_cell d0
  have h1 := ho.one
  have h2 := ho.top
  have ec : code es i z = if z < 1 then 5 else if e.st = 1 ∧ z = e.gen then 0 else if z < e.gen then 30 else 5 := by
    unfold code; rw [if_pos (by omega), Int.toNat_natCast, he]
  rw [ec]
  clear h ec ho d1 d3 d4
  obtain ⟨N, hN⟩ : ∃ N, N = es.length := ⟨_, rfl⟩
  rw [← hN] at hc hi hm
  clear hN
  have hd1 : decide ((i : Int) < 0) = false := decide_eq_false (by omega)
  have hd2 : decide ((N : Int) ≤ (i : Int)) = false := decide_eq_false (by omega)
  have hd2' : decide (N ≤ i) = false := decide_eq_false (by omega)
  by_cases z1 : z < 1
  · rw [if_pos z1]
    have hd3 : decide (z < 1) = true := by simp; omega
    go_enter Try.func34, Try.ntmps34
    go_wp2_with fail
    go_quiet (fail)
    go_wp2_with fail
    go_ret
    exact ⟨rfl, below_drewN ((Below.refl _ _).alloc (Nat.le_refl _) _) _⟩
  · rw [if_neg z1]
    have hd3 : decide (z < 1) = false := by simp; omega
    by_cases z2 : (e.gen : Int) < z
    · rw [if_neg (by omega), if_neg (by omega)]
      have hd4 : decide ((e.gen : Int) < z) = true := by simp; omega
      go_enter Try.func34, Try.ntmps34
      go_wp2_with fail
      go_quiet (fail)
      go_wp2_with fail
      go_ret
      exact ⟨rfl, below_drewN ((Below.refl _ _).alloc (Nat.le_refl _) _) _⟩
    · have hd4 : decide ((e.gen : Int) < z) = false := by simp; omega
      by_cases z3 : z < (e.gen : Int)
      · rw [if_neg (by omega), if_pos z3]
        have hd5 : decide (z < (e.gen : Int)) = true := by simp; omega
        go_enter Try.func34, Try.ntmps34
        go_wp2_with fail
        go_quiet (fail)
        go_wp2_with fail
        go_quiet (fail)
        go_wp2_with fail
        go_ret
        exact ⟨rfl, below_drewN (below_drewN ((Below.refl _ _).alloc (Nat.le_refl _) _) _) _⟩
      · obtain rfl : z = (e.gen : Int) := by omega
        have hd6 : decide (e.gen < 1) = false := decide_eq_false (by omega)
        have hd7 : decide (e.gen = 0) = false := decide_eq_false (by omega)
        by_cases z4 : e.st = 1
        · rw [if_pos ⟨z4, rfl⟩]
          have d0' : decide (e.st = 1) = true := by simp [z4]
          rw [d0'] at d0
          clear d0' z4
          go_enter Try.func34, Try.ntmps34
          go_wp2_with fail
          go_quiet (fail)
          go_wp2_with fail
          go_quiet (fail)
          go_wp2_with fail
          go_quiet (fail)
          go_wp2_with fail
          go_ret
          exact ⟨rfl, below_drewN (below_drewN (below_drewN ((Below.refl _ _).alloc (Nat.le_refl _) _) _) _) _⟩
        · rw [if_neg (fun h => z4 h.1), if_neg (by omega)]
          have d0' : decide (e.st = 1) = false := by simp [z4]
          rw [d0'] at d0
          clear d0' z4
          go_enter Try.func34, Try.ntmps34
          go_wp2_with fail
          go_quiet (fail)
          go_wp2_with fail
          go_quiet (fail)
          go_wp2_with fail
          go_quiet (fail)
          go_wp2_with fail
          go_ret
          exact ⟨rfl, below_drewN (below_drewN (below_drewN ((Below.refl _ _).alloc (Nat.le_refl _) _) _) _) _⟩

theorem rlook_any (y b : Nat) (es : List En) (x z : Int) (w : World) (h : RT w y b es) :
    Calls Try.prog 34 #[.pointer (some ⟨y, 0, none⟩), hnd x z] w fun e w' => e = .returned (.int .i64 (code es x z)) ∧ Below w.heap.size w w' := by
  by_cases hx : 0 ≤ x
  · cases he : es[x.toNat]? with
    | none =>
      have : code es x z = 5 := by unfold code; rw [if_pos hx, he]
      rw [this]
      obtain ⟨a, cap, hc⟩ := h.head
      exact rlook_out y es.length cap a x z w hc h.max (Or.inr (by have := List.getElem?_eq_none_iff.1 he; omega))
    | some e =>
      obtain ⟨i, rfl⟩ : ∃ i : Nat, x = i := ⟨x.toNat, by omega⟩
      rw [Int.toNat_natCast] at he
      obtain ⟨cap, rest, r⟩ := h.get he
      exact rlook_in y b cap es rest i e z w r h.max (h.ok i e he) he
  · have : code es x z = 5 := by unfold code; rw [if_neg hx]
    rw [this]
    obtain ⟨a, cap, hc⟩ := h.head
    exact rlook_out y es.length cap a x z w hc h.max (Or.inl (by omega))

set_option maxHeartbeats 1000000 in
theorem rlookup_bad (y b : Nat) (es : List En) (x z : Int) (w : World) (h : RT w y b es) (hc : code es x z ≠ 0) :
    Calls Try.prog 30 #[.pointer (some ⟨y, 0, none⟩), hnd x z] w fun e w' => e = .returned (.tuple #[.int .i64 0, .int .i64 0, .int .i64 (code es x z)]) ∧ Below w.heap.size w w' := by
  obtain ⟨c, hcc⟩ : ∃ c, c = code es x z := ⟨_, rfl⟩
  have hc0 : ¬ c = 0 := by rw [hcc]; exact hc
  have HF := hide (rlook_any y b es x z _ (h.alloc (boxH x z)))
  rw [← hcc] at HF ⊢
  clear h hc hcc
  go_enter Try.func30, Try.ntmps30
  go_wp2_with fail
  refine HF.out.mono ?_
  rintro e w1 ⟨rfl, hb⟩
  have HB := hide hb
  clear hb
  go_wp2_with fail
  go_ret3
  exact ⟨rfl, below_new _ HB.out⟩

set_option maxHeartbeats 1000000 in
theorem rlookup_ok (y b : Nat) (es : List En) (i : Nat) (e : En) (w : World) (h : RT w y b es) (he : es[i]? = some e) (hs : e.st = 1) :
    Calls Try.prog 30 #[.pointer (some ⟨y, 0, none⟩), hnd i e.gen] w fun x w' => x = .returned (.tuple #[.int .i64 e.k, .int .i64 e.n, .int .i64 0]) ∧ Below w.heap.size w w' := by
  have HF := hide (rlook_any y b es i e.gen _ (h.alloc (boxH i e.gen)))
  rw [code_of he hs (h.ok i e he).one] at HF
  have HE := hide he
  have H := hide h
  have hi := (List.getElem?_eq_some_iff.1 he).1
  have hm := h.max
  clear h he
  go_enter Try.func30, Try.ntmps30
  go_wp2_with fail
  refine HF.out.mono ?_
  rintro x w1 ⟨rfl, hb⟩
  have hl := H.out.lt
  have ht := (H.out.alloc (boxH i e.gen)).below hb (by simp; omega) (by simp; omega)
  obtain ⟨cap, rest, r⟩ := ht.get HE.out
  have hc := yhd_cell r.head
  obtain ⟨d0, d1, d2, d3, d4⟩ := r.cells HE.out
  have hbx : Box w1 w.heap.size i e.gen := (box_new w i e.gen).below hb (by simp)
  obtain ⟨x0, x1⟩ := hbx.cells
  have HB := hide hb
  clear hb d0 d1 d2 ht r hbx
  go_wp2_with fail
  go_quiet (fail)
  go_wp2_with fail
  go_ret3
  exact ⟨rfl, below_drewN (below_new _ HB.out) _⟩

end Go.Proofs.Ythfkjephnhnpoaa
