/-
  What a port tells of an endpoint; conditions as each theorem has them.
-/
import Derived.Test.YtjojhnkibgkleaaE
set_option linter.unusedSimpArgs false
set_option linter.unusedVariables false
set_option maxRecDepth 8000
namespace Go.Proofs.Ytjojhnkibgkleaa
open Go.RowKit Go.Lib

/-- Bytes that were handed out: nil, or a new block. -/
def Mine (B : Nat) (w : World) (v : Value) (l : List Int) : Prop := (v = .slice none 0 0 ∧ l = []) ∨ ∃ g, v = .slice (some ⟨g, 0, none⟩) l.length l.length ∧ B ≤ g ∧ w.heap[g]? = some (.cells (vals l).toArray 5)
theorem Mine.src {B : Nat} {w : World} {v : Value} {l : List Int} (h : Mine B w v l) (hl : l.length ≤ maxLen) (hb : ∀ x ∈ l, 0 ≤ x ∧ x < 256) : ∃ a c, v = .slice a l.length c ∧ Src w a l.length c l ∧ (∀ b o, a = some ⟨b, o, none⟩ → B ≤ b) := by
  rcases h with ⟨rfl, rfl⟩ | ⟨g, rfl, hg, hh⟩
  · exact ⟨none, 0, rfl, ⟨rfl, Nat.le_refl _, Nat.zero_le _, fun _ => rfl, fun h => by simp at h, hb⟩, fun b o e => by cases e⟩
  · refine ⟨_, _, rfl, ⟨rfl, Nat.le_refl _, hl, (fun e => by cases e), fun h0 => ⟨g, 0, rfl, fun i hi => ?_⟩, hb⟩, fun b o e => by simp at e; omega⟩
    rw [Nat.zero_add]
    exact row_cell hh i hi
/-- An endpoint that stands apart: where there is none. -/
theorem zero_cells {w : World} {b : Nat} (h : EnAt w b 0 (.pointer none) (z 0)) : w.cell? ⟨b, 0, none⟩ = some (.pointer none) ∧ w.cell? ⟨b, 1, none⟩ = some (.int .i64 0) ∧ w.cell? ⟨b, 2, none⟩ = some (.int .i64 0) ∧ w.cell? ⟨b, 3, none⟩ = some (.bool false) ∧ w.cell? ⟨b, 4, none⟩ = some (.bool false) ∧ w.cell? ⟨b, 5, none⟩ = some (.bool false) := ⟨h.c0, h.c1, h.c2, h.c3, h.c4, h.c5⟩
theorem str_nat {P : Pt} {e : Int} (h : str_ P e = true) : ∃ i : Nat, e = i ∧ i < P.L.length := ⟨e.toNat, (str_lt h).2.symm, (str_lt h).1⟩
/-- What 'at' answers: where there is no port, or no such endpoint, one that stands apart. -/
theorem at_none (v : Value) (e : Int) (w : World) (c : Int) (h : (NoPort w v ∧ c = 1) ∨ ∃ S b eb gv ov R G P, v = .pointer (some ⟨b, 0, none⟩) ∧ IsPort w S b eb gv ov R G P ∧ str_ P e = false ∧ c = 2) :
    Calls Try.prog 49 #[v, .int .i64 e] w fun x w' => x = .returned (.tuple #[.pointer (some ⟨w.heap.size, 0, none⟩), .int .i64 c]) ∧ EnAt w' w.heap.size 0 (.pointer none) (z 0) ∧ Below w.heap.size w w' := by
  rcases h with ⟨h, rfl⟩ | ⟨S, b, eb, gv, ov, R, G, P, rfl, h, hs, rfl⟩
  · exact at_un v e w h
  · exact at_bad h e hs
/-- There is no such endpoint, and what is told of it. -/
def Nowhere (w : World) (v : Value) (e c : Int) : Prop := (NoPort w v ∧ c = 1) ∨ ∃ S b eb gv ov R G P, v = .pointer (some ⟨b, 0, none⟩) ∧ IsPort w S b eb gv ov R G P ∧ str_ P e = false ∧ c = 2
theorem IsPort.nowhere {w : World} {S : Nat → Prop} {b eb : Nat} {gv ov : Value} {R G : Nat → Nat} {P : Pt} (h : IsPort w S b eb gv ov R G P) {e : Int} (hs : str_ P e = false) : Nowhere w (.pointer (some ⟨b, 0, none⟩)) e 2 := Or.inr ⟨S, b, eb, gv, ov, R, G, P, rfl, h, hs, rfl⟩
theorem NoPort.nowhere {w : World} {v : Value} (h : NoPort w v) (e : Int) : Nowhere w v e 1 := Or.inl ⟨h, rfl⟩
theorem state_no (v : Value) (e c : Int) (w : World) (h : Nowhere w v e c) : Calls Try.prog 30 #[v, .int .i64 e] w fun x w' => x = .returned (.tuple #[.int .i64 0, .int .i64 c]) ∧ Below w.heap.size w w' := by
  go_enter Try.func30, Try.ntmps30
  go_wp2_with fail
  refine (at_none v e _ c h).mono ?_
  rintro x w1 ⟨rfl, hz, hb⟩
  obtain ⟨c0, c1, c2, c3, c4, c5⟩ := zero_cells hz
  have HB := hide hb
  clear hb hz
  go_wp2_with fail
  go_ret2
  exact ⟨rfl, HB.out⟩
theorem waiting_no (v : Value) (e c : Int) (w : World) (h : Nowhere w v e c) : Calls Try.prog 31 #[v, .int .i64 e] w fun x w' => x = .returned (.int .i64 0) ∧ Below w.heap.size w w' := by
  go_enter Try.func31, Try.ntmps31
  go_wp2_with fail
  refine (at_none v e _ c h).mono ?_
  rintro x w1 ⟨rfl, hz, hb⟩
  obtain ⟨c0, c1, c2, c3, c4, c5⟩ := zero_cells hz
  have HB := hide hb
  clear hb hz
  go_wp2_with fail
  refine (len_un (.pointer none) _ (Or.inl rfl)).mono ?_
  rintro x w2 ⟨rfl, rfl⟩
  go_wp2_with fail
  go_ret
  exact ⟨rfl, HB.out⟩
theorem peek_no (v : Value) (e c n : Int) (w : World) (h : Nowhere w v e c) : Calls Try.prog 26 #[v, .int .i64 e, .int .i64 n] w fun x w' => x = .returned (.slice none 0 0) ∧ Below w.heap.size w w' := by
  go_enter Try.func26, Try.ntmps26
  go_wp2_with fail
  refine (at_none v e _ c h).mono ?_
  rintro x w1 ⟨rfl, hz, hb⟩
  obtain ⟨c0, c1, c2, c3, c4, c5⟩ := zero_cells hz
  have HB := hide hb
  clear hb hz
  go_wp2_with fail
  refine (peek_un (.pointer none) n _ (Or.inl rfl)).mono ?_
  rintro x w2 ⟨rfl, rfl⟩
  go_wp2_with fail
  go_ret
  exact ⟨rfl, HB.out⟩
theorem take_no (v : Value) (e c n : Int) (w : World) (h : Nowhere w v e c) : Calls Try.prog 14 #[v, .int .i64 e, .int .i64 n] w fun x w' => x = .returned (.slice none 0 0) ∧ Below w.heap.size w w' := by
  go_enter Try.func14, Try.ntmps14
  go_wp2_with fail
  refine (at_none v e _ c h).mono ?_
  rintro x w1 ⟨rfl, hz, hb⟩
  obtain ⟨c0, c1, c2, c3, c4, c5⟩ := zero_cells hz
  have HB := hide hb
  clear hb hz
  go_wp2_with fail
  refine (take_un (.pointer none) n _ (Or.inl rfl)).mono ?_
  rintro x w2 ⟨rfl, rfl⟩
  go_wp2_with fail
  go_ret
  exact ⟨rfl, HB.out⟩
theorem last_no (v : Value) (e c : Int) (w : World) (h : Nowhere w v e c) : Calls Try.prog 37 #[v, .int .i64 e] w fun x w' => x = .returned (.bool false) ∧ Below w.heap.size w w' := by
  go_enter Try.func37, Try.ntmps37
  go_wp2_with fail
  refine (at_none v e _ c h).mono ?_
  rintro x w1 ⟨rfl, hz, hb⟩
  have HZ := hide hz
  have HB := hide hb
  clear hb hz
  go_wp2_with fail
  refine (isLast_at _ 0 _ _ _ HZ.out).mono ?_
  rintro x w2 ⟨rfl, rfl⟩
  go_wp2_with fail
  go_ret
  exact ⟨rfl, HB.out⟩
theorem room_no (v : Value) (e c : Int) (w : World) (h : Nowhere w v e c) : Calls Try.prog 32 #[v, .int .i64 e] w fun x w' => x = .returned (.int .i64 0) ∧ Below w.heap.size w w' := by
  go_enter Try.func32, Try.ntmps32
  go_wp2_with fail
  refine (at_none v e _ c h).mono ?_
  rintro x w1 ⟨rfl, hz, hb⟩
  have HZ := hide hz
  have HB := hide hb
  clear hb hz
  go_wp2_with fail
  refine (mayGo_at _ 0 _ _ _ HZ.out).mono ?_
  rintro x w2 ⟨rfl, rfl⟩
  go_wp2_with fail
  go_ret
  exact ⟨rfl, HB.out⟩
theorem ended_no (v : Value) (e c : Int) (w : World) (h : Nowhere w v e c) : Calls Try.prog 27 #[v, .int .i64 e] w fun x w' => x = .returned (.bool false) ∧ Below w.heap.size w w' := by
  go_enter Try.func27, Try.ntmps27
  go_wp2_with fail
  refine (at_none v e _ c h).mono ?_
  rintro x w1 ⟨rfl, hz, hb⟩
  have HZ := hide hz
  have HB := hide hb
  clear hb hz
  go_wp2_with fail
  have HL : lastE (z 0) = false := rfl
  refine (isLast_at _ 0 _ _ _ HZ.out).mono ?_
  rintro x w2 ⟨rfl, rfl⟩
  rw [HL]
  go_wp2_with fail
  go_ret
  exact ⟨rfl, HB.out⟩
theorem fin_no (v : Value) (e c : Int) (w : World) (h : Nowhere w v e c) (hc : c = 1 ∨ c = 2) : Calls Try.prog 28 #[v, .int .i64 e] w fun x w' => x = .returned (.int .i64 c) ∧ Below w.heap.size w w' := by
  have c0 : (c == 0) = false := by rcases hc with rfl | rfl <;> rfl
  have c00 : ¬ c = 0 := by omega
  clear hc
  go_enter Try.func28, Try.ntmps28
  go_wp2_with fail
  refine (at_none v e _ c h).mono ?_
  rintro x w1 ⟨rfl, hz, hb⟩
  have HB := hide hb
  clear hb hz
  go_wp2_with fail
  go_ret
  exact ⟨rfl, HB.out⟩
theorem close_no (v : Value) (e c : Int) (w : World) (h : Nowhere w v e c) (hc : c = 1 ∨ c = 2) : Calls Try.prog 15 #[v, .int .i64 e] w fun x w' => x = .returned (.int .i64 c) ∧ Below w.heap.size w w' := by
  have c0 : (c == 0) = false := by rcases hc with rfl | rfl <;> rfl
  have c00 : ¬ c = 0 := by omega
  clear hc
  go_enter Try.func15, Try.ntmps15
  go_wp2_with fail
  refine (at_none v e _ c h).mono ?_
  rintro x w1 ⟨rfl, hz, hb⟩
  have HB := hide hb
  clear hb hz
  go_wp2_with fail
  go_ret
  exact ⟨rfl, HB.out⟩
theorem send_no (v : Value) (e c : Int) (a : Option Addr) (n cp : Nat) (hn : n ≤ 9223372036854775807) (w : World) (h : Nowhere w v e c) : Calls Try.prog 29 #[v, .int .i64 e, .slice a n cp] w fun x w' => x = .returned (.int .i64 0) ∧ Below w.heap.size w w' := by
  go_enter Try.func29, Try.ntmps29
  go_wp2_with fail
  refine (at_none v e _ c h).mono ?_
  rintro x w1 ⟨rfl, hz, hb⟩
  have HZ := hide hz
  have HB := hide hb
  clear hb hz
  go_wp2_with fail
  have hM : mayE (z 0) = 0 := rfl
  have HM := mayGo_at w.heap.size 0 _ _ w1 HZ.out
  rw [hM] at HM
  have HM := hide HM
  refine HM.out.mono ?_
  rintro x w2 ⟨rfl, rfl⟩
  go_wp2_with fail
  all_goals
    go_ret
    exact ⟨rfl, HB.out⟩

end Go.Proofs.Ytjojhnkibgkleaa
