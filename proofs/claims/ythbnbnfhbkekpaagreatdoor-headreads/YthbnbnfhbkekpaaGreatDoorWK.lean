/-
  The chapter's examples: works of the statements; conditions as each theorem has them.
-/
import Derived.Test.YthbnbnfhbkekpaaGreatDoorHK
import Derived.Test.YthbnbnfhbkekpaaGreatDoorE
set_option linter.unusedSimpArgs false
set_option linter.unusedVariables false
namespace Go.Proofs.YthbnbnfhbkekpaaGreatDoor
open Go.RowKit

def xb1 : List Nat := [71, 69, 84, 32, 104, 116, 116, 112, 58, 47, 47, 97, 46, 98, 47, 120, 32, 72, 84, 84, 80, 47, 49, 46, 49, 13, 10, 72, 111, 115, 116, 58, 32, 97, 46, 98, 13, 10, 13, 10, 109, 111, 114, 101]
def xb2 : List Nat := [71, 69, 84, 32, 47, 120, 32, 72, 84, 84, 80, 47, 49, 46, 49, 13, 10, 13, 10]
def xb3 : List Nat := [71, 69, 84, 32, 104, 116, 116, 112, 58, 47, 47, 45, 47, 32, 72, 84, 84, 80, 47, 49, 46, 49, 13, 10, 13, 10]
theorem host_ab : host [97, 46, 98] = (([0, 0, 0, 0], [97, 46, 98]), .ok) := by
  have hp : pcs [97, 46, 98] = [[97], [98]] := by decide
  have l1 : labB [97] = true := lab_of _ (by decide)
  have l2 : labB [98] = true := lab_of _ (by decide)
  have hn : name [97, 46, 98] = ([97, 46, 98], .ok) := by
    unfold name
    rw [if_neg (by decide), hp]
    simp only [labs, l1, l2, if_true]
    rw [if_neg (by decide)]
    rfl
  unfold host
  rw [if_neg (by decide), if_neg (by decide), hn]
theorem host_dash : host [45] = (([0, 0, 0, 0], []), .one 0 61) := by
  have hp : pcs [45] = [[45]] := by decide
  have l1 : labB [45] = false := by
    cases h : labB [45] with
    | false => rfl
    | true =>
      have := (labB_iff _).1 h
      exact absurd (this.2.2 0 (by decide)) (by decide)
  have hn : name [45] = ([], .one 0 61) := by
    unfold name
    rw [if_neg (by decide), hp]
    simp only [labs, l1]
    rfl
  unfold host
  rw [if_neg (by decide), if_neg (by decide), hn]
theorem hd_x1 : hd xb1 = some [[71, 69, 84, 32, 104, 116, 116, 112, 58, 47, 47, 97, 46, 98, 47, 120, 32, 72, 84, 84, 80, 47, 49, 46, 49], [72, 111, 115, 116, 58, 32, 97, 46, 98]] := by
  have : xb1 = fl [[71, 69, 84, 32, 104, 116, 116, 112, 58, 47, 47, 97, 46, 98, 47, 120, 32, 72, 84, 84, 80, 47, 49, 46, 49], [72, 111, 115, 116, 58, 32, 97, 46, 98]] ++ [109, 111, 114, 101] := by decide
  rw [this]
  refine hd_of _ ?_ (by decide)
  intro x hx
  simp at hx
  rcases hx with rfl | rfl
  · exact ⟨by simp, by decide⟩
  · exact ⟨by simp, by decide⟩
theorem hd_x2 : hd xb2 = some [[71, 69, 84, 32, 47, 120, 32, 72, 84, 84, 80, 47, 49, 46, 49]] := by
  have : xb2 = fl [[71, 69, 84, 32, 47, 120, 32, 72, 84, 84, 80, 47, 49, 46, 49]] ++ [] := by decide
  rw [this]
  refine hd_of _ ?_ (by decide)
  intro x hx
  simp at hx
  subst hx
  exact ⟨by simp, by decide⟩
theorem hd_x3 : hd xb3 = some [[71, 69, 84, 32, 104, 116, 116, 112, 58, 47, 47, 45, 47, 32, 72, 84, 84, 80, 47, 49, 46, 49]] := by
  have : xb3 = fl [[71, 69, 84, 32, 104, 116, 116, 112, 58, 47, 47, 45, 47, 32, 72, 84, 84, 80, 47, 49, 46, 49]] ++ [] := by decide
  rw [this]
  refine hd_of _ ?_ (by decide)
  intro x hx
  simp at hx
  subst hx
  exact ⟨by simp, by decide⟩
theorem rq_x1 : request xb1 = ((([71, 69, 84], (([0, 0, 0, 0], [97, 46, 98]), 80), [47, 120]), [([72, 111, 115, 116], [97, 46, 98])]), 40, .ok) := by
  have hr : rline [71, 69, 84, 32, 104, 116, 116, 112, 58, 47, 47, 97, 46, 98, 47, 120, 32, 72, 84, 84, 80, 47, 49, 46, 49] = (([71, 69, 84], (([0, 0, 0, 0], [97, 46, 98]), 80), [47, 120]), .ok) := by
    rw [rline_three (m := [71, 69, 84]) (t := [104, 116, 116, 112, 58, 47, 47, 97, 46, 98, 47, 120]) (v := v11) (by decide), if_neg (by decide), if_neg (by decide)]
    unfold targ
    rw [if_neg (by decide), if_neg (by decide), show cutT [104, 116, 116, 112, 58, 47, 47, 97, 46, 98, 47, 120] = ([97, 46, 98], [47, 120]) by decide]
    have hg : goTo [97, 46, 98] = ((([0, 0, 0, 0], [97, 46, 98]), 80), .ok) := goTo_ok (by decide) host_ab
    rw [hg]
  have hf : flds (25 + 2) [[72, 111, 115, 116, 58, 32, 97, 46, 98]] [] = ([([72, 111, 115, 116], [97, 46, 98])], .ok) := by decide
  unfold request
  rw [hd_x1]
  simp only [req, hr]
  rw [show ([71, 69, 84, 32, 104, 116, 116, 112, 58, 47, 47, 97, 46, 98, 47, 120, 32, 72, 84, 84, 80, 47, 49, 46, 49] : List Nat).length = 25 from rfl, hf]
  rfl
theorem rq_x2 : request xb2 = ((noR, []), 0, .one 4 82) := by
  have hr : rline [71, 69, 84, 32, 47, 120, 32, 72, 84, 84, 80, 47, 49, 46, 49] = (noR, .one 4 82) := by
    rw [rline_three (m := [71, 69, 84]) (t := [47, 120]) (v := v11) (by decide), if_neg (by decide), if_neg (by decide)]
    unfold targ
    rw [if_neg (by decide), if_pos (by decide)]
    rfl
  unfold request
  rw [hd_x2]
  simp only [req, hr]
theorem rq_x3 : request xb3 = ((noR, []), 0, .wr 11 (.one 0 61)) := by
  have hr : rline [71, 69, 84, 32, 104, 116, 116, 112, 58, 47, 47, 45, 47, 32, 72, 84, 84, 80, 47, 49, 46, 49] = (noR, .wr 11 (.one 0 61)) := by
    rw [rline_three (m := [71, 69, 84]) (t := [104, 116, 116, 112, 58, 47, 47, 45, 47]) (v := v11) (by decide), if_neg (by decide), if_neg (by decide)]
    unfold targ
    rw [if_neg (by decide), if_neg (by decide), show cutT [104, 116, 116, 112, 58, 47, 47, 45, 47] = ([45], [47]) by decide]
    have hg : (goTo [45]).2 = .one 0 61 := by rw [goTo_bad (by decide) (by rw [host_dash]; simp), host_dash]
    cases h : goTo [45] with
    | mk d e =>
      rw [h] at hg
      simp only at hg
      subst hg
      rfl
  unfold request
  rw [hd_x3]
  simp only [req, hr]
/-- A row of bytes that a constant lays. -/
theorem const_src {w : World} {B : Nat} {fr : Nat × Nat} (l : List Nat) (h : w.heap[B]? = some (.cells (nums .u8 l).toArray 5 fr)) (hb : ∀ x ∈ l, x < 256) (hm : l.length ≤ maxLen) : Src w (some ⟨B, 0, none⟩) l.length l.length l :=
  ⟨rfl, Nat.le_refl _, hm, (fun e => by cases e), fun _ => ⟨B, 0, rfl, lt_of_some h, fun i hi => by
    rw [Nat.zero_add]
    simp only [World.cell?, h]
    have := nums_get .u8 l i hi
    simpa using this⟩, hb⟩
def rb1 : Array Value := #[.int .u8 71, .int .u8 69, .int .u8 84, .int .u8 32, .int .u8 104, .int .u8 116, .int .u8 116, .int .u8 112, .int .u8 58, .int .u8 47, .int .u8 47, .int .u8 97, .int .u8 46, .int .u8 98, .int .u8 47, .int .u8 120, .int .u8 32, .int .u8 72, .int .u8 84, .int .u8 84, .int .u8 80, .int .u8 47, .int .u8 49, .int .u8 46, .int .u8 49, .int .u8 13, .int .u8 10, .int .u8 72, .int .u8 111, .int .u8 115, .int .u8 116, .int .u8 58, .int .u8 32, .int .u8 97, .int .u8 46, .int .u8 98, .int .u8 13, .int .u8 10, .int .u8 13, .int .u8 10, .int .u8 109, .int .u8 111, .int .u8 114, .int .u8 101]
def rb2 : Array Value := #[.int .u8 71, .int .u8 69, .int .u8 84, .int .u8 32, .int .u8 47, .int .u8 120, .int .u8 32, .int .u8 72, .int .u8 84, .int .u8 84, .int .u8 80, .int .u8 47, .int .u8 49, .int .u8 46, .int .u8 49, .int .u8 13, .int .u8 10, .int .u8 13, .int .u8 10]
def rb3 : Array Value := #[.int .u8 71, .int .u8 69, .int .u8 84, .int .u8 32, .int .u8 104, .int .u8 116, .int .u8 116, .int .u8 112, .int .u8 58, .int .u8 47, .int .u8 47, .int .u8 45, .int .u8 47, .int .u8 32, .int .u8 72, .int .u8 84, .int .u8 84, .int .u8 80, .int .u8 47, .int .u8 49, .int .u8 46, .int .u8 49, .int .u8 13, .int .u8 10, .int .u8 13, .int .u8 10]
set_option maxHeartbeats 1000000 in
theorem failH_at (a c : Nat) (w : World) : Calls Tryz.prog 35 #[.string ⟨#[104, 101, 97, 100]⟩, .int .i64 a, .int .i64 c] w fun e w' => e = .returned (badH (.one a c)) ∧ Below w.heap.size w w' := by
  go_enter Tryz.func35, Tryz.ntmps35
  go_wp2
  go_returns
  exact ⟨rfl, ((Below.refl _ _).alloc (Nat.le_refl _) _).alloc (by simp) _⟩
set_option maxRecDepth 100000 in
set_option maxHeartbeats 4000000 in
theorem wrapBH_one (a b c : Nat) (w : World) : Calls Tryz.prog 53 #[.string ⟨#[104, 101, 97, 100]⟩, .int .i64 a, badV (.one b c)] w fun e w' => e = .returned (badH (.wr a (.one b c))) ∧ Below w.heap.size w w' := by
  simp only [badV]
  go_enter Tryz.func53, Tryz.ntmps53
  go_wp2_with fail
  refine wp_loop_rounds 2 ?_
  rw [rounds_succ]
  go_wp2_with fail
  go_region
  all_goals go_wp2_with fail
  all_goals rw [rounds_succ]
  all_goals go_wp2_with fail
  all_goals go_returns
  all_goals refine ⟨rfl, ?_⟩
  all_goals (repeat (first | exact Below.refl _ _ | refine Below.drew ?_ | refine Below.setCell ?_ (by simp) _ | refine Below.alloc ?_ (by simp <;> omega) _))
theorem ask1 (w : World) (B : Nat) (fr : Nat × Nat) (h : w.heap[B]? = some (.cells rb1 5 fr)) (hV : Vars w) (hE : VarE w) : Calls Tryz.prog 13 #[.slice (some ⟨B, 0, none⟩) 44 44] w fun e w' => ∃ ad cap, e = .returned (.tuple #[.agg #[.string ⟨#[71, 69, 84]⟩, .int .u8 0, .int .u8 0, .int .u8 0, .int .u8 0, .string ⟨#[97, 46, 98]⟩, .int .i64 80, .string ⟨#[47, 120]⟩, .slice ad 1 cap], .int .i64 40, .nilIface]) ∧ Below w.heap.size w w' := by
  refine (request_at _ _ _ xb1 w (const_src (fr := fr) xb1 h (by decide) (by decide)) hV hE).mono ?_
  rw [rq_x1]
  rintro e w' ⟨ad, cap, v, rfl, _, hv, hb⟩
  obtain rfl : v = .nilIface := hv
  exact ⟨ad, cap, rfl, hb⟩
theorem ask2 (w : World) (B : Nat) (fr : Nat × Nat) (h : w.heap[B]? = some (.cells rb2 5 fr)) (hV : Vars w) (hE : VarE w) : Calls Tryz.prog 13 #[.slice (some ⟨B, 0, none⟩) 19 19] w fun e w' => ∃ ad cap v, e = .returned (.tuple #[.agg #[.string ⟨#[]⟩, .int .u8 0, .int .u8 0, .int .u8 0, .int .u8 0, .string ⟨#[]⟩, .int .i64 0, .string ⟨#[]⟩, .slice ad 0 cap], .int .i64 0, v]) ∧ IsH w' (.one 4 82) v ∧ Below w.heap.size w w' := by
  refine (request_at _ _ _ xb2 w (const_src (fr := fr) xb2 h (by decide) (by decide)) hV hE).mono ?_
  rw [rq_x2]
  rintro e w' ⟨ad, cap, v, rfl, _, hv, hb⟩
  exact ⟨ad, cap, v, rfl, hv, hb⟩
theorem ask3 (w : World) (B : Nat) (fr : Nat × Nat) (h : w.heap[B]? = some (.cells rb3 5 fr)) (hV : Vars w) (hE : VarE w) : Calls Tryz.prog 13 #[.slice (some ⟨B, 0, none⟩) 26 26] w fun e w' => ∃ ad cap v, e = .returned (.tuple #[.agg #[.string ⟨#[]⟩, .int .u8 0, .int .u8 0, .int .u8 0, .int .u8 0, .string ⟨#[]⟩, .int .i64 0, .string ⟨#[]⟩, .slice ad 0 cap], .int .i64 0, v]) ∧ IsH w' (.wr 11 (.one 0 61)) v ∧ Below w.heap.size w w' := by
  refine (request_at _ _ _ xb3 w (const_src (fr := fr) xb3 h (by decide) (by decide)) hV hE).mono ?_
  rw [rq_x3]
  rintro e w' ⟨ad, cap, v, rfl, _, hv, hb⟩
  exact ⟨ad, cap, v, rfl, hv, hb⟩
structure Tabs (w : World) : Prop where
  v : Vars w
  e : VarE w
theorem Tabs.below {w w' : World} (h : Tabs w) (k : Below w.heap.size w w') : Tabs w' := ⟨h.v.below k, h.e.below k⟩
set_option maxRecDepth 100000 in
set_option maxHeartbeats 4000000 in
theorem works_at (w : World) (hT : Tabs w) : Calls Tryz.prog 20 #[] w fun e w' => e = .returned (.bool true) ∧ Below w.heap.size w w' := by
  obtain ⟨W1, hW1⟩ : ∃ W, W = w.alloc (.cells rb1 5 (44, 45)) := ⟨_, rfl⟩
  have hc1 : (convert 22 22 (.slice (some ⟨w.heap.size, 0, none⟩) 44 44)).run Tryz.prog (w.alloc (.cells #[.int .u8 71, .int .u8 69, .int .u8 84, .int .u8 32, .int .u8 104, .int .u8 116, .int .u8 116, .int .u8 112, .int .u8 58, .int .u8 47, .int .u8 47, .int .u8 97, .int .u8 46, .int .u8 98, .int .u8 47, .int .u8 120, .int .u8 32, .int .u8 72, .int .u8 84, .int .u8 84, .int .u8 80, .int .u8 47, .int .u8 49, .int .u8 46, .int .u8 49, .int .u8 13, .int .u8 10, .int .u8 72, .int .u8 111, .int .u8 115, .int .u8 116, .int .u8 58, .int .u8 32, .int .u8 97, .int .u8 46, .int .u8 98, .int .u8 13, .int .u8 10, .int .u8 13, .int .u8 10, .int .u8 109, .int .u8 111, .int .u8 114, .int .u8 101] 5)) = .ok (.slice (some ⟨w.heap.size, 0, none⟩) 44 44) W1 := by rw [hW1]; exact Lib.run_convert_bytes_const (P := Tryz.prog) w 22 5 rb1 44 44 Tryz.underlying22 Tryz.underlying5
  have b1 : Below w.heap.size w W1 := by rw [hW1]; exact (Below.refl _ _).alloc (Nat.le_refl _) _
  have T1 := hT.below b1
  have A1 := hide (ask1 W1 w.heap.size _ (by rw [hW1]; exact alloc_new _ _) T1.v T1.e)
  have B1 := hide b1
  have HT1 := hide T1
  clear b1 hT T1 hW1
  go_enter Tryz.func20, Tryz.ntmps20
  go_wp2_with fail
  refine A1.out.mono ?_
  rintro e w2 ⟨ad, cap, rfl, hb2⟩
  obtain ⟨G, hG⟩ : ∃ G, G = w2.heap.size := ⟨_, rfl⟩
  obtain ⟨W3, hW3⟩ : ∃ W, W = w2.alloc (.cells #[.string ⟨#[71, 69, 84]⟩, .int .u8 0, .int .u8 0, .int .u8 0, .int .u8 0, .string ⟨#[97, 46, 98]⟩, .int .i64 80, .string ⟨#[47, 120]⟩, .slice ad 1 cap] 44) := ⟨_, rfl⟩
  have b3 : Below w2.heap.size w2 W3 := by rw [hW3]; exact (Below.refl _ _).alloc (Nat.le_refl _) _
  have g3 : W3.heap[G]? = some (.cells #[.string ⟨#[71, 69, 84]⟩, .int .u8 0, .int .u8 0, .int .u8 0, .int .u8 0, .string ⟨#[97, 46, 98]⟩, .int .i64 80, .string ⟨#[47, 120]⟩, .slice ad 1 cap] 44) := by rw [hW3, hG]; exact alloc_new _ _
  obtain ⟨W4, hW4⟩ : ∃ W, W = W3.alloc (.cells rb2 5 (19, 20)) := ⟨_, rfl⟩
  have hc2 : (convert 22 22 (.slice (some ⟨W3.heap.size, 0, none⟩) 19 19)).run Tryz.prog (W3.alloc (.cells #[.int .u8 71, .int .u8 69, .int .u8 84, .int .u8 32, .int .u8 47, .int .u8 120, .int .u8 32, .int .u8 72, .int .u8 84, .int .u8 84, .int .u8 80, .int .u8 47, .int .u8 49, .int .u8 46, .int .u8 49, .int .u8 13, .int .u8 10, .int .u8 13, .int .u8 10] 5)) = .ok (.slice (some ⟨W3.heap.size, 0, none⟩) 19 19) W4 := by rw [hW4]; exact Lib.run_convert_bytes_const (P := Tryz.prog) W3 22 5 rb2 19 19 Tryz.underlying22 Tryz.underlying5
  have b4 : Below W3.heap.size W3 W4 := by rw [hW4]; exact (Below.refl _ _).alloc (Nat.le_refl _) _
  have T4 := ((HT1.out.below hb2).below b3).below b4
  have A2 := hide (ask2 W4 W3.heap.size _ (by rw [hW4]; exact alloc_new _ _) T4.v T4.e)
  have bb3 : Below w.heap.size w W3 := (B1.out.trans (hb2.mono B1.out.size)).trans (b3.mono (B1.out.trans (hb2.mono B1.out.size)).size)
  have B4 := hide (bb3.trans (b4.mono bb3.size))
  have G4 := hide (keepB b4 g3)
  have HT4 := hide T4
  have HW3 : Hid (w2.alloc (.cells #[.string ⟨#[71, 69, 84]⟩, .int .u8 0, .int .u8 0, .int .u8 0, .int .u8 0, .string ⟨#[97, 46, 98]⟩, .int .i64 80, .string ⟨#[47, 120]⟩, .slice ad 1 cap] 44) = W3) := hW3.symm
  have HGG := hide hG.symm
  clear hb2 b3 g3 hW3 hW4 b4 T4 bb3 hG A1 HT1 B1 hc1
  go_wp2_with (first | (rw [HW3.out, HGG.out]))
  try (rw [HW3.out, HGG.out]; go_wp2_with fail)
  refine A2.out.mono ?_
  rintro e w5 ⟨ad5, cap5, f, rfl, hf5, hb5⟩
  obtain ⟨GZ, hGZ⟩ : ∃ G, G = w5.heap.size := ⟨_, rfl⟩
  obtain ⟨W55, hW55⟩ : ∃ W, W = w5.alloc (.cells #[.string ⟨#[]⟩, .int .u8 0, .int .u8 0, .int .u8 0, .int .u8 0, .string ⟨#[]⟩, .int .i64 0, .string ⟨#[]⟩, .slice ad5 0 cap5] 44) := ⟨_, rfl⟩
  have b55 : Below w5.heap.size w5 W55 := by rw [hW55]; exact (Below.refl _ _).alloc (Nat.le_refl _) _
  have hb55 : Below W4.heap.size W4 W55 := hb5.trans (b55.mono hb5.size)
  have hf55 := hf5.below b55
  have HW55 : Hid (w5.alloc (.cells #[.string ⟨#[]⟩, .int .u8 0, .int .u8 0, .int .u8 0, .int .u8 0, .string ⟨#[]⟩, .int .i64 0, .string ⟨#[]⟩, .slice ad5 0 cap5] 44) = W55) := hW55.symm
  have HGZ := hide hGZ.symm
  obtain ⟨W6, hW6⟩ : ∃ W, W = W55.alloc (.cells rb3 5 (26, 27)) := ⟨_, rfl⟩
  have hc3 : (convert 22 22 (.slice (some ⟨W55.heap.size, 0, none⟩) 26 26)).run Tryz.prog (W55.alloc (.cells #[.int .u8 71, .int .u8 69, .int .u8 84, .int .u8 32, .int .u8 104, .int .u8 116, .int .u8 116, .int .u8 112, .int .u8 58, .int .u8 47, .int .u8 47, .int .u8 45, .int .u8 47, .int .u8 32, .int .u8 72, .int .u8 84, .int .u8 84, .int .u8 80, .int .u8 47, .int .u8 49, .int .u8 46, .int .u8 49, .int .u8 13, .int .u8 10, .int .u8 13, .int .u8 10] 5)) = .ok (.slice (some ⟨W55.heap.size, 0, none⟩) 26 26) W6 := by rw [hW6]; exact Lib.run_convert_bytes_const (P := Tryz.prog) W55 22 5 rb3 26 26 Tryz.underlying22 Tryz.underlying5
  have b6 : Below W55.heap.size W55 W6 := by rw [hW6]; exact (Below.refl _ _).alloc (Nat.le_refl _) _
  have T6 := (HT4.out.below hb55).below b6
  have A3 := hide (ask3 W6 W55.heap.size _ (by rw [hW6]; exact alloc_new _ _) T6.v T6.e)
  have bb5 : Below w.heap.size w W55 := B4.out.trans (hb55.mono B4.out.size)
  have B6 := hide (bb5.trans (b6.mono bb5.size))
  have G6 := hide (keepB b6 (keepB hb55 G4.out))
  have F6 := hide (hf55.below b6)
  clear hf5 hf55 hb5 hb55 b55 hW55 hGZ hW6 b6 T6 bb5 A2 HT4 B4 G4 hc2
  go_wp2_with (first | (rw [HW55.out, HGZ.out]))
  try (rw [HW55.out, HGZ.out]; go_wp2_with fail)
  refine A3.out.mono ?_
  rintro e w7 ⟨ad7, cap7, g, rfl, hg7, hb7⟩
  obtain ⟨GY, hGY⟩ : ∃ G, G = w7.heap.size := ⟨_, rfl⟩
  obtain ⟨W77, hW77⟩ : ∃ W, W = w7.alloc (.cells #[.string ⟨#[]⟩, .int .u8 0, .int .u8 0, .int .u8 0, .int .u8 0, .string ⟨#[]⟩, .int .i64 0, .string ⟨#[]⟩, .slice ad7 0 cap7] 44) := ⟨_, rfl⟩
  have b77 : Below w7.heap.size w7 W77 := by rw [hW77]; exact (Below.refl _ _).alloc (Nat.le_refl _) _
  have hb77 : Below W6.heap.size W6 W77 := hb7.trans (b77.mono hb7.size)
  have HW77 : Hid (w7.alloc (.cells #[.string ⟨#[]⟩, .int .u8 0, .int .u8 0, .int .u8 0, .int .u8 0, .string ⟨#[]⟩, .int .i64 0, .string ⟨#[]⟩, .slice ad7 0 cap7] 44) = W77) := hW77.symm
  have HGY := hide hGY.symm
  have G7 := keepB hb77 G6.out
  have F7 := hide (F6.out.below hb77)
  have I7 := hide (hg7.below b77)
  have B7 := hide (B6.out.trans (hb77.mono B6.out.size))
  have d0 : W77.cell? ⟨G, 0, none⟩ = some (.string ⟨#[71, 69, 84]⟩) := by simp [World.cell?, G7]
  have d1 : W77.cell? ⟨G, 1, none⟩ = some (.int .u8 0) := by simp [World.cell?, G7]
  have d2 : W77.cell? ⟨G, 2, none⟩ = some (.int .u8 0) := by simp [World.cell?, G7]
  have d3 : W77.cell? ⟨G, 3, none⟩ = some (.int .u8 0) := by simp [World.cell?, G7]
  have d4 : W77.cell? ⟨G, 4, none⟩ = some (.int .u8 0) := by simp [World.cell?, G7]
  have d5 : W77.cell? ⟨G, 5, none⟩ = some (.string ⟨#[97, 46, 98]⟩) := by simp [World.cell?, G7]
  have d6 : W77.cell? ⟨G, 6, none⟩ = some (.int .i64 80) := by simp [World.cell?, G7]
  have d7 : W77.cell? ⟨G, 7, none⟩ = some (.string ⟨#[47, 120]⟩) := by simp [World.cell?, G7]
  have d8 : W77.cell? ⟨G, 8, none⟩ = some (.slice ad 1 cap) := by simp [World.cell?, G7]
  clear hg7 hb7 hb77 b77 hW77 hGY G7 F6 G6 B6 A3 hc3
  go_wp2_with (first | (rw [HW77.out, HGY.out]))
  try (rw [HW77.out, HGY.out]; go_wp2_with fail)
  refine (failH_at 4 82 _).mono ?_
  rintro e w8 ⟨rfl, hb8⟩
  have A8 := hide (is_at (.one 4 82) f w8 (F7.out.below hb8))
  have I8 := hide (I7.out.below hb8)
  have B8 := hide (B7.out.trans (hb8.mono B7.out.size))
  clear hb8 F7 I7 B7 d0 d1 d2 d3 d4 d5 d6 d7 d8
  go_wp2_with fail
  refine A8.out.mono ?_
  rintro e w9 ⟨rfl, hb9⟩
  have I9 := hide (I8.out.below hb9)
  have B9 := hide (B8.out.trans (hb9.mono B8.out.size))
  clear hb9 A8 I8 B8
  go_wp2_with fail
  refine (fail_at 0 61 _).mono ?_
  rintro e w10 ⟨rfl, hb10⟩
  have I10 := hide (I9.out.below hb10)
  have B10 := hide (B9.out.trans (hb10.mono B9.out.size))
  clear hb10 I9 B9
  go_wp2_with fail
  refine (wrapBH_one 11 0 61 _).mono ?_
  rintro e w11 ⟨rfl, hb11⟩
  have A11 := hide (is_at (.wr 11 (.one 0 61)) g w11 (I10.out.below hb11))
  have B11 := hide (B10.out.trans (hb11.mono B10.out.size))
  clear hb11 I10 B10
  go_wp2_with fail
  refine A11.out.mono ?_
  rintro e w12 ⟨rfl, hb12⟩
  have B12 := hide (B11.out.trans (hb12.mono B11.out.size))
  clear hb12 A11 B11
  go_wp2_with fail
  go_ret
  exact ⟨rfl, B12.out⟩
end Go.Proofs.YthbnbnfhbkekpaaGreatDoor
