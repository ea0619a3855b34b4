/-
  Clone of package port; conditions as each theorem has them.
-/
import Derived.Test.YtjojhnkibgkleaaZA
set_option linter.unusedSimpArgs false
set_option linter.unusedVariables false
set_option maxRecDepth 8000
namespace Go.Proofs
open Go.Shelf
def Try.laysCloneO_ren : Go.Shelf.Ren := ⟨fun | 41 => 44 | n => n, fun | 22 => 52 | 23 => 68 | 4 => 4 | n => n, fun | n => n⟩
theorem Try.laysCloneO : Go.Proofs.SlLaysE0.n41 Try.prog Try.laysCloneO_ren := {
  mixed := by kernel_rfl
  f41 := ⟨Try.f44.name, by decide, Try.func44.trans (congrArg some (by kernel_rfl))⟩
  t4 := Try.underlying4
  a4 := Try.isAgg4
  z4 := Try.sizeOf4
  v4 := Try.zeroValue4
  t22 := Try.underlying52
  a22 := Try.isAgg52
  z22 := Try.sizeOf52
  v22 := Try.zeroValue52 }
end Go.Proofs
namespace Go.Proofs.Ytjojhnkibgkleaa
open Go.RowKit Go.Lib

theorem infoEnS : (Try.prog.info? 89).map (·.size) = some 6 := by kernel_rfl
theorem own_up {w : World} {B : Nat} {e : TypeId} {s n : Nat} {v : Value} {xs : List Value} (h : w.ownsRow B e s v n xs) : w.ownsRow 0 e s v n xs ∧ ∀ g, v.ownBlock = some g → B ≤ g := by
  rcases h.2 with ⟨rfl, h0⟩ | ⟨x, cap, cur, rfl, hx, hrest⟩
  · exact ⟨⟨h.1, Or.inl ⟨rfl, h0⟩⟩, fun g hg => by cases hg⟩
  · exact ⟨⟨h.1, Or.inr ⟨x, cap, cur, rfl, Nat.zero_le _, hrest⟩⟩, fun g hg => by simp [Value.ownBlock] at hg; omega⟩
theorem own_cells {w : World} {e : TypeId} {s n : Nat} {v : Value} {xs : List Value} (h : w.ownsRow 0 e s v n xs) : (v = .slice none 0 0 ∧ n = 0) ∨ ∃ g c, v = .slice (some ⟨g, 0, none⟩) n c ∧ n ≤ maxLen ∧ ∀ j u, xs[j]? = some u → w.cell? ⟨g, 0 + j, none⟩ = some u := by
  rcases h.2 with h0 | ⟨x, cap, cur, rfl, hx, hh, hnc, hcm, hcs, ht⟩
  · exact Or.inl h0
  · refine Or.inr ⟨x, cap, rfl, by omega, fun j u hu => ?_⟩
    have hj := (List.getElem?_eq_some_iff.1 hu).1
    rw [← ht, List.getElem?_take] at hu
    split at hu
    · simp only [World.cell?, hh]
      simpa using hu
    · cases hu
theorem cloneG {w : World} {gv : Value} {l : List ByteArray} (h : OwnG w gv l) (hl : l.length ≤ 8) : Calls Try.prog 43 #[gv] w fun x w' => ∃ v', x = .returned v' ∧ OwnG w' v' l ∧ (∀ g, v'.ownBlock = some g → w.heap.size ≤ g) ∧ Below w.heap.size w w' := by
  rcases own_cells h with ⟨rfl, h0⟩ | ⟨g, c, rfl, hm, hc⟩
  · refine (Try.slices_Clone_nil 0 0 w).mono ?_
    rintro x w' ⟨rfl, rfl⟩
    exact ⟨_, rfl, h, fun g hg => by (cases hg), Below.refl _ _⟩
  · obtain ⟨i, hi, hz, hs, hb⟩ := inf9
    refine (Try.slices_Clone i _ 1 16 hi hz hs hb rfl (by omega) (fun w => by exact Try.sizeOf9 w) g 0 l.length c (l.map Value.string) w (by simp) hm (by omega) hc (by intro u hu; simp at hu; obtain ⟨a, _, rfl⟩ := hu; rfl)).mono ?_
    rintro x w' ⟨v', rfl, ho, _, hb⟩
    obtain ⟨h1, h2⟩ := own_up ho
    exact ⟨v', rfl, h1, h2, hb⟩
theorem otCs_one (l : List Ot) : ∀ u ∈ otCs l, u.oneCell' = true := by
  intro u hu
  simp only [otCs, List.mem_flatMap] at hu
  obtain ⟨o, _, ho⟩ := hu
  exact otC_one o u ho
theorem cloneO {w : World} {ov : Value} {l : List Ot} (h : OwnO w ov l) (hl : l.length ≤ 1900000000000) : Calls Try.prog 44 #[ov] w fun x w' => ∃ v', x = .returned v' ∧ OwnO w' v' l ∧ (∀ g, v'.ownBlock = some g → w.heap.size ≤ g) ∧ Below w.heap.size w w' := by
  rcases own_cells h with ⟨rfl, h0⟩ | ⟨g, c, rfl, hm, hc⟩
  · refine (AnyE.slices_Clone_nil Try.laysCloneO 0 0 w).mono ?_
    rintro x w' ⟨rfl, rfl⟩
    exact ⟨_, rfl, h, fun g hg => by (cases hg), Below.refl _ _⟩
  · obtain ⟨i, hi, hz, hs, hb⟩ := infO
    refine (AnyE.slices_Clone Try.laysCloneO i _ 10 72 hi hz hs hb rfl (by omega) (fun w => by exact Try.sizeOf68 w) g 0 l.length c (otCs l) w (otCs_len l) hm (by omega) hc (otCs_one l)).mono ?_
    rintro x w' ⟨v', rfl, ho, _, hb⟩
    obtain ⟨h1, h2⟩ := own_up ho
    exact ⟨v', rfl, h1, h2, hb⟩
set_option maxRecDepth 100000 in
set_option maxHeartbeats 2000000 in
theorem copied_at {w : World} {b o r g n : Nat} {ic oc : Int} {x : En} (h : EnAt w b o (.pointer (some ⟨r, 0, none⟩)) x) (hr : IsRing w r g n ic oc x.q) :
    Calls Try.prog 42 #[.pointer (some ⟨b, o, none⟩)] w fun e w' => ∃ r' g', e = .returned (.agg #[.pointer (some ⟨r', 0, none⟩), .int .i64 x.st, .int .i64 x.room, .bool x.nw, .bool x.oth, .bool x.ths]) ∧ w.heap.size ≤ r' ∧ w.heap.size ≤ g' ∧ IsRing w' r' g' n ic oc x.q ∧ Below w.heap.size w w' := by
  obtain ⟨c0, c1, c2, c3, c4, c5⟩ := h
  obtain ⟨s, hs⟩ : ∃ s, s = x.st := ⟨_, rfl⟩
  obtain ⟨m, hm⟩ : ∃ s, s = x.room := ⟨_, rfl⟩
  obtain ⟨t1, ht1⟩ : ∃ s, s = x.nw := ⟨_, rfl⟩
  obtain ⟨t2, ht2⟩ : ∃ s, s = x.oth := ⟨_, rfl⟩
  obtain ⟨t3, ht3⟩ : ∃ s, s = x.ths := ⟨_, rfl⟩
  rw [← hs] at c1 ⊢
  rw [← hm] at c2 ⊢
  rw [← ht1] at c3 ⊢
  rw [← ht2] at c4 ⊢
  rw [← ht3] at c5 ⊢
  obtain ⟨w0, hw0⟩ : ∃ w0, w0 = w.alloc (.cells #[.pointer none, .int .i64 0, .int .i64 0, .bool false, .bool false, .bool false] 89) := ⟨_, rfl⟩
  have hb0 : Below w.heap.size w w0 := by rw [hw0]; exact (Below.refl _ _).alloc (Nat.le_refl _) _
  have hbox : w0.heap[w.heap.size]? = some (.cells #[.pointer none, .int .i64 0, .int .i64 0, .bool false, .bool false, .bool false] 89) := by rw [hw0]; exact alloc_new _ _
  have HC := hide (clone_ring r g n ic oc x.q w0.drew (by obtain ⟨⟨e1, e2⟩, ⟨e3, e4⟩⟩ := hr.at_; exact hr.keep (hb0.block r (lt_of_some e2)) (hb0.block g (lt_of_some e4))))
  have hbl : b < w.heap.size := cell_lt c0
  have hlt0 := lt_of_some hbox
  have HB : Hid (∀ (w1 : World), Below w0.drew.heap.size w0.drew w1 → Below w0.heap.size w0 w1) := fun w1 k => ⟨k.os, k.tape, k.output, k.size, k.block⟩
  have HB0 := hide hb0
  have HBOX := hide hbox
  have c0' := (hb0.cell (p := ⟨b, o, none⟩) hbl).trans c0
  have c1' := (hb0.cell (p := ⟨b, o + 1, none⟩) hbl).trans c1
  have c2' := (hb0.cell (p := ⟨b, o + 2, none⟩) hbl).trans c2
  have c3' := (hb0.cell (p := ⟨b, o + 3, none⟩) hbl).trans c3
  have c4' := (hb0.cell (p := ⟨b, o + 4, none⟩) hbl).trans c4
  have c5' := (hb0.cell (p := ⟨b, o + 5, none⟩) hbl).trans c5
  have HW0 := hide hw0
  clear hs hm ht1 ht2 ht3 hr hw0 hb0 hbox
  go_enter Try.func42, Try.ntmps42
  go_wp2_with fail
  rw [← HW0.out]
  go_region_with (go_at_call 75; refine HC.out.mono ?_; rintro e w1 ⟨rfl, hr1, k1⟩; have k := HB.out w1 k1; have d0 := (k.cell (p := ⟨b, o, none⟩) (Nat.lt_trans hbl hlt0)).trans c0'; have d1 := (k.cell (p := ⟨b, o + 1, none⟩) (Nat.lt_trans hbl hlt0)).trans c1'; have d2 := (k.cell (p := ⟨b, o + 2, none⟩) (Nat.lt_trans hbl hlt0)).trans c2'; have d3 := (k.cell (p := ⟨b, o + 3, none⟩) (Nat.lt_trans hbl hlt0)).trans c3'; have d4 := (k.cell (p := ⟨b, o + 4, none⟩) (Nat.lt_trans hbl hlt0)).trans c4'; have d5 := (k.cell (p := ⟨b, o + 5, none⟩) (Nat.lt_trans hbl hlt0)).trans c5'; have hbx := (k.block _ hlt0).trans HBOX.out; have q0 : w1.cell? ⟨w.heap.size, 0, none⟩ = some (.pointer none) := (by simp [World.cell?, hbx]); have q1 : w1.cell? ⟨w.heap.size, 1, none⟩ = some (.int .i64 0) := (by simp [World.cell?, hbx]); have q2 : w1.cell? ⟨w.heap.size, 2, none⟩ = some (.int .i64 0) := (by simp [World.cell?, hbx]); have q3 : w1.cell? ⟨w.heap.size, 3, none⟩ = some (.bool false) := (by simp [World.cell?, hbx]); have q4 : w1.cell? ⟨w.heap.size, 4, none⟩ = some (.bool false) := (by simp [World.cell?, hbx]); have q5 : w1.cell? ⟨w.heap.size, 5, none⟩ = some (.bool false) := (by simp [World.cell?, hbx]); have qf : ∀ i, w1.frozen? ⟨w.heap.size, i, none⟩ = false := (fun i => by simp [World.frozen?, hbx]); have f0 := qf 0; have f1 := qf 1; have f2 := qf 2; have f3 := qf 3; have f4 := qf 4; have f5 := qf 5; have HRR := hide hr1; have HK := hide k; have HBX := hide hbx; clear hr1 k1 k qf hbx)
  all_goals
    go_wp2_with fail
    have hrow := heap_setCell_same (heap_setCell_same (heap_setCell_same (heap_setCell_same (heap_setCell_same (heap_setCell_same HBX.out 0 (.pointer (some ⟨w0.heap.size, 0, none⟩))) 1 (.int .i64 s)) 2 (.int .i64 m)) 3 (.bool t1)) 4 (.bool t2)) 5 (.bool t3)
    refine bodyPost_ret (results_cell_row rfl _ _ w.heap.size 89 _ (0, 0) _ rfl hrow Try.underlying89 rfl infoEnS) rfl ⟨w0.heap.size, w0.heap.size + 1, rfl, Nat.le_of_lt hlt0, by omega, ?_, ?_⟩
    · refine HRR.out.keep ?_ ?_
      · have hne : w0.heap.size ≠ w.heap.size := by omega
        rw [Below.heap_setCell _ _ _ _ hne, Below.heap_setCell _ _ _ _ hne, Below.heap_setCell _ _ _ _ hne, Below.heap_setCell _ _ _ _ hne, Below.heap_setCell _ _ _ _ hne, Below.heap_setCell _ _ _ _ hne]
      · have hne : w0.heap.size + 1 ≠ w.heap.size := by omega
        rw [Below.heap_setCell _ _ _ _ hne, Below.heap_setCell _ _ _ _ hne, Below.heap_setCell _ _ _ _ hne, Below.heap_setCell _ _ _ _ hne, Below.heap_setCell _ _ _ _ hne, Below.heap_setCell _ _ _ _ hne]
    · exact ((((((HB0.out.trans (HK.out.mono HB0.out.size)).setCell (Nat.le_refl _) _).setCell (Nat.le_refl _) _).setCell (Nat.le_refl _) _).setCell (Nat.le_refl _) _).setCell (Nat.le_refl _) _).setCell (Nat.le_refl _) _

end Go.Proofs.Ytjojhnkibgkleaa
