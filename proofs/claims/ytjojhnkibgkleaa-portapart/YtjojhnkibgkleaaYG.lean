/-
  The reference hands a datagram out; conditions as each theorem has them.
-/
import Derived.Test.YtjojhnkibgkleaaYF
set_option linter.unusedSimpArgs false
set_option linter.unusedVariables false
set_option maxRecDepth 8000
namespace Go.Proofs.Ytjojhnkibgkleaa
open Go.RowKit Go.Lib

variable {w : World} {S : Nat → Prop} {y eb ec : Nat} {ea : Option Addr} {bv ov : Value} {Y : Nat → Nat} {V : Nat → Value} {E : Nat → Nat} {P : Pt}
/-- The box has turned, and the port's own cell of it. -/
theorem IsRP.bxTurn {w3 : World} (h : IsRP w S y eb ec ea bv ov Y V E P) (S' : Nat → Prop) (hS : ∀ k, S k → S' k) (bv' : Value) (l : List ByteArray) (E' : Nat → Nat) (k3 : KeptS S w w3) (hh : ∀ (k : Nat) cs t f, w.heap[k]? = some (Obj.cells cs t f) → t ≠ 45 → w3.heap[k]? = w.heap[k]?)
    (hl : ∀ k, S' k → k < w3.heap.size) (hg : l.length ≤ 8) (hb : IsBox (w3.setCell ⟨y, 3, none⟩ bv') S' bv' l E') (hbx : ∀ i j, i < P.L.length → j < l.length → (V i).ownBlock ≠ some (E' j)) (hok : ({ P with gr := l } : Pt).Ok) :
    IsRP (w3.setCell ⟨y, 3, none⟩ bv') S' y eb ec ea bv' ov Y V E' { P with gr := l } ∧ KeptS S w (w3.setCell ⟨y, 3, none⟩ bv') := by
  have tn : ∀ x cs t f, w.heap[x]? = some (Obj.cells cs t f) → t ≠ 45 → t ≠ 54 → (w3.setCell ⟨y, 3, none⟩ bv').heap[x]? = w.heap[x]? := fun x cs t f hx ht hp => by
    rw [Below.heap_setCell _ _ _ _ (ty_ne hx h.head hp)]
    exact hh x cs t f hx ht
  have hby : w3.heap[y]? = w.heap[y]? := hh y _ _ _ h.head (by decide)
  have hz : (w3.setCell ⟨y, 3, none⟩ bv').heap.size = w3.heap.size := by simp [World.setCell]
  refine ⟨⟨setHead (hby.trans h.head) 3 bv' rfl, h.cap, fun h0 => ⟨(h.row h0).1, ?_, hS _ (h.row h0).2.2⟩, fun i hi => ?_, h.inj, hb, hbx, own_keep h.ou (fun g hg => ?_), hok, fun k hk => by rw [hz]; exact hl k hk, hS _ h.sy, fun i hi => ⟨hS _ (h.sr i hi).1, fun g hg => hS _ ((h.sr i hi).2 g hg)⟩, fun g hg => hS _ (h.so g hg)⟩, k3.setCell h.sy bv'⟩
  · obtain ⟨cr, er, _⟩ := (h.row h0).2.1
    exact (h.row h0).2.1.keep (tn eb _ _ _ er (by decide) (by decide))
  · have r := h.ring i hi
    obtain ⟨c1, f1⟩ := r.head
    exact r.keep (tn _ _ _ _ f1 (by decide) (by decide)) (fun g hgv => by
      obtain ⟨c2, f2⟩ := r.blk hgv
      exact tn _ _ _ _ f2 (by decide) (by decide))
  · obtain ⟨cur, hc⟩ := own_block h.ou hg
    exact tn _ _ _ _ hc (by decide) (by decide)
theorem box_drop {l : List ByteArray} {a : Option Addr} {c : Nat} (h : IsBox w S (.slice a l.length c) l E) (h0 : 0 < l.length) {bb bo : Nat} (ha : a = some ⟨bb, bo, none⟩) (a' : Option Addr) (ha' : 0 < c - 1 → a' = some ⟨bb, bo + 1, none⟩) :
    IsBox w S (.slice a' (l.length - 1) (c - 1)) (l.drop 1) (fun j => E (j + 1)) := by
  obtain ⟨⟨a2, bb2, bo2, c2, e1, e2, e3, hc⟩, ho⟩ := h
  cases e1
  have gd : ∀ j, (l.drop 1).getD j emp = l.getD (j + 1) emp := fun j => by
    rw [List.getD_eq_getElem?_getD, List.getD_eq_getElem?_getD, List.getElem?_drop, Nat.add_comm]
  refine ⟨⟨a', bb, bo + 1, c - 1, by rw [List.length_drop], by rw [List.length_drop]; omega, by omega, fun h1 => ?_⟩, fun j hj => ho (j + 1) (by rw [List.length_drop] at hj; omega)⟩
  obtain ⟨q1, q2, ⟨cur, q3, q4⟩, q5⟩ := hc (by omega)
  rw [ha] at q1
  cases q1
  refine ⟨ha' h1, q2, ⟨cur, q3, by omega⟩, fun j hj => ?_⟩
  obtain ⟨cp, r1, r2⟩ := q5 (j + 1) (by rw [List.length_drop] at hj; omega)
  rw [gd]
  exact ⟨cp, by rw [show bo + 1 + j = bo + (j + 1) by omega]; exact r1, r2⟩
set_option maxRecDepth 100000 in
set_option maxHeartbeats 1000000 in
theorem gram_r (h : IsRP w S y eb ec ea bv ov Y V E P) : Calls Try.prog 63 #[.pointer (some ⟨y, 0, none⟩)] w fun x w' => ∃ a c, x = .returned (.tuple #[.slice a (gramL P).size c, .int .i64 (gramC P)]) ∧ Src w' a (gramL P).size c (bi (gramL P)) ∧ RPort w' (grow S w w') y (gramP P) ∧ KeptS S w w' := by
  obtain ⟨g0, g1, g2, g3, g4⟩ := h.cells
  obtain ⟨⟨a, bb, bo, c, rfl, e2, e3, hc⟩, ho⟩ := h.box
  have H0 := hide h
  by_cases hn : P.gr.length = 0
  · have hg : P.gr = [] := List.eq_nil_of_length_eq_zero hn
    have h1 : gramC P = 5 := by simp [gramC, hn]
    have h2 : gramP P = P := by rw [gramP, hg]; cases P; simp_all
    have h3 : gramL P = emp := by simp [gramL, hg]
    rw [h1, h2, h3]
    rw [hn] at g3
    clear h1 h2 h3 hg hn h hc ho
    go_enter Try.func63, Try.ntmps63
    go_wp2_with fail
    go_ret2
    exact ⟨none, 0, rfl, ⟨rfl, Nat.le_refl _, Nat.zero_le _, fun _ => rfl, fun h => absurd h (show ¬ (0 : Nat) < 0 by omega), by simp [emp, bi]⟩, H0.out.stay (Below.refl _ _)⟩
  · obtain ⟨q1, q2, ⟨cur, q3, q4⟩, q5⟩ := hc (by omega)
    obtain ⟨cp, r1, r2⟩ := q5 0 (by omega)
    have h1 : gramC P = 0 := by simp [gramC, hn]
    have h3 : gramL P = P.gr.getD 0 emp := by unfold gramL; cases P.gr <;> rfl
    rw [h1, h3]
    rw [Nat.add_zero] at r1
    rw [q1] at g3
    have R2 := hide r2
    have hm := h.ok.g
    have f3 := h.frozen 3
    obtain ⟨n, hN⟩ : ∃ n, n = P.gr.length := ⟨_, rfl⟩
    rw [← hN] at g3 e2
    obtain ⟨D, hD⟩ : ∃ D, D = P.gr.getD 0 emp := ⟨_, rfl⟩
    rw [← hD] at r1 R2 ⊢
    have HB0 := hide h.box
    have HT : Hid (∀ a' : Option Addr, (0 < c - 1 → a' = some ⟨bb, bo + 1, none⟩) → IsRP (w.setCell ⟨y, 3, none⟩ (.slice a' (n - 1) (c - 1))) S y eb ec ea (.slice a' (n - 1) (c - 1)) ov Y V (fun j => E (j + 1)) (gramP P) ∧ KeptS S w (w.setCell ⟨y, 3, none⟩ (.slice a' (n - 1) (c - 1)))) := fun a' ha' => by
      have hb := box_drop h.box (by omega) q1 a' ha'
      rw [← hN] at hb
      refine h.bxTurn S (fun _ hk => hk) _ _ _ (KeptS.refl S w) (fun _ _ _ _ _ _ => rfl) h.lt (by rw [List.length_drop]; omega) (hb.keep (fun i hi hcc => ?_)) (fun i j hi hj => h.bx i (j + 1) hi (by rw [List.length_drop] at hj; omega)) (h.ok.gr _ (by rw [List.length_drop]; omega))
      refine Below.heap_setCell _ _ _ _ ?_
      rcases hcc with ⟨cur, f, hcc⟩ | ⟨m, hm2, rfl⟩
      · exact ty_ne hcc h.head (by decide)
      · obtain ⟨cur, f, hcc⟩ := (hb.own m hm2).2
        exact ty_ne hcc h.head (by decide)
    have R3 : Hid (∀ v, Src (w.setCell ⟨y, 3, none⟩ v) (some ⟨E 0, 0, none⟩) D.size cp (bi D)) := fun v => R2.out.keep (fun b o e h1 => by
      simp at e
      obtain ⟨cur, f, hcc⟩ := (h.box.own 0 (by omega)).2
      rw [← e.1]
      exact Below.heap_setCell _ _ _ _ (ty_ne hcc h.head (by decide)))
    clear hD HB0
    have hn1 : 1 ≤ n := by omega
    have HN := hide hN
    have Q1 := hide q1
    unfold maxLen at e3
    clear h1 h3 hn h hc ho q5 q3 q4 r2 hN q1 hm
    go_enter Try.func63, Try.ntmps63
    go_wp2_with fail
    · have hc1 : c = 1 := by assumption
      subst hc1
      go_ret2
      obtain ⟨t1, t2⟩ := HT.out (some ⟨bb, bo, none⟩) (fun h => by omega)
      exact ⟨_, cp, rfl, R3.out _, RPort.of t1.grow, t2⟩
    · go_ret2
      obtain ⟨t1, t2⟩ := HT.out (some ⟨bb, bo + 1, none⟩) (fun _ => rfl)
      exact ⟨_, cp, rfl, R3.out _, RPort.of t1.grow, t2⟩

end Go.Proofs.Ytjojhnkibgkleaa
