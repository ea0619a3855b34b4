/-
  Texts cut at a byte, Atoi, and the boxes of meant; conditions as each theorem has them.
-/
import Derived.Test.YtiejandeoopiiaaGreatDoorRF
set_option linter.unusedSimpArgs false
set_option linter.unusedVariables false
namespace Go.Proofs.YtiejandeoopiiaaGreatDoor
open Go.RowKit
/-- A text cut at a byte's first place, as the library tells it. -/
theorem idx_nil (c : UInt8) : Lib.index [] [c] = -1 := by simp [Lib.index]
theorem idx_hit (c : UInt8) (l : List UInt8) : Lib.index (c :: l) [c] = 0 := by rw [Lib.index]; simp [List.isPrefixOf]
theorem idx_ne (c b : UInt8) (l : List UInt8) (h : b ≠ c) : Lib.index (b :: l) [c] = if Lib.index l [c] == -1 then -1 else Lib.index l [c] + 1 := by
  have hp : ([c] : List UInt8).isPrefixOf (b :: l) = false := by simp [List.isPrefixOf, Ne.symm h]
  rw [Lib.index, hp]; simp
theorem lcut (c : UInt8) : ∀ l : List UInt8, ((Lib.cut l [c]).1.map UInt8.toNat = cutB c.toNat (l.map UInt8.toNat) ∧ (Lib.cut l [c]).2.1.map UInt8.toNat = cutA c.toNat (l.map UInt8.toNat) ∧ (Lib.cut l [c]).2.2 = decide (c.toNat ∈ l.map UInt8.toNat))
  | [] => by
    unfold Lib.cut
    rw [idx_nil]
    simp [cutB, cutA]
  | b :: l => by
    obtain ⟨i1, i2, i3⟩ := lcut c l
    by_cases h : b = c
    · subst h
      unfold Lib.cut
      rw [idx_hit]
      simp [cutB, cutA]
    · have hn : ¬ b.toNat = c.toNat := fun e => h (UInt8.toNat_inj.1 e)
      have hge := Lib.index_ge l [c]
      have hne := idx_ne c b l h
      by_cases hm : Lib.index l [c] = -1
      · rw [hm] at hne
        simp only [beq_self_eq_true, if_true] at hne
        have e0 : Lib.cut l [c] = (l, [], false) := by unfold Lib.cut; rw [hm]; rfl
        have e1 : Lib.cut (b :: l) [c] = (b :: l, [], false) := by unfold Lib.cut; rw [hne]; rfl
        rw [e0] at i1 i2 i3
        rw [e1]
        simp only [List.map_cons, List.map_nil] at i1 i2 i3 ⊢
        refine ⟨?_, ?_, ?_⟩
        · rw [cutB, if_neg hn, ← i1]
        · rw [cutA, if_neg hn, ← i2]
        · rw [eq_comm, decide_eq_false_iff_not] at i3 ⊢
          simp only [List.mem_cons, not_or]
          exact ⟨fun e => hn e.symm, i3⟩
      · obtain ⟨j, hj⟩ : ∃ j : Nat, Lib.index l [c] = j := ⟨(Lib.index l [c]).toNat, by omega⟩
        rw [hj] at hne
        have hb : (((j : Nat) : Int) == -1) = false := by simp
        rw [hb, if_neg (by simp)] at hne
        have e0 : Lib.cut l [c] = (l.take j, l.drop (j + 1), true) := by unfold Lib.cut; rw [hj, if_pos (by omega)]; rfl
        have e1 : Lib.cut (b :: l) [c] = (b :: l.take j, l.drop (j + 1), true) := by
          unfold Lib.cut
          rw [hne, if_pos (by omega), show (((j : Nat) : Int) + 1).toNat = j + 1 by omega]
          rfl
        rw [e0] at i1 i2 i3
        rw [e1]
        simp only [List.map_cons] at i1 i2 i3 ⊢
        refine ⟨?_, ?_, ?_⟩
        · rw [cutB, if_neg hn, ← i1]
        · rw [cutA, if_neg hn, ← i2]
        · rw [eq_comm, decide_eq_true_eq] at i3 ⊢
          exact List.mem_cons_of_mem _ i3
theorem ofNat_toNat (l : List UInt8) : (l.map UInt8.toNat).map UInt8.ofNat = l := by
  rw [List.map_map]
  conv => rhs; rw [← List.map_id l]
  exact List.map_congr_left fun x _ => by simp
theorem arr_strN {a : List UInt8} {l : List Nat} (h : a.map UInt8.toNat = l) : (⟨a.toArray⟩ : ByteArray) = strN l := by
  rw [← h]
  unfold strN
  rw [ofNat_toNat]
theorem below_drewN' {w : World} (n : Nat) : Below w.heap.size w (w.drewN n) := ⟨rfl, rfl, rfl, Nat.le_refl _, fun _ _ => rfl⟩
theorem cut_at (c : UInt8) (t : ByteArray) (w : World) (hs : t.size < 4294967281) (hV : Vars w) : Calls Tryz.prog 48 #[.string t, .string ⟨#[c]⟩] w fun e w' => e = .returned (.tuple #[.string (strN (cutB c.toNat (byt t))), .string (strN (cutA c.toNat (byt t))), .bool (decide (c.toNat ∈ byt t))]) ∧ Below w.heap.size w w' := by
  obtain ⟨m, hm⟩ := hV
  refine (Tryz.strings_Cut t ⟨#[c]⟩ m w hs hm).mono ?_
  rintro e w' ⟨rfl, n, rfl⟩
  obtain ⟨i1, i2, i3⟩ := lcut c t.data.toList
  refine ⟨?_, below_drewN' n⟩
  rw [show (⟨#[c]⟩ : ByteArray).data.toList = [c] from rfl, arr_strN i1, arr_strN i2, i3]
  rfl
/-- The two errors of package strconv hold some error, or none. -/
def Errs (w : World) : Prop := (∃ ev, w.cell? ⟨1, 0, none⟩ = some ev ∧ (ev = .nilIface ∨ ∃ te pe, ev = .iface te pe)) ∧ (∃ ev, w.cell? ⟨2, 0, none⟩ = some ev ∧ (ev = .nilIface ∨ ∃ te pe, ev = .iface te pe))
theorem Errs.below {w w' : World} (h : Errs w) (k : Below w.heap.size w w') : Errs w' := by
  obtain ⟨⟨e1, h1, g1⟩, ⟨e2, h2, g2⟩⟩ := h
  exact ⟨⟨e1, (k.cell (p := ⟨1, 0, none⟩) (lt_of_cell h1)).trans h1, g1⟩, ⟨e2, (k.cell (p := ⟨2, 0, none⟩) (lt_of_cell h2)).trans h2, g2⟩⟩
theorem byt_ofNat (t : ByteArray) : (byt t).map UInt8.ofNat = t.data.toList := by unfold byt; exact ofNat_toNat _
theorem atoiV_ok {t : ByteArray} {v : Int} (h : Lib.atoiAll t.data.toList = .ok v) : atoiV (byt t) = v := by
  unfold atoiV
  rw [byt_ofNat, h]
theorem atoiV_range {t : ByteArray} (h : Lib.atoiAll t.data.toList = .range) : atoiV (byt t) = Lib.atoiSat t.data.toList := by
  unfold atoiV
  rw [byt_ofNat, h]
theorem atoiV_else {t : ByteArray} (h1 : ∀ v, Lib.atoiAll t.data.toList ≠ .ok v) (h2 : Lib.atoiAll t.data.toList ≠ .range) : atoiV (byt t) = 0 := by
  unfold atoiV
  rw [byt_ofNat]
  cases e : Lib.atoiAll t.data.toList with
  | ok v => exact absurd e (h1 v)
  | range => exact absurd e h2
  | _ => rfl
theorem atoi_at (t : ByteArray) (w : World) (hs : t.size ≤ 281474976710656) (hE : Errs w) : Calls Tryz.prog 50 #[.string t] w fun e w' => ∃ v, e = .returned (.tuple #[.int .i64 (atoiV (byt t)), v]) ∧ Below w.heap.size w w' := by
  obtain ⟨⟨e1, h1, g1⟩, ⟨e2, h2, g2⟩⟩ := hE
  by_cases hr : Lib.atoiAll t.data.toList = .range
  · rw [atoiV_range hr]
    refine (Tryz.strconv_Atoi_range t hs hr e2 w h2 g2).mono ?_
    rintro e w' ⟨N, rfl, _, _, hb⟩
    exact ⟨_, rfl, hb⟩
  · by_cases hk : ∃ v, Lib.atoiAll t.data.toList = .ok v
    · obtain ⟨v, hv⟩ := hk
      rw [atoiV_ok hv]
      refine (Tryz.strconv_Atoi_ok t (by omega) v hv w).mono ?_
      rintro e w' ⟨rfl, hw⟩
      refine ⟨_, rfl, ?_⟩
      rcases hw with rfl | ⟨s, rfl⟩
      · exact Below.refl _ _
      · exact ⟨rfl, rfl, rfl, by rw [Lib.bytesWorld_size]; omega, fun k hk => Lib.bytesWorld_at_old w 5 s k hk⟩
    · have h0 : ∀ v, Lib.atoiAll t.data.toList ≠ .ok v := fun v hv => hk ⟨v, hv⟩
      rw [atoiV_else h0 hr]
      refine (Tryz.strconv_Atoi_else t hs h0 hr e1 w h1 g1).mono ?_
      rintro e w' ⟨N, rfl, _, _, hb⟩
      exact ⟨_, rfl, hb⟩
/-- Where a walk of meant stands: the result's box, and the box of the rule that is filled. -/
structure MS (w w' : World) (g : Nat) (r : Ru) : Prop where
  below : Below w.heap.size w w'
  hlt : w.heap.size < g
  res : w'.heap[w.heap.size]? = some (.cells zRu 37)
  box : w'.heap[g]? = some (.cells (ruC r).toArray 37)
  v : Vars w'
  e : Errs w'
theorem MS.keep {w w' w'' : World} {g : Nat} {r : Ru} (h : MS w w' g r) (k : Below w'.heap.size w' w'') : MS w w'' g r :=
  ⟨h.below.trans (k.mono h.below.size), h.hlt, keepB k h.res, keepB k h.box, h.v.below k, h.e.below k⟩
theorem MS.turn {w w' w'' : World} {g : Nat} {r q : Ru} (h : MS w w' g r) (k : Below g w' w'') (hb : w''.heap[g]? = some (.cells (ruC q).toArray 37)) : MS w w'' g q := by
  have hl := h.hlt
  have h2 : 2 < w.heap.size ∨ w.heap.size ≤ 2 := by omega
  have hg : ∀ {p : Addr} {u : Value}, p.block < g → w'.cell? p = some u → w''.cell? p = some u := fun hp hc => (k.cell hp).trans hc
  refine ⟨h.below.trans (k.mono (by omega)), hl, (k.block _ hl).trans h.res, hb, ?_, ?_⟩
  · obtain ⟨m, hm⟩ := h.v
    exact ⟨m, hg (by show 0 < g; omega) hm⟩
  · obtain ⟨⟨e1, c1, g1⟩, ⟨e2, c2, g2⟩⟩ := h.e
    have h2g : 2 < g := by
      have a1 : w'.heap[2]? ≠ none := fun e => by
        unfold World.cell? at c2
        simp only at c2
        rw [e] at c2
        cases c2
      have : ¬ (g = 2) := fun e => by
        subst e
        rw [h.box] at a1
        have := h.box
        unfold World.cell? at c2
        simp only [this] at c2
        simp [ruC] at c2
        subst c2
        rcases g2 with g2 | ⟨_, _, g2⟩ <;> cases g2
      have : ¬ (g = 1) := fun e => by
        subst e
        have := h.box
        unfold World.cell? at c1
        simp only [this] at c1
        simp [ruC] at c1
        subst c1
        rcases g1 with g1 | ⟨_, _, g1⟩ <;> cases g1
      omega
    exact ⟨⟨e1, hg (by show 1 < g; omega) c1, g1⟩, ⟨e2, hg h2g c2, g2⟩⟩
theorem below_setCells {g : Nat} : ∀ (vs : List Value) (o : Nat) (a w : World), Below g a w → Below g a (w.setCells g o vs)
  | [], _, _, _, h => h
  | v :: vs, o, a, w, h => below_setCells vs (o + 1) a _ (h.setCell (p := ⟨g, o, none⟩) (Nat.le_refl _) v)
theorem frozen_row {w : World} {g : Nat} {C : Array Value} {t : TypeId} (h : w.heap[g]? = some (.cells C t)) (o : Nat) : w.frozen? ⟨g, o, none⟩ = false := Row.frozen (C := C.toList) (by unfold Row; simpa using h) o
theorem MS.there {w w' : World} {g : Nat} {r : Ru} (h : MS w w' g r) : w'.there g 1 4 := fun j hj => by
  refine ⟨?_, frozen_row h.box _⟩
  have : j = 0 ∨ j = 1 ∨ j = 2 ∨ j = 3 := by omega
  rcases this with rfl | rfl | rfl | rfl <;> simp [World.cell?, h.box, ruC]
theorem wpList_store_midW {P : Program} {ops : Array Oper} {rest : List Oper} {op : Oper} {a : Act} {w : World} {Q : Exit → Act → World → Prop} (hgd : op.guard = none) (ty : TypeId) (x y : Operand) (ho : op.op = .store ty x y)
    (b o : Nat) (cells : Array Value) (hx : a.eval x = .pointer (some ⟨b, o, none⟩)) (hy : a.eval y = .agg cells)
    (ht : w.there b o cells.size) (hi : (P.info? ty).map (·.size) = some cells.size) (h1 : cells.all (·.oneCell') = true) (W2 : World) (hW : W2 = w.setCells b o cells.toList)
    (h : wpList P ops Q rest (a.put op.dst undef) W2) : wpList P ops Q (op :: rest) a w :=
  wpList_store_mid hgd ty x y ho b o cells hx hy ht hi h1 (by rw [← hW]; exact h)
theorem infoAd : (Tryz.prog.info? 24).map (·.size) = some 4 := by kernel_rfl
/-- The address is put into it. -/
theorem MS.net {w w' : World} {g : Nat} {r : Ru} (h : MS w w' g r) (x0 x1 x2 x3 : Nat) : ∃ W, W = w'.setCells g 1 [.int .u8 (x0 : Nat), .int .u8 (x1 : Nat), .int .u8 (x2 : Nat), .int .u8 (x3 : Nat)] ∧ MS w W g { r with net := (x0, x1, x2, x3) } := by
  refine ⟨_, rfl, h.turn (below_setCells _ _ _ _ (Below.refl _ _)) ?_⟩
  have := heap_setCell_same (heap_setCell_same (heap_setCell_same (heap_setCell_same h.box 1 (.int .u8 (x0 : Nat))) 2 (.int .u8 (x1 : Nat))) 3 (.int .u8 (x2 : Nat))) 4 (.int .u8 (x3 : Nat))
  simpa [ruC, World.setCells] using this
theorem MS.bits {w w' : World} {g : Nat} {r : Ru} (h : MS w w' g r) (n : Int) : MS w (w'.setCell ⟨g, 5, none⟩ (.int .i64 n)) g { r with bits := n } := by
  refine h.turn ((Below.refl _ _).setCell (p := ⟨g, 5, none⟩) (Nat.le_refl _) _) ?_
  have := heap_setCell_same h.box 5 (.int .i64 n)
  simpa [ruC] using this
theorem MS.suf {w w' : World} {g : Nat} {r : Ru} (h : MS w w' g r) (t : ByteArray) : MS w (w'.setCell ⟨g, 6, none⟩ (.string t)) g { r with suf := t } := by
  refine h.turn ((Below.refl _ _).setCell (p := ⟨g, 6, none⟩) (Nat.le_refl _) _) ?_
  have := heap_setCell_same h.box 6 (.string t)
  simpa [ruC] using this
theorem MS.lw {w w' : World} {g : Nat} {r : Ru} (h : MS w w' g r) (n : Int) : MS w (w'.setCell ⟨g, 7, none⟩ (.int .i64 n)) g { r with lw := n } := by
  refine h.turn ((Below.refl _ _).setCell (p := ⟨g, 7, none⟩) (Nat.le_refl _) _) ?_
  have := heap_setCell_same h.box 7 (.int .i64 n)
  simpa [ruC] using this
theorem MS.hg {w w' : World} {g : Nat} {r : Ru} (h : MS w w' g r) (n : Int) : MS w (w'.setCell ⟨g, 8, none⟩ (.int .i64 n)) g { r with hg := n } := by
  refine h.turn ((Below.refl _ _).setCell (p := ⟨g, 8, none⟩) (Nat.le_refl _) _) ?_
  have := heap_setCell_same h.box 8 (.int .i64 n)
  simpa [ruC] using this
theorem MS.cells {w w' : World} {g : Nat} {r : Ru} (h : MS w w' g r) : (w'.cell? ⟨g, 5, none⟩ = some (.int .i64 r.bits) ∧ w'.cell? ⟨g, 6, none⟩ = some (.string r.suf) ∧ w'.cell? ⟨g, 7, none⟩ = some (.int .i64 r.lw) ∧ w'.cell? ⟨g, 8, none⟩ = some (.int .i64 r.hg)) ∧ w'.frozen? ⟨g, 5, none⟩ = false ∧ w'.frozen? ⟨g, 6, none⟩ = false ∧ w'.frozen? ⟨g, 7, none⟩ = false ∧ w'.frozen? ⟨g, 8, none⟩ = false := by
  refine ⟨⟨?_, ?_, ?_, ?_⟩, frozen_row h.box _, frozen_row h.box _, frozen_row h.box _, frozen_row h.box _⟩ <;> simp [World.cell?, h.box, ruC]

end Go.Proofs.YtiejandeoopiiaaGreatDoor
