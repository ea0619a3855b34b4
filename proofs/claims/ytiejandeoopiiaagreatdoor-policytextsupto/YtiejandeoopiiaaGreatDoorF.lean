/-
  A text cut at its points, and what stays in memory where a fault is told; conditions as each theorem has them.
-/
import Derived.Test.YtiejandeoopiiaaGreatDoorC
set_option linter.unusedSimpArgs false
set_option linter.unusedVariables false
namespace Go.Proofs.YtiejandeoopiiaaGreatDoor
open Go.RowKit

theorem index_nil : Lib.index [] [46] = -1 := by simp [Lib.index]
theorem index_dot (l : List UInt8) : Lib.index (46 :: l) [46] = ((0 : Nat) : Int) := by rw [Lib.index]; simp [List.isPrefixOf]
theorem index_ne (b : UInt8) (l : List UInt8) (h : b ≠ 46) : Lib.index (b :: l) [46] = if Lib.index l [46] == -1 then -1 else Lib.index l [46] + 1 := by
  have hp : ([46] : List UInt8).isPrefixOf (b :: l) = false := by simp [List.isPrefixOf, Ne.symm h]
  rw [Lib.index, hp]; simp
theorem splitK_hit (l : List UInt8) (j k : Nat) (h : Lib.index l [46] = j) : Lib.splitK [46] 0 (k + 1) l = l.take j :: Lib.splitK [46] 0 k (l.drop (j + 1)) := by
  have hm : ¬ (Lib.index l [46] == -1) = true := fun e => by have := beq_iff_eq.1 e; omega
  have e : (Lib.index l [46]).toNat = j := by omega
  rw [Lib.splitK, if_neg hm, e]; rfl
theorem splitK_pcs : ∀ l : List UInt8, (Lib.splitK [46] 0 (Lib.count l [46]) l).map (·.map UInt8.toNat) = pcs (l.map UInt8.toNat)
  | [] => by rw [Lib.count_miss index_nil]; rfl
  | b :: r => by
    have ih := splitK_pcs r
    by_cases hb : b = 46
    · subst hb
      rw [Lib.count_cons_eq, Nat.add_comm, splitK_hit _ 0 _ (index_dot r)]
      simp only [List.take_zero, List.map_cons, List.map_nil, Nat.zero_add, List.drop_succ_cons, List.drop_zero]
      rw [ih]
      simp [pcs]
    · have hb' : ¬ b.toNat = 46 := fun e => hb (UInt8.toNat_inj.1 (by simpa using e))
      rw [Lib.count_cons_ne b 46 r hb]
      by_cases hm : Lib.index r [46] = -1
      · rw [Lib.count_miss hm] at ih ⊢
        simp only [Lib.splitK, List.map_cons, List.map_nil] at ih ⊢
        show _ = pcs (b.toNat :: r.map UInt8.toNat)
        rw [pcs, if_neg hb', ← ih]
        rfl
      · have hge := Lib.index_ge r [46]
        obtain ⟨j, hj⟩ : ∃ j : Nat, Lib.index r [46] = j := ⟨(Lib.index r [46]).toNat, by omega⟩
        have hix : Lib.index (b :: r) [46] = ((j + 1 : Nat) : Int) := by rw [index_ne b r hb, if_neg (fun e => hm (beq_iff_eq.1 e)), hj]; omega
        obtain ⟨k, hk⟩ : ∃ k, Lib.count r [46] = k + 1 := ⟨Lib.count (r.drop (j + 1)) [46], by rw [Lib.count_hit (by simp) hj]; simp; omega⟩
        rw [hk] at ih ⊢
        rw [splitK_hit r j k hj] at ih
        rw [splitK_hit _ _ k hix]
        show _ = pcs (b.toNat :: r.map UInt8.toNat)
        rw [pcs, if_neg hb', ← ih]
        simp
theorem splitB_pcs (t : ByteArray) : (Lib.splitB ⟨#[46]⟩ 0 (Lib.countB t ⟨#[46]⟩) t).map byt = pcs (byt t) := by
  have h := Lib.splitB_data ⟨#[46]⟩ 0 (Lib.countB t ⟨#[46]⟩) t
  have h2 := splitK_pcs t.data.toList
  show List.map byt _ = pcs (t.data.toList.map UInt8.toNat)
  rw [← h2]
  show _ = (Lib.splitK [46] 0 (Lib.countB t ⟨#[46]⟩) t.data.toList).map _
  rw [show ([46] : List UInt8) = (⟨#[46]⟩ : ByteArray).data.toList from rfl, ← h, List.map_map]
  rfl
theorem splitB_str (t : ByteArray) : Lib.splitB ⟨#[46]⟩ 0 (Lib.countB t ⟨#[46]⟩) t = (pcs (byt t)).map strN := by
  rw [← splitB_pcs, List.map_map]
  conv => lhs; rw [← List.map_id (Lib.splitB ⟨#[46]⟩ 0 (Lib.countB t ⟨#[46]⟩) t)]
  apply List.map_congr_left
  intro x _
  exact (strN_byt x).symm
theorem count_pcs (t : ByteArray) : Lib.countB t ⟨#[46]⟩ + 1 = (pcs (byt t)).length := by
  rw [← splitB_pcs, List.length_map, Lib.splitB_all ⟨#[46]⟩ (by decide) 0 _ t rfl]

/-- Texts as they lie in memory. -/
def strs (ps : List (List Nat)) : List Value := ps.map fun p => .string (strN p)
theorem strs_get (ps : List (List Nat)) (i : Nat) (h : i < ps.length) : (strs ps)[i]? = some (.string (strN (ps.getD i []))) := by
  simp [strs, List.getElem?_map, List.getElem?_eq_getElem h, List.getD]
theorem split_at (t : ByteArray) (m : Int) (w : World) (B : Nat) (hB : B = w.heap.size) (hs : t.size < 4294967281) (hm : w.cell? ⟨0, 0, none⟩ = some (.int .i64 m)) :
    Calls Tryz.prog 57 #[.string t, .string ⟨#[46]⟩] w fun e w' => e = .returned (.slice (some ⟨B, 0, none⟩) (pcs (byt t)).length (pcs (byt t)).length) ∧ w' = w.alloc (.cells (strs (pcs (byt t))).toArray 9) := by
  subst hB
  refine (Tryz.strings_Split t ⟨#[46]⟩ m w hs hm (by decide)).mono ?_
  rintro e w' ⟨rfl, rfl⟩
  rw [splitB_str, count_pcs]
  refine ⟨rfl, ?_⟩
  rw [strs, List.map_map]; rfl

theorem pcs_len : ∀ (l : List Nat), (pcs l).length ≤ l.length + 1 ∧ ∀ p ∈ pcs l, p.length ≤ l.length
  | [] => by simp [pcs]
  | c :: r => by
    obtain ⟨h1, h2⟩ := pcs_len r
    have hne := pcs_ne r
    unfold pcs
    split
    · refine ⟨by simp; omega, fun p hp => ?_⟩
      simp at hp
      rcases hp with rfl | hp
      · simp
      · have := h2 p hp; simp; omega
    · cases h : pcs r with
      | nil => exact absurd h hne
      | cons q qs =>
        rw [h] at h1 h2
        refine ⟨by simp at h1 ⊢; omega, fun p hp => ?_⟩
        simp at hp
        rcases hp with rfl | hp
        · have := h2 q (by simp); simp; omega
        · have := h2 p (by simp [hp]); simp; omega
theorem pcs_lt {l : List Nat} (h : ∀ x ∈ l, x < 256) : ∀ p ∈ pcs l, ∀ x ∈ p, x < 256 := by
  induction l with
  | nil => simp [pcs]
  | cons c r ih =>
    have ih := ih fun x hx => h x (by simp [hx])
    have hc := h c (by simp)
    have hne := pcs_ne r
    unfold pcs
    split
    · intro p hp x hx
      simp at hp
      rcases hp with rfl | hp
      · simp at hx
      · exact ih p hp x hx
    · cases hq : pcs r with
      | nil => exact absurd hq hne
      | cons q qs =>
        rw [hq] at ih
        intro p hp x hx
        simp at hp
        rcases hp with rfl | hp
        · simp at hx
          rcases hx with rfl | hx
          · exact hc
          · exact ih q (by simp) x hx
        · exact ih p (by simp [hp]) x hx
theorem getD_mem {α : Type} {ps : List α} {k : Nat} {d : α} (h : k < ps.length) : ps.getD k d ∈ ps := by
  rw [List.getD, List.getElem?_eq_getElem h]; exact List.getElem_mem _
theorem drop_getD {α : Type} {ps : List α} {k : Nat} {d : α} (h : k < ps.length) : ps.drop k = ps.getD k d :: ps.drop (k + 1) := by
  rw [List.drop_eq_getElem_cons h, List.getD, List.getElem?_eq_getElem h]; rfl

theorem setRow_ne (w : World) (g k : Nat) (cs : Array Value) (h : k ≠ g) : (w.setRow g cs).heap[k]? = w.heap[k]? := by
  simp [World.setRow, Array.getElem?_modify]
  intro e; omega
/-- What stays where a fault is told and a result's block is written. -/
theorem fin_err {wr : World} {B : Nat} {ty : TypeId} {old : Array Value} (hr : wr.heap[B]? = some (.cells old ty)) (cs : Array Value) (a c : Nat) :
    (wr.alloc (flt a (.iface 30 (.int .i64 c)))).heap[B]? = some (.cells old ty) ∧ ((wr.alloc (flt a (.iface 30 (.int .i64 c)))).setRow B cs).heap[B]? = some (.cells cs ty) ∧
    IsEr ((wr.alloc (flt a (.iface 30 (.int .i64 c)))).setRow B cs) (.one a c) (.iface 104 (.pointer (some ⟨wr.heap.size, 0, none⟩))) ∧
    ∀ w : World, w.heap.size ≤ B → Below w.heap.size w wr → Below w.heap.size w ((wr.alloc (flt a (.iface 30 (.int .i64 c)))).setRow B cs) := by
  have h1 := alloc_old (flt a (.iface 30 (.int .i64 c))) hr
  have hlt := lt_of_some hr
  refine ⟨h1, setRow_heap _ _ _ _ _ h1, ⟨_, rfl, ?_⟩, fun w hB hb => below_setRow (hb.alloc (Nat.le_trans (Nat.le_refl _) hb.size) _) hB _⟩
  rw [setRow_ne _ _ _ _ (by omega)]
  exact alloc_new _ _
end Go.Proofs.YtiejandeoopiiaaGreatDoor
