/-
  Contracts of the library functions that this program calls, laid by the shelf; A text cut at its points, and what stays in memory where a fault is told; conditions as each theorem has them.
-/
import Derived.Shelf.LaysM
import Derived.Shelf.Strconv.Clone
import Derived.Shelf.Strings.Search1
import Derived.Shelf.Strings.Search2
import Derived.Shelf.Strings.Search3
import Derived.Shelf.Strings.Count
import Derived.Shelf.Strings.Shaped
import Derived.Shelf.Strings.Split
import Derived.Shelf.Strings.SplitShaped
import Derived.Test.YtabkelhipmijfaaGreatDoorProg
import Derived.Test.YtabkelhipmijfaaGreatDoorC
namespace Go.Proofs
open Go.Shelf
def Tryz.laysM316_ren : Go.Shelf.Ren := ⟨fun | 316 => 64 | n => n, fun | 9 => 9 | 3 => 3 | 4 => 4 | 37 => 30 | 0 => 0 | 127 => 160 | 5 => 5 | n => n, fun | n => n⟩
theorem Tryz.laysM316 : Go.Proofs.LaysM.n316 Tryz.prog Tryz.laysM316_ren := {
  mixed := by kernel_rfl
  f316 := Tryz.func64.trans (congrArg some (by kernel_rfl))
  t0 := Tryz.underlying0
  a0 := Tryz.isAgg0
  z0 := Tryz.sizeOf0
  v0 := Tryz.zeroValue0
  t3 := Tryz.underlying3
  a3 := Tryz.isAgg3
  z3 := Tryz.sizeOf3
  v3 := Tryz.zeroValue3
  t4 := Tryz.underlying4
  a4 := Tryz.isAgg4
  z4 := Tryz.sizeOf4
  v4 := Tryz.zeroValue4
  t9 := Tryz.underlying9
  a9 := Tryz.isAgg9
  z9 := Tryz.sizeOf9
  v9 := Tryz.zeroValue9
  t37 := Tryz.underlying30
  a37 := Tryz.isAgg30
  z37 := Tryz.sizeOf30
  v37 := Tryz.zeroValue30
  t127 := Tryz.underlying160
  a127 := Tryz.isAgg160
  z127 := Tryz.sizeOf160
  v127 := Tryz.zeroValue160
  t5 := Tryz.underlying5
  a5 := Tryz.isAgg5
  z5 := Tryz.sizeOf5
  v5 := Tryz.zeroValue5
  i0 := by kernel_rfl
  i3 := by kernel_rfl
  i4 := by kernel_rfl
  i5 := by kernel_rfl
  i9 := by kernel_rfl
  i37 := by kernel_rfl
  i127 := by kernel_rfl }
open Go.RowKit in
theorem Tryz.stringslite_Clone (s : ByteArray) (w : World) (hlim : s.size ≤ 281474976710656) :
    Calls Tryz.prog 64 #[.string s] w fun e w' => e = .returned (.string s) ∧ Below w.heap.size w w' := Any.stringslite_Clone Tryz.laysM316 s w hlim
def Tryz.lays144_ren : Go.Shelf.Ren := ⟨fun | 144 => 147 | 143 => 123 | 219 => 133 | 217 => 139 | 225 => 140 | 224 => 141 | 267 => 142 | 266 => 145 | 314 => 146 | n => n, fun | 9 => 9 | 4 => 4 | 3 => 3 | 5 => 5 | 46 => 170 | 146 => 231 | 51 => 230 | n => n, fun | 1 => 0 | n => n⟩
theorem Tryz.lays144 : Go.Proofs.Lays.n144 Tryz.prog Tryz.lays144_ren := {
  mixed := by kernel_rfl
  f143 := Tryz.func123.trans (congrArg some (by kernel_rfl))
  f144 := Tryz.func147.trans (congrArg some (by kernel_rfl))
  f217 := Tryz.func139.trans (congrArg some (by kernel_rfl))
  f219 := Tryz.func133.trans (congrArg some (by kernel_rfl))
  f224 := Tryz.func141.trans (congrArg some (by kernel_rfl))
  f225 := Tryz.func140.trans (congrArg some (by kernel_rfl))
  f266 := Tryz.func145.trans (congrArg some (by kernel_rfl))
  f267 := Tryz.func142.trans (congrArg some (by kernel_rfl))
  f314 := Tryz.func146.trans (congrArg some (by kernel_rfl))
  t3 := Tryz.underlying3
  a3 := Tryz.isAgg3
  z3 := Tryz.sizeOf3
  v3 := Tryz.zeroValue3
  t4 := Tryz.underlying4
  a4 := Tryz.isAgg4
  z4 := Tryz.sizeOf4
  v4 := Tryz.zeroValue4
  t5 := Tryz.underlying5
  a5 := Tryz.isAgg5
  z5 := Tryz.sizeOf5
  v5 := Tryz.zeroValue5
  t9 := Tryz.underlying9
  a9 := Tryz.isAgg9
  z9 := Tryz.sizeOf9
  v9 := Tryz.zeroValue9
  t46 := Tryz.underlying170
  a46 := Tryz.isAgg170
  z46 := Tryz.sizeOf170
  v46 := Tryz.zeroValue170
  t51 := Tryz.underlying230
  a51 := Tryz.isAgg230
  z51 := Tryz.sizeOf230
  v51 := Tryz.zeroValue230
  t146 := Tryz.underlying231
  a146 := Tryz.isAgg231
  z146 := Tryz.sizeOf231
  v146 := Tryz.zeroValue231
  g1 := by kernel_rfl }
open Go.RowKit Go.Lib in
theorem Tryz.strings_Contains_one (s : ByteArray) (c : UInt8) (w : World) :
    Calls Tryz.prog 147 #[.string s, .string ⟨#[c]⟩] w fun e w' => e = .returned (.bool (decide (0 ≤ Lib.indexByte s.data.toList c))) ∧ w' = w := Any.strings_Contains_one Tryz.lays144 s c w
def Tryz.lays146_ren : Go.Shelf.Ren := ⟨fun | 146 => 97 | 221 => 116 | 268 => 121 | 138 => 122 | 143 => 123 | 195 => 130 | 197 => 131 | 218 => 132 | 219 => 133 | 260 => 138 | 217 => 139 | 225 => 140 | 224 => 141 | 267 => 142 | 266 => 145 | 314 => 146 | n => n, fun | 9 => 9 | 31 => 131 | 3 => 3 | 4 => 4 | 0 => 0 | 105 => 219 | 21 => 21 | 5 => 5 | 46 => 170 | 119 => 226 | 139 => 229 | 138 => 228 | 146 => 231 | 51 => 230 | n => n, fun | 1 => 0 | 3 => 1 | 4 => 2 | n => n⟩
theorem Tryz.lays146 : Go.Proofs.Lays.n146 Tryz.prog Tryz.lays146_ren := {
  mixed := by kernel_rfl
  f138 := Tryz.func122.trans (congrArg some (by kernel_rfl))
  f143 := Tryz.func123.trans (congrArg some (by kernel_rfl))
  f146 := Tryz.func97.trans (congrArg some (by kernel_rfl))
  f195 := Tryz.func130.trans (congrArg some (by kernel_rfl))
  f197 := Tryz.func131.trans (congrArg some (by kernel_rfl))
  f217 := Tryz.func139.trans (congrArg some (by kernel_rfl))
  f218 := Tryz.func132.trans (congrArg some (by kernel_rfl))
  f219 := Tryz.func133.trans (congrArg some (by kernel_rfl))
  f221 := Tryz.func116.trans (congrArg some (by kernel_rfl))
  f224 := Tryz.func141.trans (congrArg some (by kernel_rfl))
  f225 := Tryz.func140.trans (congrArg some (by kernel_rfl))
  f260 := Tryz.func138.trans (congrArg some (by kernel_rfl))
  f266 := Tryz.func145.trans (congrArg some (by kernel_rfl))
  f267 := Tryz.func142.trans (congrArg some (by kernel_rfl))
  f268 := Tryz.func121.trans (congrArg some (by kernel_rfl))
  f314 := Tryz.func146.trans (congrArg some (by kernel_rfl))
  t0 := Tryz.underlying0
  a0 := Tryz.isAgg0
  z0 := Tryz.sizeOf0
  v0 := Tryz.zeroValue0
  t3 := Tryz.underlying3
  a3 := Tryz.isAgg3
  z3 := Tryz.sizeOf3
  v3 := Tryz.zeroValue3
  t4 := Tryz.underlying4
  a4 := Tryz.isAgg4
  z4 := Tryz.sizeOf4
  v4 := Tryz.zeroValue4
  t5 := Tryz.underlying5
  a5 := Tryz.isAgg5
  z5 := Tryz.sizeOf5
  v5 := Tryz.zeroValue5
  t9 := Tryz.underlying9
  a9 := Tryz.isAgg9
  z9 := Tryz.sizeOf9
  v9 := Tryz.zeroValue9
  t21 := Tryz.underlying21
  a21 := Tryz.isAgg21
  z21 := Tryz.sizeOf21
  v21 := Tryz.zeroValue21
  t31 := Tryz.underlying131
  a31 := Tryz.isAgg131
  z31 := Tryz.sizeOf131
  v31 := Tryz.zeroValue131
  t46 := Tryz.underlying170
  a46 := Tryz.isAgg170
  z46 := Tryz.sizeOf170
  v46 := Tryz.zeroValue170
  t51 := Tryz.underlying230
  a51 := Tryz.isAgg230
  z51 := Tryz.sizeOf230
  v51 := Tryz.zeroValue230
  t105 := Tryz.underlying219
  a105 := Tryz.isAgg219
  z105 := Tryz.sizeOf219
  v105 := Tryz.zeroValue219
  t119 := Tryz.underlying226
  a119 := Tryz.isAgg226
  z119 := Tryz.sizeOf226
  t138 := Tryz.underlying228
  a138 := Tryz.isAgg228
  z138 := Tryz.sizeOf228
  v138 := Tryz.zeroValue228
  t139 := Tryz.underlying229
  a139 := Tryz.isAgg229
  z139 := Tryz.sizeOf229
  v139 := Tryz.zeroValue229
  t146 := Tryz.underlying231
  a146 := Tryz.isAgg231
  z146 := Tryz.sizeOf231
  v146 := Tryz.zeroValue231
  g1 := by kernel_rfl
  g3 := by kernel_rfl
  g4 := by kernel_rfl }
open Go.RowKit Go.Lib in
theorem Tryz.strings_Split (s sep : ByteArray) (m : Int) (w : World) (hs : s.size < 4294967281) (hm : w.cell? ⟨0, 0, none⟩ = some (.int .i64 m)) (h1 : 1 ≤ sep.size) :
    Calls Tryz.prog 97 #[.string s, .string sep] w fun e w' =>
      e = .returned (.slice (some ⟨w.heap.size, 0, none⟩) (Lib.countB s sep + 1) (Lib.countB s sep + 1)) ∧ w' = w.alloc (.cells ((Lib.splitB sep 0 (Lib.countB s sep) s).map Value.string).toArray 9) := Any.strings_Split Tryz.lays146 (by kernel_rfl) s sep m w hs hm h1
end Go.Proofs

set_option linter.unusedSimpArgs false
set_option linter.unusedVariables false
namespace Go.Proofs.YtabkelhipmijfaaGreatDoor
open Go.RowKit

theorem index_nil : Lib.index [] [46] = -1 := by simp [Lib.index]
theorem index_dot (l : List UInt8) : Lib.index (46 :: l) [46] = ((0 : Nat) : Int) := by rw [Lib.index]; simp [List.isPrefixOf]
theorem index_ne (b : UInt8) (l : List UInt8) (h : b ≠ 46) : Lib.index (b :: l) [46] = if Lib.index l [46] == -1 then -1 else Lib.index l [46] + 1 := by
  have hp : ([46] : List UInt8).isPrefixOf (b :: l) = false := by simp [List.isPrefixOf, Ne.symm h]
  rw [Lib.index, hp]; simp
theorem splitK_hit (l : List UInt8) (j k : Nat) (h : Lib.index l [46] = j) : Lib.splitK [46] 0 (k + 1) l = l.take j :: Lib.splitK [46] 0 k (l.drop (j + 1)) := by
  have hm : ¬ (Lib.index l [46] == -1) = true := fun e => by have := beq_iff_eq.1 e; omega
  have e : (Lib.index l [46]).toNat = j := by omega
  rw [Lib.splitK, if_neg hm, e]; rfl
theorem splitK_pcs : ∀ l : List UInt8, (Lib.splitK [46] 0 (Lib.count l [46]) l).map (·.map UInt8.toNat) = pcs (l.map UInt8.toNat)
  | [] => by rw [Lib.count_miss index_nil]; rfl
  | b :: r => by
    have ih := splitK_pcs r
    by_cases hb : b = 46
    · subst hb
      rw [Lib.count_cons_eq, Nat.add_comm, splitK_hit _ 0 _ (index_dot r)]
      simp only [List.take_zero, List.map_cons, List.map_nil, Nat.zero_add, List.drop_succ_cons, List.drop_zero]
      rw [ih]
      simp [pcs]
    · have hb' : ¬ b.toNat = 46 := fun e => hb (UInt8.toNat_inj.1 (by simpa using e))
      rw [Lib.count_cons_ne b 46 r hb]
      by_cases hm : Lib.index r [46] = -1
      · rw [Lib.count_miss hm] at ih ⊢
        simp only [Lib.splitK, List.map_cons, List.map_nil] at ih ⊢
        show _ = pcs (b.toNat :: r.map UInt8.toNat)
        rw [pcs, if_neg hb', ← ih]
        rfl
      · have hge := Lib.index_ge r [46]
        obtain ⟨j, hj⟩ : ∃ j : Nat, Lib.index r [46] = j := ⟨(Lib.index r [46]).toNat, by omega⟩
        have hix : Lib.index (b :: r) [46] = ((j + 1 : Nat) : Int) := by rw [index_ne b r hb, if_neg (fun e => hm (beq_iff_eq.1 e)), hj]; omega
        obtain ⟨k, hk⟩ : ∃ k, Lib.count r [46] = k + 1 := ⟨Lib.count (r.drop (j + 1)) [46], by rw [Lib.count_hit (by simp) hj]; simp; omega⟩
        rw [hk] at ih ⊢
        rw [splitK_hit r j k hj] at ih
        rw [splitK_hit _ _ k hix]
        show _ = pcs (b.toNat :: r.map UInt8.toNat)
        rw [pcs, if_neg hb', ← ih]
        simp
theorem splitB_pcs (t : ByteArray) : (Lib.splitB ⟨#[46]⟩ 0 (Lib.countB t ⟨#[46]⟩) t).map byt = pcs (byt t) := by
  have h := Lib.splitB_data ⟨#[46]⟩ 0 (Lib.countB t ⟨#[46]⟩) t
  have h2 := splitK_pcs t.data.toList
  show List.map byt _ = pcs (t.data.toList.map UInt8.toNat)
  rw [← h2]
  show _ = (Lib.splitK [46] 0 (Lib.countB t ⟨#[46]⟩) t.data.toList).map _
  rw [show ([46] : List UInt8) = (⟨#[46]⟩ : ByteArray).data.toList from rfl, ← h, List.map_map]
  rfl
theorem splitB_str (t : ByteArray) : Lib.splitB ⟨#[46]⟩ 0 (Lib.countB t ⟨#[46]⟩) t = (pcs (byt t)).map strN := by
  rw [← splitB_pcs, List.map_map]
  conv => lhs; rw [← List.map_id (Lib.splitB ⟨#[46]⟩ 0 (Lib.countB t ⟨#[46]⟩) t)]
  apply List.map_congr_left
  intro x _
  exact (strN_byt x).symm
theorem count_pcs (t : ByteArray) : Lib.countB t ⟨#[46]⟩ + 1 = (pcs (byt t)).length := by
  rw [← splitB_pcs, List.length_map, Lib.splitB_all ⟨#[46]⟩ (by decide) 0 _ t rfl]

/-- Texts as they lie in memory. -/
def strs (ps : List (List Nat)) : List Value := ps.map fun p => .string (strN p)
theorem strs_get (ps : List (List Nat)) (i : Nat) (h : i < ps.length) : (strs ps)[i]? = some (.string (strN (ps.getD i []))) := by
  simp [strs, List.getElem?_map, List.getElem?_eq_getElem h, List.getD]
theorem split_at (t : ByteArray) (m : Int) (w : World) (B : Nat) (hB : B = w.heap.size) (hs : t.size < 4294967281) (hm : w.cell? ⟨0, 0, none⟩ = some (.int .i64 m)) :
    Calls Tryz.prog 97 #[.string t, .string ⟨#[46]⟩] w fun e w' => e = .returned (.slice (some ⟨B, 0, none⟩) (pcs (byt t)).length (pcs (byt t)).length) ∧ w' = w.alloc (.cells (strs (pcs (byt t))).toArray 9) := by
  subst hB
  refine (Tryz.strings_Split t ⟨#[46]⟩ m w hs hm (by decide)).mono ?_
  rintro e w' ⟨rfl, rfl⟩
  rw [splitB_str, count_pcs]
  refine ⟨rfl, ?_⟩
  rw [strs, List.map_map]; rfl

theorem pcs_len : ∀ (l : List Nat), (pcs l).length ≤ l.length + 1 ∧ ∀ p ∈ pcs l, p.length ≤ l.length
  | [] => by simp [pcs]
  | c :: r => by
    obtain ⟨h1, h2⟩ := pcs_len r
    have hne := pcs_ne r
    unfold pcs
    split
    · refine ⟨by simp; omega, fun p hp => ?_⟩
      simp at hp
      rcases hp with rfl | hp
      · simp
      · have := h2 p hp; simp; omega
    · cases h : pcs r with
      | nil => exact absurd h hne
      | cons q qs =>
        rw [h] at h1 h2
        refine ⟨by simp at h1 ⊢; omega, fun p hp => ?_⟩
        simp at hp
        rcases hp with rfl | hp
        · have := h2 q (by simp); simp; omega
        · have := h2 p (by simp [hp]); simp; omega
theorem pcs_lt {l : List Nat} (h : ∀ x ∈ l, x < 256) : ∀ p ∈ pcs l, ∀ x ∈ p, x < 256 := by
  induction l with
  | nil => simp [pcs]
  | cons c r ih =>
    have ih := ih fun x hx => h x (by simp [hx])
    have hc := h c (by simp)
    have hne := pcs_ne r
    unfold pcs
    split
    · intro p hp x hx
      simp at hp
      rcases hp with rfl | hp
      · simp at hx
      · exact ih p hp x hx
    · cases hq : pcs r with
      | nil => exact absurd hq hne
      | cons q qs =>
        rw [hq] at ih
        intro p hp x hx
        simp at hp
        rcases hp with rfl | hp
        · simp at hx
          rcases hx with rfl | hx
          · exact hc
          · exact ih q (by simp) x hx
        · exact ih p (by simp [hp]) x hx
theorem getD_mem {α : Type} {ps : List α} {k : Nat} {d : α} (h : k < ps.length) : ps.getD k d ∈ ps := by
  rw [List.getD, List.getElem?_eq_getElem h]; exact List.getElem_mem _
theorem drop_getD {α : Type} {ps : List α} {k : Nat} {d : α} (h : k < ps.length) : ps.drop k = ps.getD k d :: ps.drop (k + 1) := by
  rw [List.drop_eq_getElem_cons h, List.getD, List.getElem?_eq_getElem h]; rfl

theorem setRow_ne (w : World) (g k : Nat) (cs : Array Value) (h : k ≠ g) : (w.setRow g cs).heap[k]? = w.heap[k]? := by
  simp [World.setRow, Array.getElem?_modify]
  intro e; omega
/-- What stays where a fault is told and a result's block is written. -/
theorem fin_err {wr : World} {B : Nat} {ty : TypeId} {old : Array Value} (hr : wr.heap[B]? = some (.cells old ty)) (cs : Array Value) (a c : Nat) :
    (wr.alloc (flt a (.iface 24 (.int .i64 c)))).heap[B]? = some (.cells old ty) ∧ ((wr.alloc (flt a (.iface 24 (.int .i64 c)))).setRow B cs).heap[B]? = some (.cells cs ty) ∧
    IsEr ((wr.alloc (flt a (.iface 24 (.int .i64 c)))).setRow B cs) (.one a c) (.iface 156 (.pointer (some ⟨wr.heap.size, 0, none⟩))) ∧
    ∀ w : World, w.heap.size ≤ B → Below w.heap.size w wr → Below w.heap.size w ((wr.alloc (flt a (.iface 24 (.int .i64 c)))).setRow B cs) := by
  have h1 := alloc_old (flt a (.iface 24 (.int .i64 c))) hr
  have hlt := lt_of_some hr
  refine ⟨h1, setRow_heap _ _ _ _ _ h1, ⟨_, rfl, ?_⟩, fun w hB hb => below_setRow (hb.alloc (Nat.le_trans (Nat.le_refl _) hb.size) _) hB _⟩
  rw [setRow_ne _ _ _ _ (by omega)]
  exact alloc_new _ _
end Go.Proofs.YtabkelhipmijfaaGreatDoor
