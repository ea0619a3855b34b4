/-
  cutTarget and readTo of package head; texts cut at blanks; conditions as each theorem has them.
-/
import Derived.Test.YtffjhhacegnhmaaDoorHF
import Derived.Test.YtffjhhacegnhmaaDoorS
set_option linter.unusedSimpArgs false
set_option linter.unusedVariables false
namespace Go.Proofs.YtffjhhacegnhmaaDoor
open Go.RowKit

theorem ib_fst (d : UInt8) : ∀ l : List UInt8, Lib.indexByte l d = match fst d.toNat (l.map UInt8.toNat) with | none => -1 | some k => (k : Int)
  | [] => rfl
  | c :: r => by
    have ih := ib_fst d r
    rw [Lib.indexByte, List.map_cons, fst]
    by_cases h : c = d
    · subst h; simp
    · have hn : ¬ c.toNat = d.toNat := fun e => h (UInt8.toNat_inj.1 e)
      rw [if_neg (by simpa using h), if_neg hn, ih]
      cases fst d.toNat (r.map UInt8.toNat) with
      | none => simp
      | some k => simp
theorem mem_ib (d : UInt8) (t : ByteArray) : decide (0 ≤ Lib.indexByte t.data.toList d) = decide (d.toNat ∈ byt t) := by
  rw [ib_fst]
  show decide (0 ≤ (match fst d.toNat (byt t) with | none => (-1 : Int) | some k => (k : Int))) = _
  cases h : fst d.toNat (byt t) with
  | none => rw [decide_eq_false (fst_none_iff.1 h)]; rfl
  | some k =>
    have : d.toNat ∈ byt t := by
      apply Classical.byContradiction
      intro hn
      rw [fst_none hn] at h
      cases h
    rw [decide_eq_true this]; simp
theorem bix_nil : Lib.index [] [32] = -1 := by simp [Lib.index]
theorem bix_hit (l : List UInt8) : Lib.index (32 :: l) [32] = ((0 : Nat) : Int) := by rw [Lib.index]; simp [List.isPrefixOf]
theorem bix_ne (b : UInt8) (l : List UInt8) (h : b ≠ 32) : Lib.index (b :: l) [32] = if Lib.index l [32] == -1 then -1 else Lib.index l [32] + 1 := by
  have hp : ([32] : List UInt8).isPrefixOf (b :: l) = false := by simp [List.isPrefixOf, Ne.symm h]
  rw [Lib.index, hp]; simp
theorem bsp_hit (l : List UInt8) (j k : Nat) (h : Lib.index l [32] = j) : Lib.splitK [32] 0 (k + 1) l = l.take j :: Lib.splitK [32] 0 k (l.drop (j + 1)) := by
  have hm : ¬ (Lib.index l [32] == -1) = true := fun e => by have := beq_iff_eq.1 e; omega
  have e : (Lib.index l [32]).toNat = j := by omega
  rw [Lib.splitK, if_neg hm, e]; rfl
theorem bsp_miss (l : List UInt8) (k : Nat) (h : Lib.index l [32] = -1) : Lib.splitK [32] 0 k l = [l] := by
  cases k with
  | zero => rfl
  | succ k => rw [Lib.splitK, if_pos (by rw [h]; rfl)]
/-- Cut at the first k blanks. -/
theorem splitK_bln : ∀ (l : List UInt8) (k : Nat), (Lib.splitK [32] 0 k l).map (·.map UInt8.toNat) = bln (k + 1) (l.map UInt8.toNat)
  | [], k => by rw [bsp_miss [] k bix_nil]; cases k <;> rfl
  | b :: r, k => by
    have ih := splitK_bln r
    cases k with
    | zero => rfl
    | succ k =>
      by_cases hb : b = 32
      · subst hb
        rw [bsp_hit _ 0 k (bix_hit r)]
        simp only [List.take_zero, List.map_cons, List.map_nil, Nat.zero_add, List.drop_succ_cons, List.drop_zero]
        rw [ih k]
        simp [bln]
      · have hb' : ¬ b.toNat = 32 := fun e => hb (UInt8.toNat_inj.1 (by simpa using e))
        by_cases hm : Lib.index r [32] = -1
        · have h2 : Lib.index (b :: r) [32] = -1 := by rw [bix_ne b r hb, hm]; rfl
          have ih2 := ih (k + 1)
          rw [bsp_miss r _ hm] at ih2
          rw [bsp_miss _ _ h2]
          simp only [List.map_cons, List.map_nil] at ih2 ⊢
          rw [bln, if_neg hb', ← ih2]
          rfl
        · have hge := Lib.index_ge r [32]
          obtain ⟨j, hj⟩ : ∃ j : Nat, Lib.index r [32] = j := ⟨(Lib.index r [32]).toNat, by omega⟩
          have hix : Lib.index (b :: r) [32] = ((j + 1 : Nat) : Int) := by rw [bix_ne b r hb, if_neg (fun e => hm (beq_iff_eq.1 e)), hj]; omega
          have ih2 := ih (k + 1)
          rw [bsp_hit r j k hj] at ih2
          rw [bsp_hit _ _ k hix]
          simp only [List.map_cons] at ih2 ⊢
          rw [bln, if_neg hb', ← ih2]
          simp
theorem splitB_bln (t : ByteArray) (k : Nat) : Lib.splitB ⟨#[32]⟩ 0 k t = (bln (k + 1) (byt t)).map strN := by
  have h := Lib.splitB_data ⟨#[32]⟩ 0 k t
  have h2 := splitK_bln t.data.toList k
  rw [show (⟨#[32]⟩ : ByteArray).data.toList = [32] from rfl] at h
  rw [show t.data.toList.map UInt8.toNat = byt t from rfl, ← h, List.map_map] at h2
  rw [← h2, List.map_map]
  conv => lhs; rw [← List.map_id (Lib.splitB ⟨#[32]⟩ 0 k t)]
  apply List.map_congr_left
  intro x _
  exact (strN_byt x).symm
theorem count_bl : ∀ l : List UInt8, Lib.count l [32] + 1 = (bl (l.map UInt8.toNat)).length
  | [] => by rw [Lib.count_miss bix_nil]; rfl
  | b :: r => by
    have ih := count_bl r
    by_cases hb : b = 32
    · subst hb
      rw [Lib.count_cons_eq]
      simp only [List.map_cons]
      rw [bl, if_pos (by decide), List.length_cons, ← ih]; omega
    · have hb' : ¬ b.toNat = 32 := fun e => hb (UInt8.toNat_inj.1 (by simpa using e))
      rw [Lib.count_cons_ne b 32 r hb, ih]
      simp only [List.map_cons]
      rw [bl, if_neg hb']
      have := bl_ne (r.map UInt8.toNat)
      cases h : bl (r.map UInt8.toNat) with
      | nil => exact absurd h this
      | cons a b => simp
theorem splitB_bl (t : ByteArray) : Lib.splitB ⟨#[32]⟩ 0 (Lib.countB t ⟨#[32]⟩) t = (bl (byt t)).map strN := by
  have h : Lib.countB t ⟨#[32]⟩ + 1 = (bl (byt t)).length := count_bl t.data.toList
  rw [splitB_bln, bln_bl _ _ (by omega)]
theorem blsplit_at (t : ByteArray) (m : Int) (w : World) (B : Nat) (hB : B = w.heap.size) (hs : t.size < 4294967281) (hm : w.cell? ⟨0, 0, none⟩ = some (.int .i64 m)) :
    Calls Tryd.prog 102 #[.string t, .string ⟨#[32]⟩] w fun e w' => e = .returned (.slice (some ⟨B, 0, none⟩) (bl (byt t)).length (bl (byt t)).length) ∧ w' = w.alloc (.cells (strs (bl (byt t))).toArray 9) := by
  subst hB
  refine (Tryd.strings_Split t ⟨#[32]⟩ m w hs hm (by decide)).mono ?_
  rintro e w' ⟨rfl, rfl⟩
  have h : Lib.countB t ⟨#[32]⟩ + 1 = (bl (byt t)).length := count_bl t.data.toList
  rw [splitB_bl, h]
  refine ⟨rfl, ?_⟩
  rw [strs, List.map_map]; rfl

theorem pre_sch (t : ByteArray) : Lib.hasPrefix t.data.toList [104, 116, 116, 112, 58, 47, 47] = decide ((byt t).take 7 = sch) := by
  unfold Lib.hasPrefix
  by_cases h : [104, 116, 116, 112, 58, 47, 47] <+: t.data.toList
  · rw [List.isPrefixOf_iff_prefix.2 h]
    obtain ⟨r, hr⟩ := h
    have : (byt t).take 7 = sch := by unfold byt; rw [← hr]; rfl
    rw [decide_eq_true this]
  · have h2 : ([104, 116, 116, 112, 58, 47, 47] : List UInt8).isPrefixOf t.data.toList = false := by
      cases hh : ([104, 116, 116, 112, 58, 47, 47] : List UInt8).isPrefixOf t.data.toList with
      | false => rfl
      | true => exact absurd (List.isPrefixOf_iff_prefix.1 hh) h
    rw [h2]
    have : ¬ (byt t).take 7 = sch := fun e => h (by
      have e2 : t.data.toList.take 7 = [104, 116, 116, 112, 58, 47, 47] := by
        have : (t.data.toList.take 7).map UInt8.toNat = ([104, 116, 116, 112, 58, 47, 47] : List UInt8).map UInt8.toNat := by rw [List.map_take]; exact e
        exact (List.map_inj_right fun a b hab => UInt8.toNat_inj.1 hab).1 this
      exact ⟨t.data.toList.drop 7, by rw [← e2]; exact List.take_append_drop 7 _⟩)
    rw [decide_eq_false this]
theorem tP_yes (t : ByteArray) (h : (byt t).take 7 = sch) : (⟨(Lib.trimPrefix t.data.toList [104, 116, 116, 112, 58, 47, 47]).toArray⟩ : ByteArray) = strN ((byt t).drop 7) := by
  have hp := pre_sch t
  rw [decide_eq_true h] at hp
  unfold Lib.trimPrefix
  rw [hp, if_pos rfl]
  exact strN_drop t 7
theorem dest_len (l : List Nat) : (dest l).1.1.1.length = 4 := by
  unfold dest
  split
  · rfl
  · split
    · rfl
    · rename_i c _
      have := host_len (l.take c)
      split
      · rename_i h _ hh
        rw [hh] at this
        split
        · exact this
        · rfl
      · rfl
theorem z6_eq : deC (noH, 0) = z6 := rfl
theorem info41' : (Tryd.prog.info? 46).map (·.size) = some 6 := by kernel_rfl
theorem goTo_bad {t : List Nat} (h : 58 ∉ t) (he : (host t).2 ≠ .ok) : (goTo t).2 = (host t).2 := by
  unfold goTo
  rw [if_neg h]
  cases hh : host t with
  | mk a b =>
    rw [hh] at he
    cases b with
    | ok => exact absurd rfl he
    | one a c => rfl
    | two a b c => rfl
theorem goTo_ok {t : List Nat} (h : 58 ∉ t) {x : Ho} (he : host t = (x, .ok)) : goTo t = ((x, 80), .ok) := by
  unfold goTo
  rw [if_neg h, he]
end Go.Proofs.YtffjhhacegnhmaaDoor
