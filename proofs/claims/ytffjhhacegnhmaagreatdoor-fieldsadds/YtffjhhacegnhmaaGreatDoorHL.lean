/-
  cutTarget and readTo of package head; texts cut at blanks; readRequestLine of package head; Request of package head; readReplyLine of package head; Reply of package head; conditions as each theorem has them.
-/
import Derived.Test.YtffjhhacegnhmaaGreatDoorHF
import Derived.Test.YtffjhhacegnhmaaGreatDoorX
import Derived.Test.YtffjhhacegnhmaaGreatDoorHI
set_option linter.unusedSimpArgs false
set_option linter.unusedVariables false
namespace Go.Proofs.YtffjhhacegnhmaaGreatDoor
open Go.RowKit

theorem ib_fst (d : UInt8) : ∀ l : List UInt8, Lib.indexByte l d = match fst d.toNat (l.map UInt8.toNat) with | none => -1 | some k => (k : Int)
  | [] => rfl
  | c :: r => by
    have ih := ib_fst d r
    rw [Lib.indexByte, List.map_cons, fst]
    by_cases h : c = d
    · subst h; simp
    · have hn : ¬ c.toNat = d.toNat := fun e => h (UInt8.toNat_inj.1 e)
      rw [if_neg (by simpa using h), if_neg hn, ih]
      cases fst d.toNat (r.map UInt8.toNat) with
      | none => simp
      | some k => simp
theorem mem_ib (d : UInt8) (t : ByteArray) : decide (0 ≤ Lib.indexByte t.data.toList d) = decide (d.toNat ∈ byt t) := by
  rw [ib_fst]
  show decide (0 ≤ (match fst d.toNat (byt t) with | none => (-1 : Int) | some k => (k : Int))) = _
  cases h : fst d.toNat (byt t) with
  | none => rw [decide_eq_false (fst_none_iff.1 h)]; rfl
  | some k =>
    have : d.toNat ∈ byt t := by
      apply Classical.byContradiction
      intro hn
      rw [fst_none hn] at h
      cases h
    rw [decide_eq_true this]; simp
theorem bix_nil : Lib.index [] [32] = -1 := by simp [Lib.index]
theorem bix_hit (l : List UInt8) : Lib.index (32 :: l) [32] = ((0 : Nat) : Int) := by rw [Lib.index]; simp [List.isPrefixOf]
theorem bix_ne (b : UInt8) (l : List UInt8) (h : b ≠ 32) : Lib.index (b :: l) [32] = if Lib.index l [32] == -1 then -1 else Lib.index l [32] + 1 := by
  have hp : ([32] : List UInt8).isPrefixOf (b :: l) = false := by simp [List.isPrefixOf, Ne.symm h]
  rw [Lib.index, hp]; simp
theorem bsp_hit (l : List UInt8) (j k : Nat) (h : Lib.index l [32] = j) : Lib.splitK [32] 0 (k + 1) l = l.take j :: Lib.splitK [32] 0 k (l.drop (j + 1)) := by
  have hm : ¬ (Lib.index l [32] == -1) = true := fun e => by have := beq_iff_eq.1 e; omega
  have e : (Lib.index l [32]).toNat = j := by omega
  rw [Lib.splitK, if_neg hm, e]; rfl
theorem bsp_miss (l : List UInt8) (k : Nat) (h : Lib.index l [32] = -1) : Lib.splitK [32] 0 k l = [l] := by
  cases k with
  | zero => rfl
  | succ k => rw [Lib.splitK, if_pos (by rw [h]; rfl)]
/-- Cut at the first k blanks. -/
theorem splitK_bln : ∀ (l : List UInt8) (k : Nat), (Lib.splitK [32] 0 k l).map (·.map UInt8.toNat) = bln (k + 1) (l.map UInt8.toNat)
  | [], k => by rw [bsp_miss [] k bix_nil]; cases k <;> rfl
  | b :: r, k => by
    have ih := splitK_bln r
    cases k with
    | zero => rfl
    | succ k =>
      by_cases hb : b = 32
      · subst hb
        rw [bsp_hit _ 0 k (bix_hit r)]
        simp only [List.take_zero, List.map_cons, List.map_nil, Nat.zero_add, List.drop_succ_cons, List.drop_zero]
        rw [ih k]
        simp [bln]
      · have hb' : ¬ b.toNat = 32 := fun e => hb (UInt8.toNat_inj.1 (by simpa using e))
        by_cases hm : Lib.index r [32] = -1
        · have h2 : Lib.index (b :: r) [32] = -1 := by rw [bix_ne b r hb, hm]; rfl
          have ih2 := ih (k + 1)
          rw [bsp_miss r _ hm] at ih2
          rw [bsp_miss _ _ h2]
          simp only [List.map_cons, List.map_nil] at ih2 ⊢
          rw [bln, if_neg hb', ← ih2]
          rfl
        · have hge := Lib.index_ge r [32]
          obtain ⟨j, hj⟩ : ∃ j : Nat, Lib.index r [32] = j := ⟨(Lib.index r [32]).toNat, by omega⟩
          have hix : Lib.index (b :: r) [32] = ((j + 1 : Nat) : Int) := by rw [bix_ne b r hb, if_neg (fun e => hm (beq_iff_eq.1 e)), hj]; omega
          have ih2 := ih (k + 1)
          rw [bsp_hit r j k hj] at ih2
          rw [bsp_hit _ _ k hix]
          simp only [List.map_cons] at ih2 ⊢
          rw [bln, if_neg hb', ← ih2]
          simp
theorem splitB_bln (t : ByteArray) (k : Nat) : Lib.splitB ⟨#[32]⟩ 0 k t = (bln (k + 1) (byt t)).map strN := by
  have h := Lib.splitB_data ⟨#[32]⟩ 0 k t
  have h2 := splitK_bln t.data.toList k
  rw [show (⟨#[32]⟩ : ByteArray).data.toList = [32] from rfl] at h
  rw [show t.data.toList.map UInt8.toNat = byt t from rfl, ← h, List.map_map] at h2
  rw [← h2, List.map_map]
  conv => lhs; rw [← List.map_id (Lib.splitB ⟨#[32]⟩ 0 k t)]
  apply List.map_congr_left
  intro x _
  exact (strN_byt x).symm
theorem count_bl : ∀ l : List UInt8, Lib.count l [32] + 1 = (bl (l.map UInt8.toNat)).length
  | [] => by rw [Lib.count_miss bix_nil]; rfl
  | b :: r => by
    have ih := count_bl r
    by_cases hb : b = 32
    · subst hb
      rw [Lib.count_cons_eq]
      simp only [List.map_cons]
      rw [bl, if_pos (by decide), List.length_cons, ← ih]; omega
    · have hb' : ¬ b.toNat = 32 := fun e => hb (UInt8.toNat_inj.1 (by simpa using e))
      rw [Lib.count_cons_ne b 32 r hb, ih]
      simp only [List.map_cons]
      rw [bl, if_neg hb']
      have := bl_ne (r.map UInt8.toNat)
      cases h : bl (r.map UInt8.toNat) with
      | nil => exact absurd h this
      | cons a b => simp
theorem splitB_bl (t : ByteArray) : Lib.splitB ⟨#[32]⟩ 0 (Lib.countB t ⟨#[32]⟩) t = (bl (byt t)).map strN := by
  have h : Lib.countB t ⟨#[32]⟩ + 1 = (bl (byt t)).length := count_bl t.data.toList
  rw [splitB_bln, bln_bl _ _ (by omega)]
theorem blsplit_at (t : ByteArray) (m : Int) (w : World) (B : Nat) (hB : B = w.heap.size) (hs : t.size < 4294967281) (hm : w.cell? ⟨0, 0, none⟩ = some (.int .i64 m)) :
    Calls Tryz.prog 102 #[.string t, .string ⟨#[32]⟩] w fun e w' => e = .returned (.slice (some ⟨B, 0, none⟩) (bl (byt t)).length (bl (byt t)).length) ∧ w' = w.alloc (.cells (strs (bl (byt t))).toArray 9) := by
  subst hB
  refine (Tryz.strings_Split t ⟨#[32]⟩ m w hs hm (by decide)).mono ?_
  rintro e w' ⟨rfl, rfl⟩
  have h : Lib.countB t ⟨#[32]⟩ + 1 = (bl (byt t)).length := count_bl t.data.toList
  rw [splitB_bl, h]
  refine ⟨rfl, ?_⟩
  rw [strs, List.map_map]; rfl

theorem pre_sch (t : ByteArray) : Lib.hasPrefix t.data.toList [104, 116, 116, 112, 58, 47, 47] = decide ((byt t).take 7 = sch) := by
  unfold Lib.hasPrefix
  by_cases h : [104, 116, 116, 112, 58, 47, 47] <+: t.data.toList
  · rw [List.isPrefixOf_iff_prefix.2 h]
    obtain ⟨r, hr⟩ := h
    have : (byt t).take 7 = sch := by unfold byt; rw [← hr]; rfl
    rw [decide_eq_true this]
  · have h2 : ([104, 116, 116, 112, 58, 47, 47] : List UInt8).isPrefixOf t.data.toList = false := by
      cases hh : ([104, 116, 116, 112, 58, 47, 47] : List UInt8).isPrefixOf t.data.toList with
      | false => rfl
      | true => exact absurd (List.isPrefixOf_iff_prefix.1 hh) h
    rw [h2]
    have : ¬ (byt t).take 7 = sch := fun e => h (by
      have e2 : t.data.toList.take 7 = [104, 116, 116, 112, 58, 47, 47] := by
        have : (t.data.toList.take 7).map UInt8.toNat = ([104, 116, 116, 112, 58, 47, 47] : List UInt8).map UInt8.toNat := by rw [List.map_take]; exact e
        exact (List.map_inj_right fun a b hab => UInt8.toNat_inj.1 hab).1 this
      exact ⟨t.data.toList.drop 7, by rw [← e2]; exact List.take_append_drop 7 _⟩)
    rw [decide_eq_false this]
theorem tP_yes (t : ByteArray) (h : (byt t).take 7 = sch) : (⟨(Lib.trimPrefix t.data.toList [104, 116, 116, 112, 58, 47, 47]).toArray⟩ : ByteArray) = strN ((byt t).drop 7) := by
  have hp := pre_sch t
  rw [decide_eq_true h] at hp
  unfold Lib.trimPrefix
  rw [hp, if_pos rfl]
  exact strN_drop t 7
theorem dest_len (l : List Nat) : (dest l).1.1.1.length = 4 := by
  unfold dest
  split
  · rfl
  · split
    · rfl
    · rename_i c _
      have := host_len (l.take c)
      split
      · rename_i h _ hh
        rw [hh] at this
        split
        · exact this
        · rfl
      · rfl
theorem z6_eq : deC (noH, 0) = z6 := rfl
theorem info41' : (Tryz.prog.info? 28).map (·.size) = some 6 := by kernel_rfl
theorem goTo_bad {t : List Nat} (h : 58 ∉ t) (he : (host t).2 ≠ .ok) : (goTo t).2 = (host t).2 := by
  unfold goTo
  rw [if_neg h]
  cases hh : host t with
  | mk a b =>
    rw [hh] at he
    cases b with
    | ok => exact absurd rfl he
    | one a c => rfl
    | two a b c => rfl
theorem goTo_ok {t : List Nat} (h : 58 ∉ t) {x : Ho} (he : host t = (x, .ok)) : goTo t = ((x, 80), .ok) := by
  unfold goTo
  rw [if_neg h, he]
end Go.Proofs.YtffjhhacegnhmaaGreatDoor

set_option linter.unusedSimpArgs false
set_option linter.unusedVariables false
namespace Go.Proofs.YtffjhhacegnhmaaGreatDoor
open Go.RowKit

/-- A request as cells. -/
def rqC (q : Rq) (sl : Value) : Array Value := (Value.string (strN q.1) :: (nums .u8 q.2.1.1.1 ++ [Value.string (strN q.2.1.1.2), Value.int .i64 (q.2.1.2 : Nat), Value.string (strN q.2.2), sl])).toArray
def z9 : Array Value := #[.string ⟨#[]⟩, .int .u8 0, .int .u8 0, .int .u8 0, .int .u8 0, .string ⟨#[]⟩, .int .i64 0, .string ⟨#[]⟩, .slice none 0 0]
theorem z9_eq : rqC noR (.slice none 0 0) = z9 := rfl
theorem z9_one : z9.all (·.oneCell') = true := by simp [z9, Value.oneCell']
theorem info44 : (Tryz.prog.info? 30).map (·.size) = some 9 := by kernel_rfl
theorem run_opst44 (ρ : Operand → Value) (dst : Option Tmp) (x y : Operand) (ty : TypeId) (pos : String) (after : Array Edge) (guard : Option (Nat × Bool)) (w : World) (h : canPut 9 30 w (ρ x) (ρ y) = true) :
    (execOp ρ { dst, op := .store 30 x y, type := ty, pos, after, guard }).run Tryz.prog w = .ok .skip (putAt w (ρ x) (ρ y)) := by
  unfold canPut at h
  split at h
  · rename_i g cs e1 e2
    simp only [Bool.and_eq_true, beq_iff_eq] at h
    obtain ⟨⟨h0, h1⟩, h3⟩ := h
    split at h0
    · rename_i old t' hg
      simp only [Bool.and_eq_true, beq_iff_eq] at h0
      have := run_storeVar_row (P := Tryz.prog) w g t' 30 old cs hg (by rw [h1]; exact info44) (by omega) h3
      unfold execOp
      simp only [e1, e2, Instr.storeAt, Instr.sureAddr, Sem.run_bind, Sem.run_pure, Result.andThen_ok, this, putAt]
    · cases h0
  · cases h
attribute [local go_sem ↓] run_opst44 Go.wp_at_zero Go.wp_at_succ
attribute [local go_sem] putAt_ptr canPut_drew setRow_drew
theorem bl_mem : ∀ (l : List Nat) (p : List Nat), p ∈ bl l → (∀ x ∈ p, x ∈ l) ∧ p.length ≤ l.length
  | [], p, h => by simp [bl] at h; subst h; simp
  | c :: r, p, h => by
    have ih := bl_mem r
    have hne := bl_ne r
    unfold bl at h
    split at h
    · simp at h
      rcases h with rfl | h
      · simp
      · have := ih p h
        exact ⟨fun x hx => by simp [this.1 x hx], by simp; omega⟩
    · cases hb : bl r with
      | nil => exact absurd hb hne
      | cons q qs =>
        rw [hb] at h ih
        simp at h
        rcases h with rfl | h
        · have := ih q (by simp)
          refine ⟨fun x hx => ?_, by simp; omega⟩
          simp at hx
          rcases hx with rfl | hx
          · simp
          · simp [this.1 x hx]
        · have := ih p (by simp [h])
          exact ⟨fun x hx => by simp [this.1 x hx], by simp; omega⟩
theorem rline_not {x : List Nat} (h : (bl x).length ≠ 3) : rline x = (noR, .one 0 80) := by
  unfold rline
  split
  · rename_i hb; rw [hb] at h; simp at h
  · rfl
theorem rline_three {x m t v : List Nat} (h : bl x = [m, t, v]) : rline x = if ver v = false ∨ lone x = true then (noR, .one 0 80) else if tok m = false then (noR, .one 0 81) else targ m t := by
  unfold rline; rw [h]

end Go.Proofs.YtffjhhacegnhmaaGreatDoor

set_option linter.unusedSimpArgs false
set_option linter.unusedVariables false
namespace Go.Proofs.YtffjhhacegnhmaaGreatDoor
open Go.RowKit
theorem res_ctt {P : Program} {fn : Func} {p u v : Tmp} {ty : TypeId} (h : fn.results = #[.cell p ty, .tmp u, .tmp v]) (tmps : Array Value) (w : World)
    (g : Nat) (t : TypeId) (cs : Array Value) (fr : Nat × Nat) (d : TypeDesc) (hp : tmps.getD p undef = .pointer (some ⟨g, 0, none⟩)) (hg : w.heap[g]? = some (.cells cs t fr))
    (hu : P.underlying ty = some d) (hd : (match d with | .struct _ | .array _ _ => true | _ => false) = true) (hi : (P.info? ty).map (·.size) = some cs.size) :
    (results fn tmps).run P w = .ok (.tuple #[.agg cs, tmps.getD u undef, tmps.getD v undef]) w := by
  have hp' : tmps[p]?.getD undef = .pointer (some ⟨g, 0, none⟩) := by simpa using hp
  simp only [results, h]
  simp [Sem.run_bind, Result.andThen, hp', asAddr, run_loadVar_row w g t ty cs fr d hg hu hd hi]
theorem rline_nil : rline [] = (noR, .one 0 80) := rline_not (by decide)
theorem nil_fl {l : List Nat} {ls : List (List Nat)} (h : hd l = some ls) : ∃ x rest, fl ls = x ++ 13 :: 10 :: rest ∧ pair x = none ∧ (∀ y ∈ x, y ∈ l) ∧ ((rline x).2 ≠ .ok → req ls = ((noR, []), (rline x).2)) ∧ ((rline x).2 = .ok → ∃ ls', rest = fl ls' ∧ (∀ y ∈ ls', Ln y) ∧ req ls = match flds (x.length + 2) ls' [] with
      | (f, .ok) => (((rline x).1, f), .ok)
      | (_, e) => ((noR, []), e)) := by
  obtain ⟨⟨r, e⟩, hL, _, _⟩ := hd_some h
  cases ls with
  | nil =>
    refine ⟨[], [], rfl, rfl, by simp, fun _ => ?_, fun hk => ?_⟩
    · rw [rline_nil]; rfl
    · rw [rline_nil] at hk; cases hk
  | cons x r' =>
    refine ⟨x, fl r', fl_cons x r', (hL x (by simp)).2, fun y hy => by rw [e, fl_cons]; simp [hy], fun hk => ?_, fun hk => ⟨r', rfl, fun y hy => hL y (by simp [hy]), ?_⟩⟩
    · cases hr : rline x with
      | mk q er =>
        rw [hr] at hk
        cases er with
        | ok => exact absurd rfl hk
        | one a c => simp only [req, hr]
        | wr a e => simp only [req, hr]
    · cases hr : rline x with
      | mk q er =>
        rw [hr] at hk
        simp only at hk
        subst hk
        simp only [req, hr]
        rfl
theorem flds_byte : ∀ (ls : List (List Nat)) (a : Nat) (acc : List Fd), (∀ x ∈ ls, ∀ c ∈ x, c < 256) → okB acc → okB (flds a ls acc).1
  | [], a, acc, _, h => h
  | x :: r, a, acc, hx, h => by
    unfold flds
    split
    · intro f hf; simp at hf
    · split
      · intro f hf; simp at hf
      · refine flds_byte r _ _ (fun y hy => hx y (by simp [hy])) fun f hf => ?_
        simp at hf
        rcases hf with hf | rfl
        · exact h f hf
        · exact fld_byte (hx x (by simp))
end Go.Proofs.YtffjhhacegnhmaaGreatDoor

set_option linter.unusedSimpArgs false
set_option linter.unusedVariables false
namespace Go.Proofs.YtffjhhacegnhmaaGreatDoor
open Go.RowKit

/-- A reply as cells. -/
def ryC (q : Nat × List Nat) (sl : Value) : Array Value := #[.int .i64 (q.1 : Nat), .string (strN q.2), sl]
def z3 : Array Value := #[.int .i64 0, .string ⟨#[]⟩, .slice none 0 0]
theorem z3_one : z3.all (·.oneCell') = true := by simp [z3, Value.oneCell']
theorem bln_le (k : Nat) (l : List Nat) (h : l.length + 1 ≤ k) : bln (k + 1) l = bl l := bln_bl l k (by have := bl_len l; omega)
theorem bln_min (l : List Nat) (n : Nat) (h : 1 ≤ n) : bln (min n (l.length + 1) - 1 + 1) l = bln n l := by
  by_cases hh : n ≤ l.length + 1
  · rw [Nat.min_eq_left hh, show n - 1 + 1 = n by omega]
  · rw [Nat.min_eq_right (by omega)]
    have := bl_len l
    rw [show l.length + 1 - 1 + 1 = l.length + 1 by omega, show l.length + 1 = l.length + 1 from rfl, bln_bl l l.length this]
    rw [show n = (n - 1) + 1 by omega, bln_bl l (n - 1) (by omega)]
theorem bln_mem : ∀ (k : Nat) (l : List Nat) (p : List Nat), p ∈ bln k l → (∀ x ∈ p, x ∈ l) ∧ p.length ≤ l.length
  | 0, l, p, h => by simp [bln] at h
  | 1, l, p, h => by rw [bln_one] at h; simp at h; subst h; exact ⟨fun x hx => hx, Nat.le_refl _⟩
  | k + 2, [], p, h => by simp [bln] at h; subst h; simp
  | k + 2, c :: r, p, h => by
    have hne := bln_ne (k + 1) r
    unfold bln at h
    split at h
    · simp at h
      rcases h with rfl | h
      · simp
      · have := bln_mem (k + 1) r p h
        exact ⟨fun x hx => by simp [this.1 x hx], by simp; omega⟩
    · have ih := bln_mem (k + 2) r
      cases hb : bln (k + 2) r with
      | nil => exact absurd hb hne
      | cons q qs =>
        rw [hb] at h ih
        simp at h
        rcases h with rfl | h
        · have := ih q (by simp)
          refine ⟨fun x hx => ?_, by simp; omega⟩
          simp at hx
          rcases hx with rfl | hx
          · simp
          · simp [this.1 x hx]
        · have := ih p (by simp [h])
          exact ⟨fun x hx => by simp [this.1 x hx], by simp; omega⟩
theorem yline_not {x : List Nat} (h : (bln 3 x).length ≠ 3) : yline x = ((0, []), .one 0 80) := by
  unfold yline
  split
  · rename_i hb; rw [hb] at h; simp at h
  · rfl
theorem yline_three {x v c r : List Nat} (h : bln 3 x = [v, c, r]) : yline x = if ver v = false ∨ reason r = false then ((0, []), .one 0 80) else match stat c with
    | none => ((0, []), .one 0 80)
    | some n => ((n, r), .ok) := by
  unfold yline; rw [h]; rfl
end Go.Proofs.YtffjhhacegnhmaaGreatDoor

set_option linter.unusedSimpArgs false
set_option linter.unusedVariables false
namespace Go.Proofs.YtffjhhacegnhmaaGreatDoor
open Go.RowKit
theorem reply_short {l : List Nat} (h : hd l = none) : reply l = (((0, []), []), 0, (enE l).2) := by
  unfold reply; rw [h]
theorem yline_nil : yline [] = ((0, []), .one 0 80) := yline_not (by decide)
theorem nil_fly {l : List Nat} {ls : List (List Nat)} (h : hd l = some ls) : ∃ x rest, fl ls = x ++ 13 :: 10 :: rest ∧ pair x = none ∧ (∀ y ∈ x, y ∈ l) ∧ ((yline x).2 ≠ .ok → rep ls = (((0, []), []), (yline x).2)) ∧ ((yline x).2 = .ok → ∃ ls', rest = fl ls' ∧ (∀ y ∈ ls', Ln y) ∧ rep ls = match flds (x.length + 2) ls' [] with
      | (f, .ok) => (((yline x).1, f), .ok)
      | (_, e) => (((0, []), []), e)) := by
  obtain ⟨⟨r, e⟩, hL, _, _⟩ := hd_some h
  cases ls with
  | nil =>
    refine ⟨[], [], rfl, rfl, by simp, fun _ => ?_, fun hk => ?_⟩
    · rw [yline_nil]; rfl
    · rw [yline_nil] at hk; cases hk
  | cons x r' =>
    refine ⟨x, fl r', fl_cons x r', (hL x (by simp)).2, fun y hy => by rw [e, fl_cons]; simp [hy], fun hk => ?_, fun hk => ⟨r', rfl, fun y hy => hL y (by simp [hy]), ?_⟩⟩
    · cases hr : yline x with
      | mk q er =>
        rw [hr] at hk
        cases er with
        | ok => exact absurd rfl hk
        | one a c => simp only [rep, hr]
        | wr a e => simp only [rep, hr]
    · cases hr : yline x with
      | mk q er =>
        rw [hr] at hk
        simp only at hk
        subst hk
        simp only [rep, hr]
        rfl
end Go.Proofs.YtffjhhacegnhmaaGreatDoor
