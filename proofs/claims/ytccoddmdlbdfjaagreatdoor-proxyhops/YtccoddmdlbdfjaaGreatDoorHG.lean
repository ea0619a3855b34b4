/-
  cutTarget and readTo of package head; texts cut at blanks; conditions as each theorem has them.
-/
import Derived.Test.YtccoddmdlbdfjaaGreatDoorJoinedHE
import Derived.Test.YtccoddmdlbdfjaaGreatDoorJoinedS
set_option linter.unusedSimpArgs false
set_option linter.unusedVariables false
namespace Go.Proofs.YtccoddmdlbdfjaaGreatDoor
open Go.RowKit

theorem ib_fst (d : UInt8) : ∀ l : List UInt8, Lib.indexByte l d = match fst d.toNat (l.map UInt8.toNat) with | none => -1 | some k => (k : Int)
  | [] => rfl
  | c :: r => by
    have ih := ib_fst d r
    rw [Lib.indexByte, List.map_cons, fst]
    by_cases h : c = d
    · subst h; simp
    · have hn : ¬ c.toNat = d.toNat := fun e => h (UInt8.toNat_inj.1 e)
      rw [if_neg (by simpa using h), if_neg hn, ih]
      cases fst d.toNat (r.map UInt8.toNat) with
      | none => simp
      | some k => simp
theorem mem_ib (d : UInt8) (t : ByteArray) : decide (0 ≤ Lib.indexByte t.data.toList d) = decide (d.toNat ∈ byt t) := by
  rw [ib_fst]
  show decide (0 ≤ (match fst d.toNat (byt t) with | none => (-1 : Int) | some k => (k : Int))) = _
  cases h : fst d.toNat (byt t) with
  | none => rw [decide_eq_false (fst_none_iff.1 h)]; rfl
  | some k =>
    have : d.toNat ∈ byt t := by
      apply Classical.byContradiction
      intro hn
      rw [fst_none hn] at h
      cases h
    rw [decide_eq_true this]; simp
theorem bix_nil : Lib.index [] [32] = -1 := by simp [Lib.index]
theorem bix_hit (l : List UInt8) : Lib.index (32 :: l) [32] = ((0 : Nat) : Int) := by rw [Lib.index]; simp [List.isPrefixOf]
theorem bix_ne (b : UInt8) (l : List UInt8) (h : b ≠ 32) : Lib.index (b :: l) [32] = if Lib.index l [32] == -1 then -1 else Lib.index l [32] + 1 := by
  have hp : ([32] : List UInt8).isPrefixOf (b :: l) = false := by simp [List.isPrefixOf, Ne.symm h]
  rw [Lib.index, hp]; simp
theorem bsp_hit (l : List UInt8) (j k : Nat) (h : Lib.index l [32] = j) : Lib.splitK [32] 0 (k + 1) l = l.take j :: Lib.splitK [32] 0 k (l.drop (j + 1)) := by
  have hm : ¬ (Lib.index l [32] == -1) = true := fun e => by have := beq_iff_eq.1 e; omega
  have e : (Lib.index l [32]).toNat = j := by omega
  rw [Lib.splitK, if_neg hm, e]; rfl
theorem bsp_miss (l : List UInt8) (k : Nat) (h : Lib.index l [32] = -1) : Lib.splitK [32] 0 k l = [l] := by
  cases k with
  | zero => rfl
  | succ k => rw [Lib.splitK, if_pos (by rw [h]; rfl)]
/-- Cut at the first k blanks. -/
theorem splitK_bln : ∀ (l : List UInt8) (k : Nat), (Lib.splitK [32] 0 k l).map (·.map UInt8.toNat) = bln (k + 1) (l.map UInt8.toNat)
  | [], k => by rw [bsp_miss [] k bix_nil]; cases k <;> rfl
  | b :: r, k => by
    have ih := splitK_bln r
    cases k with
    | zero => rfl
    | succ k =>
      by_cases hb : b = 32
      · subst hb
        rw [bsp_hit _ 0 k (bix_hit r)]
        simp only [List.take_zero, List.map_cons, List.map_nil, Nat.zero_add, List.drop_succ_cons, List.drop_zero]
        rw [ih k]
        simp [bln]
      · have hb' : ¬ b.toNat = 32 := fun e => hb (UInt8.toNat_inj.1 (by simpa using e))
        by_cases hm : Lib.index r [32] = -1
        · have h2 : Lib.index (b :: r) [32] = -1 := by rw [bix_ne b r hb, hm]; rfl
          have ih2 := ih (k + 1)
          rw [bsp_miss r _ hm] at ih2
          rw [bsp_miss _ _ h2]
          simp only [List.map_cons, List.map_nil] at ih2 ⊢
          rw [bln, if_neg hb', ← ih2]
          rfl
        · have hge := Lib.index_ge r [32]
          obtain ⟨j, hj⟩ : ∃ j : Nat, Lib.index r [32] = j := ⟨(Lib.index r [32]).toNat, by omega⟩
          have hix : Lib.index (b :: r) [32] = ((j + 1 : Nat) : Int) := by rw [bix_ne b r hb, if_neg (fun e => hm (beq_iff_eq.1 e)), hj]; omega
          have ih2 := ih (k + 1)
          rw [bsp_hit r j k hj] at ih2
          rw [bsp_hit _ _ k hix]
          simp only [List.map_cons] at ih2 ⊢
          rw [bln, if_neg hb', ← ih2]
          simp
theorem splitB_bln (t : ByteArray) (k : Nat) : Lib.splitB ⟨#[32]⟩ 0 k t = (bln (k + 1) (byt t)).map strN := by
  have h := Lib.splitB_data ⟨#[32]⟩ 0 k t
  have h2 := splitK_bln t.data.toList k
  rw [show (⟨#[32]⟩ : ByteArray).data.toList = [32] from rfl] at h
  rw [show t.data.toList.map UInt8.toNat = byt t from rfl, ← h, List.map_map] at h2
  rw [← h2, List.map_map]
  conv => lhs; rw [← List.map_id (Lib.splitB ⟨#[32]⟩ 0 k t)]
  apply List.map_congr_left
  intro x _
  exact (strN_byt x).symm
theorem count_bl : ∀ l : List UInt8, Lib.count l [32] + 1 = (bl (l.map UInt8.toNat)).length
  | [] => by rw [Lib.count_miss bix_nil]; rfl
  | b :: r => by
    have ih := count_bl r
    by_cases hb : b = 32
    · subst hb
      rw [Lib.count_cons_eq]
      simp only [List.map_cons]
      rw [bl, if_pos (by decide), List.length_cons, ← ih]; omega
    · have hb' : ¬ b.toNat = 32 := fun e => hb (UInt8.toNat_inj.1 (by simpa using e))
      rw [Lib.count_cons_ne b 32 r hb, ih]
      simp only [List.map_cons]
      rw [bl, if_neg hb']
      have := bl_ne (r.map UInt8.toNat)
      cases h : bl (r.map UInt8.toNat) with
      | nil => exact absurd h this
      | cons a b => simp
theorem splitB_bl (t : ByteArray) : Lib.splitB ⟨#[32]⟩ 0 (Lib.countB t ⟨#[32]⟩) t = (bl (byt t)).map strN := by
  have h : Lib.countB t ⟨#[32]⟩ + 1 = (bl (byt t)).length := count_bl t.data.toList
  rw [splitB_bln, bln_bl _ _ (by omega)]
theorem blsplit_at (t : ByteArray) (m : Int) (w : World) (B : Nat) (hB : B = w.heap.size) (hs : t.size < 4294967281) (hm : w.cell? ⟨0, 0, none⟩ = some (.int .i64 m)) :
    Calls Tryz.prog 89 #[.string t, .string ⟨#[32]⟩] w fun e w' => e = .returned (.slice (some ⟨B, 0, none⟩) (bl (byt t)).length (bl (byt t)).length) ∧ w' = w.alloc (.cells (strs (bl (byt t))).toArray 9) := by
  subst hB
  refine (Tryz.strings_Split t ⟨#[32]⟩ m w hs hm (by decide)).mono ?_
  rintro e w' ⟨rfl, rfl⟩
  have h : Lib.countB t ⟨#[32]⟩ + 1 = (bl (byt t)).length := count_bl t.data.toList
  rw [splitB_bl, h]
  refine ⟨rfl, ?_⟩
  rw [strs, List.map_map]; rfl

theorem pre_sch (t : ByteArray) : Lib.hasPrefix t.data.toList [104, 116, 116, 112, 58, 47, 47] = decide ((byt t).take 7 = sch) := by
  unfold Lib.hasPrefix
  by_cases h : [104, 116, 116, 112, 58, 47, 47] <+: t.data.toList
  · rw [List.isPrefixOf_iff_prefix.2 h]
    obtain ⟨r, hr⟩ := h
    have : (byt t).take 7 = sch := by unfold byt; rw [← hr]; rfl
    rw [decide_eq_true this]
  · have h2 : ([104, 116, 116, 112, 58, 47, 47] : List UInt8).isPrefixOf t.data.toList = false := by
      cases hh : ([104, 116, 116, 112, 58, 47, 47] : List UInt8).isPrefixOf t.data.toList with
      | false => rfl
      | true => exact absurd (List.isPrefixOf_iff_prefix.1 hh) h
    rw [h2]
    have : ¬ (byt t).take 7 = sch := fun e => h (by
      have e2 : t.data.toList.take 7 = [104, 116, 116, 112, 58, 47, 47] := by
        have : (t.data.toList.take 7).map UInt8.toNat = ([104, 116, 116, 112, 58, 47, 47] : List UInt8).map UInt8.toNat := by rw [List.map_take]; exact e
        exact (List.map_inj_right fun a b hab => UInt8.toNat_inj.1 hab).1 this
      exact ⟨t.data.toList.drop 7, by rw [← e2]; exact List.take_append_drop 7 _⟩)
    rw [decide_eq_false this]
theorem tP_yes (t : ByteArray) (h : (byt t).take 7 = sch) : (⟨(Lib.trimPrefix t.data.toList [104, 116, 116, 112, 58, 47, 47]).toArray⟩ : ByteArray) = strN ((byt t).drop 7) := by
  have hp := pre_sch t
  rw [decide_eq_true h] at hp
  unfold Lib.trimPrefix
  rw [hp, if_pos rfl]
  exact strN_drop t 7
set_option maxRecDepth 100000 in
set_option maxHeartbeats 4000000 in
theorem cutTarget_at (t : ByteArray) (w : World) (hm : t.size ≤ 8192) : Calls Tryz.prog 95 #[.string t] w fun e w' => ∃ A B, e = .returned (.tuple #[.string A, .string B, .bool (okT (byt t))]) ∧ (okT (byt t) = true → A = strN (cutT (byt t)).1 ∧ B = strN (cutT (byt t)).2) ∧ Below w.heap.size w w' := by
  have HC := hide (Tryz.strings_CutPrefix t ⟨#[104, 116, 116, 112, 58, 47, 47]⟩ w)
  rw [show (⟨#[104, 116, 116, 112, 58, 47, 47]⟩ : ByteArray).data.toList = [104, 116, 116, 112, 58, 47, 47] from rfl, pre_sch t] at HC
  have hlb := byt_lt t
  have hll := byt_length t
  by_cases h7 : (byt t).take 7 = sch
  · rw [decide_eq_true h7, tP_yes t h7] at HC
    obtain ⟨r, hr⟩ : ∃ r, r = (byt t).drop 7 := ⟨_, rfl⟩
    rw [← hr] at HC
    have hrb : ∀ c ∈ r, c < 256 := fun c hc => hlb c (by rw [hr] at hc; exact List.mem_of_mem_drop hc)
    have hrl : r.length ≤ 8192 := by rw [hr, List.length_drop]; omega
    have HIB : Hid (∀ W, Calls Tryz.prog 134 #[.string (strN r), .int .u8 47] W fun e w' => e = .returned (.int .i64 (match fst 47 r with | none => -1 | some k => (k : Int))) ∧ w' = W) := fun W => by
      have := Tryz.strings_IndexByte (strN r) 47 W
      rw [show ((47 : Int).toNat.toUInt8) = 47 from rfl, ib_fst 47, show (strN r).data.toList.map UInt8.toNat = byt (strN r) from rfl, byt_strN r hrb] at this
      exact this
    have HCT : Hid (cutT (byt t) = match fst 47 r with | none => (r, [47]) | some k => (r.take k, r.drop k)) := by
      show _ = _
      unfold cutT; rw [← hr]; rfl
    have HOK : Hid (okT (byt t) = path (cutT (byt t)).2) := by show _ = _; unfold okT; rw [decide_eq_true h7]; simp
    obtain ⟨R, hR⟩ : ∃ R, R = strN r := ⟨_, rfl⟩
    have hRs : (R.size : Int) = (r.length : Int) := by rw [hR, strN_size]
    have hRb : byt R = r := by rw [hR]; exact byt_strN r hrb
    rw [← hR] at HC HIB
    have HR := hide hR
    cases hf : fst 47 r with
    | none =>
      rw [hf] at HIB HCT
      simp only [] at HIB HCT
      have hok : okT (byt t) = true := by rw [HOK.out, HCT.out]; rfl
      rw [hok]
      clear hlb hll h7 hr hrb hrl hR hf hok hRb
      go_enter Tryz.func95, Tryz.ntmps95
      go_wp2_with fail
      refine HC.out.mono ?_
      rintro e w1 ⟨rfl, hw1⟩
      rw [hw1]
      go_wp2_with fail
      refine (HIB.out _).mono ?_
      rintro e w2 ⟨rfl, hw2⟩
      rw [hw2]
      clear hw1 hw2
      go_wp2_with fail
      go_returns
      exact ⟨_, _, rfl, fun _ => ⟨by rw [HCT.out, HR.out], by rw [HCT.out]; rfl⟩, Below.refl _ _⟩
    | some k =>
      obtain ⟨hk1, _, _⟩ := fst_lt hf
      rw [hf] at HIB HCT
      simp only [] at HIB HCT
      have HIP : Hid (∀ W, Calls Tryz.prog 135 #[.string (R.extract k R.size)] W fun e w' => e = .returned (.bool (path (r.drop k))) ∧ Below W.heap.size W w') := fun W => by
        have hb : byt (R.extract k R.size) = r.drop k := by rw [byt_drop, hRb]
        have := isPath_at (R.extract k R.size) W (by rw [← byt_length, hb, List.length_drop]; unfold maxLen; omega)
        rw [hb] at this
        exact this
      have HE1 : Hid (R.extract 0 k = strN (r.take k)) := by show _ = _; rw [← strN_byt (R.extract 0 k), byt_take, hRb]
      have HE2 : Hid (R.extract k R.size = strN (r.drop k)) := by show _ = _; rw [← strN_byt (R.extract k R.size), byt_drop, hRb]
      have HO2 : Hid (okT (byt t) = path (r.drop k)) := by show _ = _; rw [HOK.out, HCT.out]
      have hkI : (k : Int) ≤ (r.length : Int) := by omega
      have dk : decide ((k : Int) < 0) = false := decide_eq_false (by omega)
      clear hlb hll h7 hr hrb hR hf hRb
      go_enter Tryz.func95, Tryz.ntmps95
      go_wp2_with fail
      refine HC.out.mono ?_
      rintro e w1 ⟨rfl, hw1⟩
      rw [hw1]
      go_wp2_with fail
      refine (HIB.out _).mono ?_
      rintro e w2 ⟨rfl, hw2⟩
      rw [hw2]
      clear hw1 hw2
      go_wp2_with fail
      go_region_with (first | (go_at_call 135; refine (HIP.out _).mono ?_; rintro e w9 ⟨rfl, hb9⟩; have HB9 := hide hb9; clear hb9))
      all_goals (try go_wp2_with fail)
      all_goals go_ret3
      all_goals exact ⟨_, _, by rw [HO2.out]; rfl, fun _ => ⟨by rw [HCT.out, ← HE1.out], by rw [HCT.out, ← HE2.out]⟩, ⟨HB9.out.os, HB9.out.tape, HB9.out.output, HB9.out.size, HB9.out.block⟩⟩
  · rw [decide_eq_false h7] at HC
    have hok : okT (byt t) = false := by unfold okT; rw [decide_eq_false h7]; rfl
    rw [hok]
    clear hlb hll h7 hok
    go_enter Tryz.func95, Tryz.ntmps95
    go_wp2_with fail
    refine HC.out.mono ?_
    rintro e w1 ⟨rfl, hw1⟩
    rw [hw1]
    clear hw1
    go_wp2_with fail
    go_returns
    exact ⟨_, _, rfl, (fun h => by cases h), Below.refl _ _⟩

theorem dest_len (l : List Nat) : (dest l).1.1.1.length = 4 := by
  unfold dest
  split
  · rfl
  · split
    · rfl
    · rename_i c _
      have := host_len (l.take c)
      split
      · rename_i h _ hh
        rw [hh] at this
        split
        · exact this
        · rfl
      · rfl
theorem z6_eq : deC (noH, 0) = z6 := rfl
theorem info41' : (Tryz.prog.info? 31).map (·.size) = some 6 := by kernel_rfl
theorem goTo_bad {t : List Nat} (h : 58 ∉ t) (he : (host t).2 ≠ .ok) : (goTo t).2 = (host t).2 := by
  unfold goTo
  rw [if_neg h]
  cases hh : host t with
  | mk a b =>
    rw [hh] at he
    cases b with
    | ok => exact absurd rfl he
    | one a c => rfl
    | two a b c => rfl
theorem goTo_ok {t : List Nat} (h : 58 ∉ t) {x : Ho} (he : host t = (x, .ok)) : goTo t = ((x, 80), .ok) := by
  unfold goTo
  rw [if_neg h, he]
set_option maxRecDepth 100000 in
set_option maxHeartbeats 4000000 in
theorem readTo_at (t : ByteArray) (w : World) (hm : t.size ≤ 8192) (hV : Vars w) (hE : VarE w) : Calls Tryz.prog 96 #[.string t] w fun e w' => ∃ d v, e = .returned (.tuple #[.agg (deC d), v]) ∧ d.1.1.length = 4 ∧ IsEr w' (goTo (byt t)).2 v ∧ ((goTo (byt t)).2 = .ok → d = (goTo (byt t)).1) ∧ Below w.heap.size w w' := by
  have b0 : Below w.heap.size w (w.alloc (.cells z6 31)) := (Below.refl _ _).alloc (Nat.le_refl _) _
  have V0 := hide (hV.below b0)
  have E0 := hide (hE.below b0)
  obtain ⟨W0, hW0⟩ : ∃ W0, W0 = w.alloc (.cells z6 31) := ⟨_, rfl⟩
  rw [← hW0] at b0 V0 E0
  have HR0 : Hid (W0.heap[w.heap.size]? = some (.cells z6 31)) := by rw [hW0]; exact alloc_new _ _
  have HW0 : Hid (w.alloc (.cells #[.int .u8 0, .int .u8 0, .int .u8 0, .int .u8 0, .string ⟨#[]⟩, .int .i64 0] 31) = W0) := hW0.symm
  have B0 := hide b0
  have HC := hide (Tryz.strings_Contains_one t 58 W0)
  rw [mem_ib 58 t, show (58 : UInt8).toNat = 58 from rfl] at HC
  have HM := hide hm
  clear b0 hW0 hV hE hm
  by_cases h58 : 58 ∈ byt t
  · rw [decide_eq_true h58] at HC
    have HG : Hid (goTo (byt t) = dest (byt t)) := by show _ = _; unfold goTo; rw [if_pos h58]
    have HP := hide (parseDest_at t W0 (by have := HM.out; unfold maxLen; omega) V0.out E0.out)
    have HLN : Hid ((dest (byt t)).1.1.1.length = 4) := dest_len _
    obtain ⟨d, er, hd⟩ : ∃ d er, dest (byt t) = (d, er) := ⟨_, _, rfl⟩
    rw [hd] at HG HP HLN
    obtain ⟨⟨dA, dN⟩, dP⟩ := d
    obtain ⟨x0, x1, x2, x3, rfl⟩ := four HLN.out
    simp only [deC, nums, List.map_cons, List.map_nil, List.cons_append, List.nil_append] at HP
    obtain ⟨S, hS⟩ : ∃ S, S = strN dN := ⟨_, rfl⟩
    rw [← hS] at HP
    have HS := hide hS
    clear h58 hd hS
    go_enter Tryz.func96, Tryz.ntmps96
    go_wp2_with fail
    rw [HW0.out]
    refine HC.out.mono ?_
    rintro e w1 ⟨rfl, hw1⟩
    rw [hw1]
    clear hw1
    go_wp2_with fail
    refine HP.out.mono ?_
    rintro e w2 ⟨v, rfl, her, hb2⟩
    have r2 := keepB hb2 HR0.out
    have bb : Below w.heap.size w w2 := B0.out.trans (hb2.mono B0.out.size)
    obtain ⟨W3, hW3⟩ : ∃ W3, W3 = w2.setRow w.heap.size #[.int .u8 (x0 : Nat), .int .u8 (x1 : Nat), .int .u8 (x2 : Nat), .int .u8 (x3 : Nat), .string S, .int .i64 (dP : Nat)] := ⟨_, rfl⟩
    have F2 : Hid (W3.heap[w.heap.size]? = some (.cells #[.int .u8 (x0 : Nat), .int .u8 (x1 : Nat), .int .u8 (x2 : Nat), .int .u8 (x3 : Nat), .string S, .int .i64 (dP : Nat)] 31)) := by rw [hW3]; exact setRow_heap _ _ _ _ _ r2
    have F5 : Hid (Below w.heap.size w W3) := by rw [hW3]; exact below_setRow bb (Nat.le_refl _) _
    have F3 : Hid (IsEr W3 er v) := by
      rw [hW3]
      exact her.keep fun b C hb => setRow_ne _ _ _ _ fun e => by subst e; rw [r2] at hb; simp at hb
    have R2 := hide r2
    have HW3 := hide hW3
    clear her hb2 r2 bb hW3 HP HC
    go_wp2_with (first | (refine wpList_store_rowW rfl 31 _ _ rfl w.heap.size #[.int .u8 (x0 : Nat), .int .u8 (x1 : Nat), .int .u8 (x2 : Nat), .int .u8 (x3 : Nat), .string S, .int .i64 (dP : Nat)] rfl rfl 31 z6 R2.out info41 rfl (by simp [Value.oneCell']) W3 HW3.out ?_))
    refine bodyPost_ret (res_cell_tmp rfl _ _ w.heap.size 31 #[.int .u8 (x0 : Nat), .int .u8 (x1 : Nat), .int .u8 (x2 : Nat), .int .u8 (x3 : Nat), .string S, .int .i64 (dP : Nat)] (0, 0) _ rfl F2.out Tryz.underlying31 rfl info41) rfl ⟨(([x0, x1, x2, x3], dN), dP), v, ?_, rfl, ?_, ?_, F5.out⟩
    · rw [HS.out]; rfl
    · rw [HG.out]; exact F3.out
    · rw [HG.out]; exact fun _ => rfl
  · rw [decide_eq_false h58] at HC
    have HP := hide (parse_at t W0 (by have := HM.out; unfold maxLen; omega) V0.out)
    have HLN : Hid ((host (byt t)).1.1.length = 4) := host_len _
    obtain ⟨H, er, hh⟩ : ∃ d er, host (byt t) = (d, er) := ⟨_, _, rfl⟩
    have HG1 : Hid (er ≠ .ok → (goTo (byt t)).2 = er) := fun h => by have := goTo_bad h58 (by rw [hh]; exact h); rw [hh] at this; exact this
    have HG2 : Hid (er = .ok → goTo (byt t) = ((H, 80), .ok)) := fun h => goTo_ok h58 (by rw [hh, h])
    rw [hh] at HP HLN
    obtain ⟨dA, dN⟩ := H
    obtain ⟨x0, x1, x2, x3, rfl⟩ := four HLN.out
    simp only [hoC, nums, List.map_cons, List.map_nil, List.cons_append, List.nil_append] at HP
    obtain ⟨S, hS⟩ : ∃ S, S = strN dN := ⟨_, rfl⟩
    rw [← hS] at HP
    have HS := hide hS
    clear h58 hh hS
    go_enter Tryz.func96, Tryz.ntmps96
    go_wp2_with fail
    rw [HW0.out]
    refine HC.out.mono ?_
    rintro e w1 ⟨rfl, hw1⟩
    rw [hw1]
    clear hw1
    go_wp2_with fail
    refine HP.out.mono ?_
    rintro e w2 ⟨v, rfl, her, hb2⟩
    have r2 := keepB hb2 HR0.out
    have bb : Below w.heap.size w w2 := B0.out.trans (hb2.mono B0.out.size)
    obtain ⟨W2, hW2⟩ : ∃ W2, W2 = w2.alloc (.cells #[.int .u8 (x0 : Nat), .int .u8 (x1 : Nat), .int .u8 (x2 : Nat), .int .u8 (x3 : Nat), .string S] 29) := ⟨_, rfl⟩
    have b2' : Below w2.heap.size w2 W2 := by rw [hW2]; exact (Below.refl _ _).alloc (Nat.le_refl _) _
    have r3 := keepB b2' r2
    have b3 : Below w.heap.size w W2 := bb.trans (b2'.mono bb.size)
    have q3 : W2.heap[w2.heap.size]? = some (.cells #[.int .u8 (x0 : Nat), .int .u8 (x1 : Nat), .int .u8 (x2 : Nat), .int .u8 (x3 : Nat), .string S] 29) := by rw [hW2]; exact alloc_new _ _
    have c0 : W2.cell? ⟨w2.heap.size, 0, none⟩ = some (.int .u8 (x0 : Nat)) := by simp [World.cell?, q3]
    have c1 : W2.cell? ⟨w2.heap.size, 1, none⟩ = some (.int .u8 (x1 : Nat)) := by simp [World.cell?, q3]
    have c2 : W2.cell? ⟨w2.heap.size, 2, none⟩ = some (.int .u8 (x2 : Nat)) := by simp [World.cell?, q3]
    have c3 : W2.cell? ⟨w2.heap.size, 3, none⟩ = some (.int .u8 (x3 : Nat)) := by simp [World.cell?, q3]
    have c4 : W2.cell? ⟨w2.heap.size, 4, none⟩ = some (.string S) := by simp [World.cell?, q3]
    obtain ⟨W3, hW3⟩ : ∃ W3, W3 = W2.setRow w.heap.size #[.int .u8 (x0 : Nat), .int .u8 (x1 : Nat), .int .u8 (x2 : Nat), .int .u8 (x3 : Nat), .string S, .int .i64 80] := ⟨_, rfl⟩
    have F2 : Hid (W3.heap[w.heap.size]? = some (.cells #[.int .u8 (x0 : Nat), .int .u8 (x1 : Nat), .int .u8 (x2 : Nat), .int .u8 (x3 : Nat), .string S, .int .i64 80] 31)) := by rw [hW3]; exact setRow_heap _ _ _ _ _ r3
    have F5 : Hid (Below w.heap.size w W3) := by rw [hW3]; exact below_setRow b3 (Nat.le_refl _) _
    have F3 : Hid (IsEr W3 er v) := by
      rw [hW3]
      exact (her.below b2').keep fun b C hb => setRow_ne _ _ _ _ fun e => by subst e; rw [r3] at hb; simp at hb
    have R3 := hide r3
    have HW3 := hide hW3
    have HW2 : Hid (w2.alloc (.cells #[.int .u8 (x0 : Nat), .int .u8 (x1 : Nat), .int .u8 (x2 : Nat), .int .u8 (x3 : Nat), .string S] 29) = W2) := hW2.symm
    clear her hb2 r2 bb hW2 b2' b3 r3 q3 hW3 HP HC
    go_wp2_with (first | (rw [HW2.out]) | (refine wpList_store_rowW rfl 31 _ _ rfl w.heap.size #[.int .u8 (x0 : Nat), .int .u8 (x1 : Nat), .int .u8 (x2 : Nat), .int .u8 (x3 : Nat), .string S, .int .i64 80] rfl rfl 31 z6 R3.out info41 rfl (by simp [Value.oneCell']) W3 HW3.out ?_))
    try (rw [HW2.out]; go_wp2_with (first | (refine wpList_store_rowW rfl 31 _ _ rfl w.heap.size #[.int .u8 (x0 : Nat), .int .u8 (x1 : Nat), .int .u8 (x2 : Nat), .int .u8 (x3 : Nat), .string S, .int .i64 80] rfl rfl 31 z6 R3.out info41 rfl (by simp [Value.oneCell']) W3 HW3.out ?_)))
    refine bodyPost_ret (res_cell_tmp rfl _ _ w.heap.size 31 #[.int .u8 (x0 : Nat), .int .u8 (x1 : Nat), .int .u8 (x2 : Nat), .int .u8 (x3 : Nat), .string S, .int .i64 80] (0, 0) _ rfl F2.out Tryz.underlying31 rfl info41) rfl ⟨(([x0, x1, x2, x3], dN), 80), v, ?_, rfl, ?_, ?_, F5.out⟩
    · rw [HS.out]; rfl
    · by_cases he : er = .ok
      · rw [HG2.out he, ← he]; exact F3.out
      · rw [HG1.out he]; exact F3.out
    · intro hk
      by_cases he : er = .ok
      · rw [HG2.out he]
      · rw [HG1.out he] at hk; exact absurd hk he
end Go.Proofs.YtccoddmdlbdfjaaGreatDoor
