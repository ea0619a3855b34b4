/-
  readReplyLine of package head; conditions as each theorem has them.
-/
import Derived.Test.YtccoddmdlbdfjaaGreatDoorHI
import Derived.Test.YtccoddmdlbdfjaaGreatDoorHG
set_option linter.unusedSimpArgs false
set_option linter.unusedVariables false
namespace Go.Proofs.YtccoddmdlbdfjaaGreatDoor
open Go.RowKit

/-- A reply as cells. -/
def ryC (q : Nat × List Nat) (sl : Value) : Array Value := #[.int .i64 (q.1 : Nat), .string (strN q.2), sl]
def z3 : Array Value := #[.int .i64 0, .string ⟨#[]⟩, .slice none 0 0]
theorem z3_one : z3.all (·.oneCell') = true := by simp [z3, Value.oneCell']
theorem info51 : (Tryz.prog.info? 73).map (·.size) = some 3 := by kernel_rfl
theorem fin3 {w wN : World} {cs : Array Value} (h1 : wN.heap[w.heap.size]? = some (.cells z3 73)) (h2 : Below w.heap.size w wN) {er : Hr} {v : Value} (h3 : IsH wN er v) : ∃ W2, W2 = wN.setRow w.heap.size cs ∧ W2.heap[w.heap.size]? = some (.cells cs 73) ∧ Below w.heap.size w W2 ∧ IsH W2 er v :=
  ⟨_, rfl, setRow_heap _ _ _ _ _ h1, below_setRow h2 (Nat.le_refl _) _, h3.keep fun b C hb => setRow_ne _ _ _ _ fun e => by subst e; rw [h1] at hb; simp at hb⟩
theorem bln_le (k : Nat) (l : List Nat) (h : l.length + 1 ≤ k) : bln (k + 1) l = bl l := bln_bl l k (by have := bl_len l; omega)
theorem bln_min (l : List Nat) (n : Nat) (h : 1 ≤ n) : bln (min n (l.length + 1) - 1 + 1) l = bln n l := by
  by_cases hh : n ≤ l.length + 1
  · rw [Nat.min_eq_left hh, show n - 1 + 1 = n by omega]
  · rw [Nat.min_eq_right (by omega)]
    have := bl_len l
    rw [show l.length + 1 - 1 + 1 = l.length + 1 by omega, show l.length + 1 = l.length + 1 from rfl, bln_bl l l.length this]
    rw [show n = (n - 1) + 1 by omega, bln_bl l (n - 1) (by omega)]
theorem bln_mem : ∀ (k : Nat) (l : List Nat) (p : List Nat), p ∈ bln k l → (∀ x ∈ p, x ∈ l) ∧ p.length ≤ l.length
  | 0, l, p, h => by simp [bln] at h
  | 1, l, p, h => by rw [bln_one] at h; simp at h; subst h; exact ⟨fun x hx => hx, Nat.le_refl _⟩
  | k + 2, [], p, h => by simp [bln] at h; subst h; simp
  | k + 2, c :: r, p, h => by
    have hne := bln_ne (k + 1) r
    unfold bln at h
    split at h
    · simp at h
      rcases h with rfl | h
      · simp
      · have := bln_mem (k + 1) r p h
        exact ⟨fun x hx => by simp [this.1 x hx], by simp; omega⟩
    · have ih := bln_mem (k + 2) r
      cases hb : bln (k + 2) r with
      | nil => exact absurd hb hne
      | cons q qs =>
        rw [hb] at h ih
        simp at h
        rcases h with rfl | h
        · have := ih q (by simp)
          refine ⟨fun x hx => ?_, by simp; omega⟩
          simp at hx
          rcases hx with rfl | hx
          · simp
          · simp [this.1 x hx]
        · have := ih p (by simp [h])
          exact ⟨fun x hx => by simp [this.1 x hx], by simp; omega⟩
theorem blsplitN_at (t : ByteArray) (m : Int) (w : World) (B : Nat) (hB : B = w.heap.size) (hs : t.size < 4294967281) (hm : w.cell? ⟨0, 0, none⟩ = some (.int .i64 m)) :
    Calls Tryz.prog 100 #[.string t, .string ⟨#[32]⟩, .int .i64 3] w fun e w' => ∃ cap, e = .returned (.slice (some ⟨B, 0, none⟩) (bln 3 (byt t)).length cap) ∧ (bln 3 (byt t)).length ≤ cap ∧ cap ≤ 3 ∧ (∀ i, i < (bln 3 (byt t)).length → w'.cell? ⟨B, i, none⟩ = some (.string (strN ((bln 3 (byt t)).getD i [])))) ∧ Below w.heap.size w w' := by
  subst hB
  refine (Tryz.strings_SplitN t ⟨#[32]⟩ 3 m w hs hm (by decide) (by omega) (by omega)).mono ?_
  rintro e w' ⟨rfl, rfl⟩
  have e1 : Lib.splitB ⟨#[32]⟩ 0 (min 3 (t.size + 1) - 1) t = (bln 3 (byt t)).map strN := by
    rw [splitB_bln]
    have := bln_min (byt t) 3 (by omega)
    rw [byt_length] at this
    rw [this]
  rw [e1]
  have hl : (bln 3 (byt t)).length ≤ min 3 (t.size + 1) := by
    have h1 := bl_len (byt t)
    rw [byt_length] at h1
    by_cases h3 : 3 ≤ (bl (byt t)).length
    · rw [bln_len (byt t) 2 h3]; omega
    · rw [bln_bl (byt t) 2 (by omega)]; omega
  refine ⟨_, by rw [List.length_map], hl, by omega, fun i hi => ?_, (Below.refl _ _).alloc (Nat.le_refl _) _⟩
  simp only [World.cell?, alloc_new]
  show (Lib.cellsOf (List.map strN (bln 3 (byt t))) (min 3 (t.size + 1)))[i]? = _
  unfold Lib.cellsOf
  rw [List.getElem?_toArray, List.getElem?_append_left (by simpa using hi)]
  simp [List.getElem?_map, List.getElem?_eq_getElem hi, List.getD]
theorem yline_not {x : List Nat} (h : (bln 3 x).length ≠ 3) : yline x = ((0, []), .one 0 80) := by
  unfold yline
  split
  · rename_i hb; rw [hb] at h; simp at h
  · rfl
theorem yline_three {x v c r : List Nat} (h : bln 3 x = [v, c, r]) : yline x = if ver v = false ∨ reason r = false then ((0, []), .one 0 80) else match stat c with
    | none => ((0, []), .one 0 80)
    | some n => ((n, r), .ok) := by
  unfold yline; rw [h]; rfl
set_option maxRecDepth 100000 in
set_option maxHeartbeats 4000000 in
theorem yline_at (t : ByteArray) (w : World) (hm : t.size ≤ 8192) (hV : Vars w) : Calls Tryz.prog 58 #[.string t] w fun e w' => ∃ v, e = .returned (.tuple #[.agg (ryC (yline (byt t)).1 (.slice none 0 0)), v]) ∧ IsH w' (yline (byt t)).2 v ∧ Below w.heap.size w w' := by
  have hlb := byt_lt t
  have hll := byt_length t
  have b0 : Below w.heap.size w (w.alloc (.cells z3 73)) := (Below.refl _ _).alloc (Nat.le_refl _) _
  obtain ⟨mm, hmv⟩ := hV.below b0
  obtain ⟨W0, hW0⟩ : ∃ W0, W0 = w.alloc (.cells z3 73) := ⟨_, rfl⟩
  rw [← hW0] at b0 hmv
  have R0 : Hid (W0.heap[w.heap.size]? = some (.cells z3 73)) := by rw [hW0]; exact alloc_new _ _
  have HW0 : Hid (w.alloc (.cells #[.int .i64 0, .string ⟨#[]⟩, .slice none 0 0] 73) = W0) := hW0.symm
  obtain ⟨B, hB⟩ : ∃ B, B = W0.heap.size := ⟨_, rfl⟩
  have HSP := hide (blsplitN_at t mm W0 B hB (by omega) hmv)
  have B0 := hide b0
  obtain ⟨l, hl⟩ : ∃ l, l = byt t := ⟨_, rfl⟩
  rw [← hl] at HSP hlb hll ⊢
  obtain ⟨ps, hps⟩ : ∃ ps, ps = bln 3 l := ⟨_, rfl⟩
  rw [← hps] at HSP
  clear b0 hmv hW0 hV hB
  by_cases h3 : ps.length = 3
  · obtain ⟨v, c, r, rfl⟩ : ∃ m g v, ps = [m, g, v] := by
      match ps, h3 with
      | [a, b, c], _ => exact ⟨a, b, c, rfl⟩
    have hbm := fun p hp => bln_mem 3 l p (by rw [← hps]; exact hp)
    have hvb : ∀ x ∈ v, x < 256 := fun x hx => hlb x ((hbm v (by simp)).1 x hx)
    have hcb : ∀ x ∈ c, x < 256 := fun x hx => hlb x ((hbm c (by simp)).1 x hx)
    have hrb : ∀ x ∈ r, x < 256 := fun x hx => hlb x ((hbm r (by simp)).1 x hx)
    have hcl : c.length ≤ 8192 := by have := (hbm c (by simp)).2; omega
    have HRL := hide (yline_three hps.symm)
    have HVE : Hid (∀ W, Calls Tryz.prog 90 #[.string (strN v)] W fun e w' => e = .returned (.bool (ver v)) ∧ W = w') := fun W => by
      have := isVersion_at (strN v) W
      rw [byt_strN v hvb] at this; exact this
    have HRS : Hid (∀ W, Calls Tryz.prog 77 #[.string (strN r)] W fun e w' => e = .returned (.bool (reason r)) ∧ Below W.heap.size W w') := fun W => by
      have := isReason_at (strN r) W
      rw [byt_strN r hrb] at this; exact this
    have HST : Hid (∀ W, Calls Tryz.prog 101 #[.string (strN c)] W fun e w' => ∃ n : Nat, e = .returned (.tuple #[.int .i64 (n : Int), .bool (stat c).isSome]) ∧ (∀ m, stat c = some m → n = m) ∧ Below W.heap.size W w') := fun W => by
      have := readStatus_at (strN c) W (by rw [strN_size]; omega)
      rw [byt_strN c hcb] at this; exact this
    obtain ⟨Vt, hVt⟩ : ∃ M, M = strN v := ⟨_, rfl⟩
    obtain ⟨Ct, hCt⟩ : ∃ M, M = strN c := ⟨_, rfl⟩
    obtain ⟨Rt, hRt⟩ : ∃ M, M = strN r := ⟨_, rfl⟩
    rw [← hVt] at HVE
    rw [← hCt] at HST
    rw [← hRt] at HRS
    have HCS : Hid (strN v = Vt ∧ strN c = Ct ∧ strN r = Rt) := ⟨hVt.symm, hCt.symm, hRt.symm⟩
    clear hlb hll hps h3 hbm hvb hcb hrb hcl hl hm hVt hCt hRt
    go_enter Tryz.func58, Tryz.ntmps58
    go_wp2_with fail
    rw [HW0.out]
    refine HSP.out.mono ?_
    rintro e w1 ⟨cap, rfl, hc1, hc2, hcel, hb1⟩
    have p0 : w1.cell? ⟨B, 0, none⟩ = some (.string Vt) := by rw [← HCS.out.1]; exact hcel 0 (by simp)
    have p1 : w1.cell? ⟨B, 1, none⟩ = some (.string Ct) := by rw [← HCS.out.2.1]; exact hcel 1 (by simp)
    have p2 : w1.cell? ⟨B, 2, none⟩ = some (.string Rt) := by rw [← HCS.out.2.2]; exact hcel 2 (by simp)
    have R1 := hide (keepB hb1 R0.out)
    have B1 := hide (B0.out.trans (hb1.mono B0.out.size))
    simp only [List.length_cons, List.length_nil, Nat.zero_add, Nat.reduceAdd] at hc1
    clear hcel hb1 R0 B0 HSP
    go_wp2_with fail
    refine (HVE.out _).mono ?_
    rintro e w2 ⟨rfl, hw2⟩
    rw [← hw2]
    clear hw2
    cases hve : ver v with
    | false =>
      have HR : Hid (yline l = ((0, []), .one 0 80)) := by show _ = _; rw [HRL.out, if_pos (Or.inl hve)]
      clear hve
      go_wp2_with fail
      refine (refuseH_er 0 80 w1).mono ?_
      rintro e wE ⟨vE, rfl, hE1, hE2⟩
      obtain ⟨W9, hW9, f2, f5, f3⟩ := fin3 (cs := z3) (keepB hE2 R1.out) (B1.out.trans (hE2.mono B1.out.size)) hE1
      have R9 := hide (keepB hE2 R1.out)
      have F2 := hide f2
      have F3 := hide f3
      have F5 := hide f5
      have HW9 := hide hW9
      clear hE1 hE2 hW9 f2 f5 f3
      go_wp2_with (first | (refine wpList_store_rowW rfl 73 _ _ rfl w.heap.size z3 rfl rfl 73 z3 R9.out info51 rfl z3_one W9 HW9.out ?_))
      refine bodyPost_ret (res_cell_tmp rfl _ _ w.heap.size 73 z3 (0, 0) _ rfl F2.out Tryz.underlying73 rfl info51) rfl ⟨vE, (by rw [HR.out]; rfl), (by rw [HR.out]; exact F3.out), F5.out⟩
    | true =>
      go_wp2_with fail
      refine (HRS.out _).mono ?_
      rintro e w2 ⟨rfl, hb2⟩
      have R2 := hide (keepB hb2 R1.out)
      have B2 := hide (B1.out.trans (hb2.mono B1.out.size))
      have q1 : w2.cell? ⟨B, 1, none⟩ = some (.string Ct) := (hb2.cell (lt_of_cell p1)).trans p1
      have q2 : w2.cell? ⟨B, 2, none⟩ = some (.string Rt) := (hb2.cell (lt_of_cell p2)).trans p2
      clear hb2 R1 B1 p0 p1 p2
      cases hrs : reason r with
      | false =>
        have HR : Hid (yline l = ((0, []), .one 0 80)) := by show _ = _; rw [HRL.out, if_pos (Or.inr hrs)]
        clear hve hrs
        go_wp2_with fail
        refine (refuseH_er 0 80 w2).mono ?_
        rintro e wE ⟨vE, rfl, hE1, hE2⟩
        obtain ⟨W9, hW9, f2, f5, f3⟩ := fin3 (cs := z3) (keepB hE2 R2.out) (B2.out.trans (hE2.mono B2.out.size)) hE1
        have R9 := hide (keepB hE2 R2.out)
        have F2 := hide f2
        have F3 := hide f3
        have F5 := hide f5
        have HW9 := hide hW9
        clear hE1 hE2 hW9 f2 f5 f3
        go_wp2_with (first | (refine wpList_store_rowW rfl 73 _ _ rfl w.heap.size z3 rfl rfl 73 z3 R9.out info51 rfl z3_one W9 HW9.out ?_))
        refine bodyPost_ret (res_cell_tmp rfl _ _ w.heap.size 73 z3 (0, 0) _ rfl F2.out Tryz.underlying73 rfl info51) rfl ⟨vE, (by rw [HR.out]; rfl), (by rw [HR.out]; exact F3.out), F5.out⟩
      | true =>
        have HRL2 : Hid (yline l = match stat c with
          | none => ((0, []), .one 0 80)
          | some n => ((n, r), .ok)) := by show _ = _; rw [HRL.out, if_neg (by simp [hve, hrs])]
        clear hve hrs HRL
        go_wp2_with fail
        refine (HST.out _).mono ?_
        rintro e w3 ⟨n, rfl, hn, hb3⟩
        have R3 := hide (keepB hb3 R2.out)
        have B3 := hide (B2.out.trans (hb3.mono B2.out.size))
        have g2 : w3.cell? ⟨B, 2, none⟩ = some (.string Rt) := (hb3.cell (lt_of_cell q2)).trans q2
        clear hb3 R2 B2 q1 q2
        cases hst : stat c with
        | none =>
          have HR : Hid (yline l = ((0, []), .one 0 80)) := by show _ = _; rw [HRL2.out, hst]
          clear hst hn
          simp only [Option.isSome_none]
          go_wp2_with fail
          refine (refuseH_er 0 80 w3).mono ?_
          rintro e wE ⟨vE, rfl, hE1, hE2⟩
          obtain ⟨W9, hW9, f2, f5, f3⟩ := fin3 (cs := z3) (keepB hE2 R3.out) (B3.out.trans (hE2.mono B3.out.size)) hE1
          have R9 := hide (keepB hE2 R3.out)
          have F2 := hide f2
          have F3 := hide f3
          have F5 := hide f5
          have HW9 := hide hW9
          clear hE1 hE2 hW9 f2 f5 f3
          go_wp2_with (first | (refine wpList_store_rowW rfl 73 _ _ rfl w.heap.size z3 rfl rfl 73 z3 R9.out info51 rfl z3_one W9 HW9.out ?_))
          refine bodyPost_ret (res_cell_tmp rfl _ _ w.heap.size 73 z3 (0, 0) _ rfl F2.out Tryz.underlying73 rfl info51) rfl ⟨vE, (by rw [HR.out]; rfl), (by rw [HR.out]; exact F3.out), F5.out⟩
        | some k =>
          have HR : Hid (yline l = ((n, r), .ok)) := by show _ = _; rw [HRL2.out, hst, hn k hst]
          clear hst hn
          simp only [Option.isSome_some]
          obtain ⟨W9, hW9, f2, f5, f3⟩ := fin3 (w := w) (wN := w3) (cs := #[.int .i64 (n : Nat), .string Rt, .slice none 0 0]) R3.out B3.out (er := .ok) (v := .nilIface) rfl
          have F2 := hide f2
          have F5 := hide f5
          have HW9 := hide hW9
          clear hW9 f2 f5 f3
          go_wp2_with (first | (refine wpList_store_rowW rfl 73 _ _ rfl w.heap.size #[.int .i64 (n : Nat), .string Rt, .slice none 0 0] rfl rfl 73 z3 R3.out info51 rfl (by simp [Value.oneCell']) W9 HW9.out ?_))
          refine bodyPost_ret (res_cell_tmp rfl _ _ w.heap.size 73 #[.int .i64 (n : Nat), .string Rt, .slice none 0 0] (0, 0) _ rfl F2.out Tryz.underlying73 rfl info51) rfl ⟨.nilIface, (by rw [HR.out, ← HCS.out.2.2]; rfl), (by rw [HR.out]; rfl), F5.out⟩
  · have HR : Hid (yline l = ((0, []), .one 0 80)) := yline_not (by rw [← hps]; exact h3)
    have h3I : ((ps.length : Int) == 3) = false := by simp; omega
    have h3J : ((ps.length : Int) != 3) = true := by simp; omega
    obtain ⟨n, hn⟩ : ∃ n, n = ps.length := ⟨_, rfl⟩
    rw [← hn] at HSP h3I h3J
    clear hlb hll h3 hl hm hn hps
    go_enter Tryz.func58, Tryz.ntmps58
    go_wp2_with fail
    rw [HW0.out]
    refine HSP.out.mono ?_
    rintro e w1 ⟨cap, rfl, hc1, hc2, hcel, hb1⟩
    have R1 := hide (keepB hb1 R0.out)
    have B1 := hide (B0.out.trans (hb1.mono B0.out.size))
    clear hcel hb1 R0 B0 HSP
    go_wp2_with fail
    refine (refuseH_er 0 80 w1).mono ?_
    rintro e wE ⟨vE, rfl, hE1, hE2⟩
    obtain ⟨W9, hW9, f2, f5, f3⟩ := fin3 (cs := z3) (keepB hE2 R1.out) (B1.out.trans (hE2.mono B1.out.size)) hE1
    have R9 := hide (keepB hE2 R1.out)
    have F2 := hide f2
    have F3 := hide f3
    have F5 := hide f5
    have HW9 := hide hW9
    clear hE1 hE2 hW9 f2 f5 f3
    go_wp2_with (first | (refine wpList_store_rowW rfl 73 _ _ rfl w.heap.size z3 rfl rfl 73 z3 R9.out info51 rfl z3_one W9 HW9.out ?_))
    refine bodyPost_ret (res_cell_tmp rfl _ _ w.heap.size 73 z3 (0, 0) _ rfl F2.out Tryz.underlying73 rfl info51) rfl ⟨vE, (by rw [HR.out]; rfl), (by rw [HR.out]; exact F3.out), F5.out⟩
end Go.Proofs.YtccoddmdlbdfjaaGreatDoor
