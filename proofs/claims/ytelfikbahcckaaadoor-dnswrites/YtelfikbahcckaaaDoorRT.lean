/-
  PutQuestion and PutAnswer of the reference; conditions as each theorem has them.
-/
import Derived.Test.YtelfikbahcckaaaDoorRQ
set_option linter.unusedSimpArgs false
set_option linter.unusedVariables false
namespace Go.Proofs.YtelfikbahcckaaaDoor
open Go.RowKit
set_option maxRecDepth 100000 in
set_option maxHeartbeats 2000000 in
theorem rputQuestion_at (id : Int) (t : ByteArray) (w : World) (ht : t.size ≤ maxLen) :
    Calls Tryd.prog 14 #[.agg #[.int .i64 id, .string t]] w (Wrote (putQr id (byt t)) w) := by
  have b1 : Below w.heap.size w (w.alloc (.cells #[.int .i64 id, .string t] 40)) := (Below.refl _ _).alloc (Nat.le_refl _) _
  have HQ := hide (rquery_at id t (w.alloc (.cells #[.int .i64 id, .string t] 40)) ht)
  have r1 : Row (w.alloc (.cells #[.int .i64 id, .string t] 40)) w.heap.size 40 [.int .i64 id, .string t] := Row.new w #[.int .i64 id, .string t] 40
  have R1 := hide r1
  have B1 := hide b1
  obtain ⟨R, hR⟩ : ∃ R, R = putQr id (byt t) := ⟨_, rfl⟩
  rw [← hR]
  by_cases hq : qry id (byt t) = true
  · rw [hq] at HQ
    obtain ⟨q1, q2, q3, q4⟩ := qry_ok hq
    rw [byt_length] at q4
    obtain ⟨I, rfl⟩ : ∃ I : Nat, id = (I : Int) := ⟨id.toNat, by omega⟩
    have HR : Hid (R = (putQ I 256 0 (byt t), 0)) := by show _ = _; rw [hR, putQr, if_pos hq]; rfl
    clear b1 r1 hR hq
    go_enter Tryd.func14, Tryd.ntmps14
    go_wp2_with fail
    refine HQ.out.mono ?_
    rintro e w1 ⟨rfl, b2⟩
    have r2 := R1.out.below b2 (by simp)
    have c0 : w1.cell? ⟨w.heap.size, 0, none⟩ = some (.int .i64 (I : Nat)) := r2.cell 0
    have c1 : w1.cell? ⟨w.heap.size, 1, none⟩ = some (.string t) := r2.cell 1
    have hg := r2.lt
    have B2 := hide (B1.out.trans (b2.mono (by simp)))
    have HP := hide (rput_at I 256 0 t w1 (by omega) (by omega) (by omega) (by omega))
    rw [show ((256 : Nat) : Int) = 256 from rfl, show ((0 : Nat) : Int) = 0 from rfl] at HP
    clear b2 r2 HQ
    go_wp2_with fail
    refine HP.out.mono ?_
    rintro e w2 ⟨v, rfl, o3, b3⟩
    have HW := hide (wrote_own o3 (putQ_lt I 256 0 (byt t) (by rw [byt_length]; omega) (byt_lt t)) (B2.out.trans (b3.mono B2.out.size)) 0)
    rw [← HR.out] at HW
    clear b3 o3
    go_wp2_with fail
    go_ret2
    exact HW.out
  · have HR : Hid (R = ([], 2)) := qry_fls hR hq
    have hqf : qry id (byt t) = false := by simpa using hq
    rw [hqf] at HQ
    clear b1 r1 hR hq hqf
    go_enter Tryd.func14, Tryd.ntmps14
    go_wp2_with fail
    refine HQ.out.mono ?_
    rintro e w1 ⟨rfl, b2⟩
    have HW := hide (wrote_nil (B1.out.trans (b2.mono (by simp))) 2)
    rw [← HR.out] at HW
    clear b2
    go_wp2_with fail
    go_ret2
    exact HW.out
theorem isAn_parts (id : Int) (n : List Nat) (cd : Int) (k : Nat) (tl : Int) : isAn id n cd k tl = true ↔ (qry id n = true ∧ 0 ≤ cd ∧ cd ≤ 15 ∧ 0 ≤ tl ∧ tl ≤ 1048576 ∧ k ≤ 16 ∧ (cd = 0 ∨ k = 0) ∧ (tl = 0 ∨ k ≠ 0)) := by
  unfold isAn
  simp only [Bool.and_eq_true, Bool.or_eq_true, decide_eq_true_eq]
  constructor
  · rintro ⟨⟨⟨⟨⟨⟨⟨h1, h2⟩, h3⟩, h4⟩, h5⟩, h6⟩, h7⟩, h8⟩; exact ⟨h1, h2, h3, h4, h5, h6, h7, h8⟩
  · rintro ⟨h1, h2, h3, h4, h5, h6, h7, h8⟩; exact ⟨⟨⟨⟨⟨⟨⟨h1, h2⟩, h3⟩, h4⟩, h5⟩, h6⟩, h7⟩, h8⟩
theorem adr_cells (L d0 d1 d2 d3 : Nat) (hL : L ≤ 1048576) : (nums .u8 (adr L (d0, d1, d2, d3))).toArray = #[.int .u8 192, .int .u8 12, .int .u8 0, .int .u8 1, .int .u8 0, .int .u8 1, .int .u8 ((L : Int) / 16777216), .int .u8 ((L : Int) / 65536), .int .u8 ((L : Int) / 256 % 256), .int .u8 ((L : Int) % 256), .int .u8 0, .int .u8 4, .int .u8 (d0 : Nat), .int .u8 (d1 : Nat), .int .u8 (d2 : Nat), .int .u8 (d3 : Nat)] := by
  have h1 : ((L / 65536 / 256 % 256 : Nat) : Int) = (L : Int) / 16777216 := by omega
  have h2 : ((L / 65536 % 256 : Nat) : Int) = (L : Int) / 65536 := by omega
  have h3 : ((L / 256 % 256 : Nat) : Int) = (L : Int) / 256 % 256 := by omega
  have h4 : ((L % 256 : Nat) : Int) = (L : Int) % 256 := by omega
  show #[Value.int .u8 ((49164 / 256 % 256 : Nat) : Int), .int .u8 ((49164 % 256 : Nat) : Int), .int .u8 ((1 / 256 % 256 : Nat) : Int), .int .u8 ((1 % 256 : Nat) : Int), .int .u8 ((1 / 256 % 256 : Nat) : Int), .int .u8 ((1 % 256 : Nat) : Int), .int .u8 ((L / 65536 / 256 % 256 : Nat) : Int), .int .u8 ((L / 65536 % 256 : Nat) : Int), .int .u8 ((L / 256 % 256 : Nat) : Int), .int .u8 ((L % 256 : Nat) : Int), .int .u8 ((4 / 256 % 256 : Nat) : Int), .int .u8 ((4 % 256 : Nat) : Int), .int .u8 (d0 : Nat), .int .u8 (d1 : Nat), .int .u8 (d2 : Nat), .int .u8 (d3 : Nat)] = _
  rw [h1, h2, h3, h4]
  rfl
set_option maxRecDepth 100000 in
set_option maxHeartbeats 16000000 in
theorem rputAnswer_at (id : Int) (t : ByteArray) (cd : Int) (a : Option Addr) (n c : Nat) (l : List Ad) (tl : Int) (w : World) (ht : t.size ≤ maxLen) (hn : n ≤ 140737488351232) (h : SrcA w a n c l) :
    Calls Tryd.prog 16 #[.agg #[.int .i64 id, .string t, .int .i64 cd, .slice a n c, .int .i64 tl]] w (Wrote (putAr id (byt t) cd l tl) w) := by
  obtain ⟨W1, hW1⟩ : ∃ W1, W1 = w.alloc (.cells #[.int .i64 id, .string t, .int .i64 cd, .slice a n c, .int .i64 tl] 43) := ⟨_, rfl⟩
  have b1 : Below w.heap.size w W1 := by rw [hW1]; exact (Below.refl _ _).alloc (Nat.le_refl _) _
  have HC := hide (rquery_at id t W1 ht)
  have T1 : Hid (Row W1 w.heap.size 43 [.int .i64 id, .string t, .int .i64 cd, .slice a n c, .int .i64 tl]) := by rw [hW1]; exact Row.new w _ 43
  have hs1 : W1.heap.size = w.heap.size + 1 := by rw [hW1]; simp
  have B1 := hide b1
  have S1 := hide (h.below b1)
  obtain ⟨R, hR⟩ : ∃ R, R = putAr id (byt t) cd l tl := ⟨_, rfl⟩
  rw [← hR]
  have hln := h.hlen
  have HW1 := hide hW1.symm
  clear b1 h hW1
  have HBAD : Hid (¬ isAn id (byt t) cd n tl = true → R = ([], 2)) := fun hq => by rw [hR, putAr, if_neg (by rw [hln]; exact hq)]
  by_cases hq : qry id (byt t) = true
  · rw [hq] at HC
    obtain ⟨p1, p2, p3, p4⟩ := qry_ok hq
    rw [byt_length] at p4
    obtain ⟨I, rfl⟩ : ∃ I : Nat, id = (I : Int) := ⟨id.toNat, by omega⟩
    have HR := hide hR
    have HQ := hide hq
    clear hR hq p3
    go_enter Tryd.func16, Tryd.ntmps16
    go_wp2_with fail
    rw [HW1.out]
    refine HC.out.mono ?_
    rintro e w2 ⟨rfl, b2⟩
    have r2 := T1.out.below b2 (by omega)
    have c0 : w2.cell? ⟨w.heap.size, 0, none⟩ = some (.int .i64 (I : Nat)) := r2.cell 0
    have c1 : w2.cell? ⟨w.heap.size, 1, none⟩ = some (.string t) := r2.cell 1
    have c2 : w2.cell? ⟨w.heap.size, 2, none⟩ = some (.int .i64 cd) := r2.cell 2
    have c3 : w2.cell? ⟨w.heap.size, 3, none⟩ = some (.slice a n c) := r2.cell 3
    have c4 : w2.cell? ⟨w.heap.size, 4, none⟩ = some (.int .i64 tl) := r2.cell 4
    have hg := r2.lt
    have B2 := hide (B1.out.trans (b2.mono (by omega)))
    have S2 := hide (S1.out.below b2)
    have T2 := hide r2
    clear b2 r2 HC
    by_cases hA : isAn (I : Int) (byt t) cd n tl = true
    · obtain ⟨_, q1, q2, q3, q4, q5, q6, q7⟩ := isAn_ok hA
      obtain ⟨C, rfl⟩ : ∃ C : Nat, cd = (C : Int) := ⟨cd.toNat, by omega⟩
      obtain ⟨L, rfl⟩ : ∃ L : Nat, tl = (L : Int) := ⟨tl.toNat, by omega⟩
      have HFL : Hid ((33152 + C : Nat) = 33152 + C) := rfl
      have HP := hide (rput_at I (33152 + C) n t w2 (by omega) (by omega) (by omega) (by omega))
      rw [show ((33152 + C : Nat) : Int) = 33152 + (C : Int) from by omega] at HP
      have HRR : Hid (R = if 512 < 18 + t.size + 16 * n then ([], 3) else (putA I C L (byt t) l, 0)) := by
        show _ = _
        rw [HR.out, putAr, if_pos (by rw [hln]; exact hA)]
        simp only [Int.toNat_natCast, putA_len, byt_length, hln]
      have HLN := hide hln
      have e1 : decide (15 < (C : Int)) = false := decide_eq_false (by omega)
      have e1' : decide (15 < C) = false := decide_eq_false (by omega)
      have e2 : decide (1048576 < (L : Int)) = false := decide_eq_false (by omega)
      have e2' : decide (1048576 < L) = false := decide_eq_false (by omega)
      have e3 : decide (16 < (n : Int)) = false := decide_eq_false (by omega)
      have e3' : decide (16 < n) = false := decide_eq_false (by omega)
      by_cases hc0 : C = 0
      · subst hc0
        by_cases hn0 : n = 0
        · have hl0 : L = 0 := by omega
          have f1 : decide (0 < (n : Int)) = false := decide_eq_false (by omega)
          have f1' : decide (0 < n) = false := decide_eq_false (by omega)
          have f3 : decide (0 < (L : Int)) = false := decide_eq_false (by omega)
          have f3' : decide (0 < L) = false := decide_eq_false (by omega)
          clear hl0 hn0
          have HPP := hide HP.out
          rw [show (33152 : Int) + ((0 : Nat) : Int) = 33152 from rfl] at HPP
          clear HP
          go_wp2_with fail
          refine HPP.out.mono ?_
          rintro e w3 ⟨v, rfl, o3, b3⟩
          have hbq := putQ_lt I (33152 + 0) n (byt t) (by rw [byt_length]; omega) (byt_lt t)
          have hlq : (putQ I (33152 + 0) n (byt t)).length = 18 + t.size := by rw [putQ_len, byt_length]
          obtain ⟨PQ, hPQ⟩ : ∃ PQ, PQ = putQ I (33152 + 0) n (byt t) := ⟨_, rfl⟩
          rw [← hPQ] at o3 hbq hlq
          obtain ⟨xa, xc, rfl, xs, xb⟩ := own_src o3 hbq
          have HPQ := hide hPQ
          have HBQ := hide hbq
          have HLQ := hide hlq
          have hs2 := B2.out.size
          have HI0 : Hid (∃ M, Own w3 w2.heap.size 5 (.slice xa PQ.length xc) (nums .u8 M) ∧ Below w2.heap.size w2 w3 ∧ M = PQ ++ (l.take 0).flatMap (adr L)) := ⟨PQ, o3, b3, by simp⟩
          obtain ⟨LQ, hLQ⟩ : ∃ LQ, LQ = PQ.length := ⟨_, rfl⟩
          rw [← hLQ] at HI0 ⊢
          clear o3 b3 xs xb hPQ hbq hlq hLQ HPP c0 c1 c2 c3 c4 hA q6 q7
          go_wp2_with fail
          go_loopw [4, 5] (fun x i wr => ∃ k : Nat, k ≤ n ∧ i = .int .i64 k ∧ Hid (∃ M, Own wr w2.heap.size 5 x (nums .u8 M) ∧ Below w2.heap.size w2 wr ∧ M = PQ ++ (l.take k).flatMap (adr L))) (fun _ i _ => n - (intOf i).toNat)
          case atStart => exact ⟨0, by omega, rfl, HI0.out⟩
          case round =>
            obtain ⟨k, hk, rfl, HJ⟩ := hrel
            obtain ⟨M, ow, bl, hM⟩ := HJ.out
            have hMl : M.length = 18 + t.size + 16 * k := by rw [hM, List.length_append, adrs_len, List.length_take, HLQ.out, HLN.out]; omega
            have hMb : ∀ x ∈ M, x < 256 := fun x hx => by
              rw [hM] at hx
              rcases List.mem_append.1 hx with h | h
              · exact HBQ.out x h
              · obtain ⟨y, hy1, hy2⟩ := List.mem_flatMap.1 h
                exact adr_lt L (S2.out.byte y (List.mem_of_mem_take hy1)) x hy2
            have r4 := T2.out.below bl (by omega)
            have c3 : wr.cell? ⟨w.heap.size, 3, none⟩ = some (.slice a n c) := r4.cell 3
            have c4 : wr.cell? ⟨w.heap.size, 4, none⟩ = some (.int .i64 (L : Nat)) := r4.cell 4
            have hr4 := r4.lt
            by_cases hkn : k < n
            · have hd : decide ((k : Int) < (n : Int)) = true := decide_eq_true (by omega)
              have hd' : decide (k < n) = true := decide_eq_true (by omega)
              have s4 := S2.out.keep (w' := wr) (fun h0 b o e => bl.block b (S2.out.lt h0 e)) bl.size
              obtain ⟨yb, yo, rfl, e1, e2, e3, e4⟩ := s4.at_ hkn
              rw [Nat.mul_comm 4 k] at e1 e2 e3 e4
              have hdk : (l.getD k (0, 0, 0, 0)).ok := S2.out.byte _ (getD_mem (by rw [HLN.out]; exact hkn))
              have hnt : (l.take (k + 1)).flatMap (adr L) = (l.take k).flatMap (adr L) ++ adr L (l.getD k (0, 0, 0, 0)) := by
                have hk' : k < l.length := by rw [HLN.out]; exact hkn
                rw [List.take_succ_eq_append_getElem hk', List.flatMap_append]
                congr 1
                simp [List.getD, List.getElem?_eq_getElem hk']
              obtain ⟨⟨d0, d1, d2, d3⟩, hdd⟩ : ∃ d, d = l.getD k (0, 0, 0, 0) := ⟨_, rfl⟩
              rw [← hdd] at e1 e2 e3 e4 hdk hnt
              obtain ⟨W4, hW4⟩ : ∃ W, W = wr.alloc (.cells #[.int .u8 (d0 : Nat), .int .u8 (d1 : Nat), .int .u8 (d2 : Nat), .int .u8 (d3 : Nat)] 75) := ⟨_, rfl⟩
              have b4 : Below wr.heap.size wr W4 := by rw [hW4]; exact (Below.refl _ _).alloc (Nat.le_refl _) _
              have hs4 : W4.heap.size = wr.heap.size + 1 := by rw [hW4]; simp
              have hs5 := bl.size
              obtain ⟨v5, w5, ap5, o5, b5, u5⟩ := run_appN (ow.below b4) (adr L (d0, d1, d2, d3)) (adr_lt L hdk) (by rw [show (adr L (d0, d1, d2, d3)).length = 16 from rfl]; omega) (by omega)
              obtain ⟨za, zc, rfl, zs, zb⟩ := own_src ow hMb
              obtain ⟨ML, hML⟩ : ∃ ML, ML = M.length := ⟨_, rfl⟩
              rw [adr_cells L d0 d1 d2 d3 (by omega), ← hML, hs4, hW4, show (adr L (d0, d1, d2, d3)).length = 16 from rfl] at ap5
              rw [← hML]
              have AP5 := hide ap5
              have HI2 : Hid (∃ M, Own w5 w2.heap.size 5 v5 (nums .u8 M) ∧ Below w2.heap.size w2 w5 ∧ M = PQ ++ (l.take (k + 1)).flatMap (adr L)) := ⟨_, o5, (bl.trans (b4.mono (by omega))).trans b5, by rw [hnt, hM, List.append_assoc]⟩
              clear ow bl s4 r4 hM hdd hnt hMb hdk zs zb b4 hW4 HJ ap5 o5 b5 u5 hML hMl HI0
              go_wp2_with (first
                | (refine wpList_app_run _ rfl _ _ 22 22 rfl (.slice za ML zc) (.slice (some ⟨wr.heap.size + 1, 0, none⟩) 16 16) rfl rfl AP5.out ?_))
              go_roundw
              case rel => exact ⟨k + 1, by omega, by go_num, HI2.out⟩
              case measure => simp [intOf]; omega
            · have hd : decide ((k : Int) < (n : Int)) = false := decide_eq_false (by omega)
              have hd' : decide (k < n) = false := decide_eq_false (by omega)
              obtain rfl : k = n := by omega
              rw [List.take_of_length_le (by rw [HLN.out]; omega)] at hM
              have hMA : M = putA I 0 L (byt t) l := by rw [hM, HPQ.out, ← HLN.out]; rfl
              obtain ⟨za, zc, rfl, zs, zb⟩ := own_src ow hMb
              have HW1 := hide (wrote_own (l := putA I 0 L (byt t) l) (hMA ▸ ow) (putA_lt I 0 L (byt t) l (by rw [byt_length]; omega) (byt_lt t) S2.out.byte) (B2.out.trans (bl.mono (by omega))) 0)
              have HW2 := hide (wrote_nil (B2.out.trans (bl.mono (by omega))) 3)
              rw [← hMA] at HW1
              obtain ⟨ML, hML⟩ : ∃ ML, ML = M.length := ⟨_, rfl⟩
              rw [← hML] at hMl HW1 ⊢
              by_cases hbig : 512 < 18 + t.size + 16 * k
              · have g1 : decide (512 < (ML : Int)) = true := decide_eq_true (by omega)
                have g1' : decide (512 < ML) = true := decide_eq_true (by omega)
                have HRX := HRR.out
                rw [if_pos hbig] at HRX
                rw [← HRX] at HW2
                clear ow bl hM hMA hMb zs zb HJ hMl hML r4 hbig HRX HW1
                go_wp2_with fail
                go_ret2
                exact HW2.out
              · have g1 : decide (512 < (ML : Int)) = false := decide_eq_false (by omega)
                have g1' : decide (512 < ML) = false := decide_eq_false (by omega)
                have HRX := HRR.out
                rw [if_neg hbig, ← hMA] at HRX
                rw [← HRX] at HW1
                clear ow bl hM hMA hMb zs zb HJ hMl hML r4 hbig HRX HW2
                go_wp2_with fail
                go_ret2
                exact HW1.out

        · have f1 : decide (0 < (n : Int)) = true := decide_eq_true (by omega)
          have f1' : decide (0 < n) = true := decide_eq_true (by omega)
          have f2 : ((n : Int) == 0) = false := by simp; omega
          by_cases hl0 : L = 0
          · have f3 : decide (0 < (L : Int)) = false := decide_eq_false (by omega)
            have f3' : decide (0 < L) = false := decide_eq_false (by omega)
            clear hl0
            have HPP := hide HP.out
            rw [show (33152 : Int) + ((0 : Nat) : Int) = 33152 from rfl] at HPP
            clear HP
            go_wp2_with fail
            refine HPP.out.mono ?_
            rintro e w3 ⟨v, rfl, o3, b3⟩
            have hbq := putQ_lt I (33152 + 0) n (byt t) (by rw [byt_length]; omega) (byt_lt t)
            have hlq : (putQ I (33152 + 0) n (byt t)).length = 18 + t.size := by rw [putQ_len, byt_length]
            obtain ⟨PQ, hPQ⟩ : ∃ PQ, PQ = putQ I (33152 + 0) n (byt t) := ⟨_, rfl⟩
            rw [← hPQ] at o3 hbq hlq
            obtain ⟨xa, xc, rfl, xs, xb⟩ := own_src o3 hbq
            have HPQ := hide hPQ
            have HBQ := hide hbq
            have HLQ := hide hlq
            have hs2 := B2.out.size
            have HI0 : Hid (∃ M, Own w3 w2.heap.size 5 (.slice xa PQ.length xc) (nums .u8 M) ∧ Below w2.heap.size w2 w3 ∧ M = PQ ++ (l.take 0).flatMap (adr L)) := ⟨PQ, o3, b3, by simp⟩
            obtain ⟨LQ, hLQ⟩ : ∃ LQ, LQ = PQ.length := ⟨_, rfl⟩
            rw [← hLQ] at HI0 ⊢
            clear o3 b3 xs xb hPQ hbq hlq hLQ HPP c0 c1 c2 c3 c4 hA q6 q7
            go_wp2_with fail
            go_loopw [4, 5] (fun x i wr => ∃ k : Nat, k ≤ n ∧ i = .int .i64 k ∧ Hid (∃ M, Own wr w2.heap.size 5 x (nums .u8 M) ∧ Below w2.heap.size w2 wr ∧ M = PQ ++ (l.take k).flatMap (adr L))) (fun _ i _ => n - (intOf i).toNat)
            case atStart => exact ⟨0, by omega, rfl, HI0.out⟩
            case round =>
              obtain ⟨k, hk, rfl, HJ⟩ := hrel
              obtain ⟨M, ow, bl, hM⟩ := HJ.out
              have hMl : M.length = 18 + t.size + 16 * k := by rw [hM, List.length_append, adrs_len, List.length_take, HLQ.out, HLN.out]; omega
              have hMb : ∀ x ∈ M, x < 256 := fun x hx => by
                rw [hM] at hx
                rcases List.mem_append.1 hx with h | h
                · exact HBQ.out x h
                · obtain ⟨y, hy1, hy2⟩ := List.mem_flatMap.1 h
                  exact adr_lt L (S2.out.byte y (List.mem_of_mem_take hy1)) x hy2
              have r4 := T2.out.below bl (by omega)
              have c3 : wr.cell? ⟨w.heap.size, 3, none⟩ = some (.slice a n c) := r4.cell 3
              have c4 : wr.cell? ⟨w.heap.size, 4, none⟩ = some (.int .i64 (L : Nat)) := r4.cell 4
              have hr4 := r4.lt
              by_cases hkn : k < n
              · have hd : decide ((k : Int) < (n : Int)) = true := decide_eq_true (by omega)
                have hd' : decide (k < n) = true := decide_eq_true (by omega)
                have s4 := S2.out.keep (w' := wr) (fun h0 b o e => bl.block b (S2.out.lt h0 e)) bl.size
                obtain ⟨yb, yo, rfl, e1, e2, e3, e4⟩ := s4.at_ hkn
                rw [Nat.mul_comm 4 k] at e1 e2 e3 e4
                have hdk : (l.getD k (0, 0, 0, 0)).ok := S2.out.byte _ (getD_mem (by rw [HLN.out]; exact hkn))
                have hnt : (l.take (k + 1)).flatMap (adr L) = (l.take k).flatMap (adr L) ++ adr L (l.getD k (0, 0, 0, 0)) := by
                  have hk' : k < l.length := by rw [HLN.out]; exact hkn
                  rw [List.take_succ_eq_append_getElem hk', List.flatMap_append]
                  congr 1
                  simp [List.getD, List.getElem?_eq_getElem hk']
                obtain ⟨⟨d0, d1, d2, d3⟩, hdd⟩ : ∃ d, d = l.getD k (0, 0, 0, 0) := ⟨_, rfl⟩
                rw [← hdd] at e1 e2 e3 e4 hdk hnt
                obtain ⟨W4, hW4⟩ : ∃ W, W = wr.alloc (.cells #[.int .u8 (d0 : Nat), .int .u8 (d1 : Nat), .int .u8 (d2 : Nat), .int .u8 (d3 : Nat)] 75) := ⟨_, rfl⟩
                have b4 : Below wr.heap.size wr W4 := by rw [hW4]; exact (Below.refl _ _).alloc (Nat.le_refl _) _
                have hs4 : W4.heap.size = wr.heap.size + 1 := by rw [hW4]; simp
                have hs5 := bl.size
                obtain ⟨v5, w5, ap5, o5, b5, u5⟩ := run_appN (ow.below b4) (adr L (d0, d1, d2, d3)) (adr_lt L hdk) (by rw [show (adr L (d0, d1, d2, d3)).length = 16 from rfl]; omega) (by omega)
                obtain ⟨za, zc, rfl, zs, zb⟩ := own_src ow hMb
                obtain ⟨ML, hML⟩ : ∃ ML, ML = M.length := ⟨_, rfl⟩
                rw [adr_cells L d0 d1 d2 d3 (by omega), ← hML, hs4, hW4, show (adr L (d0, d1, d2, d3)).length = 16 from rfl] at ap5
                rw [← hML]
                have AP5 := hide ap5
                have HI2 : Hid (∃ M, Own w5 w2.heap.size 5 v5 (nums .u8 M) ∧ Below w2.heap.size w2 w5 ∧ M = PQ ++ (l.take (k + 1)).flatMap (adr L)) := ⟨_, o5, (bl.trans (b4.mono (by omega))).trans b5, by rw [hnt, hM, List.append_assoc]⟩
                clear ow bl s4 r4 hM hdd hnt hMb hdk zs zb b4 hW4 HJ ap5 o5 b5 u5 hML hMl HI0
                go_wp2_with (first
                  | (refine wpList_app_run _ rfl _ _ 22 22 rfl (.slice za ML zc) (.slice (some ⟨wr.heap.size + 1, 0, none⟩) 16 16) rfl rfl AP5.out ?_))
                go_roundw
                case rel => exact ⟨k + 1, by omega, by go_num, HI2.out⟩
                case measure => simp [intOf]; omega
              · have hd : decide ((k : Int) < (n : Int)) = false := decide_eq_false (by omega)
                have hd' : decide (k < n) = false := decide_eq_false (by omega)
                obtain rfl : k = n := by omega
                rw [List.take_of_length_le (by rw [HLN.out]; omega)] at hM
                have hMA : M = putA I 0 L (byt t) l := by rw [hM, HPQ.out, ← HLN.out]; rfl
                obtain ⟨za, zc, rfl, zs, zb⟩ := own_src ow hMb
                have HW1 := hide (wrote_own (l := putA I 0 L (byt t) l) (hMA ▸ ow) (putA_lt I 0 L (byt t) l (by rw [byt_length]; omega) (byt_lt t) S2.out.byte) (B2.out.trans (bl.mono (by omega))) 0)
                have HW2 := hide (wrote_nil (B2.out.trans (bl.mono (by omega))) 3)
                rw [← hMA] at HW1
                obtain ⟨ML, hML⟩ : ∃ ML, ML = M.length := ⟨_, rfl⟩
                rw [← hML] at hMl HW1 ⊢
                by_cases hbig : 512 < 18 + t.size + 16 * k
                · have g1 : decide (512 < (ML : Int)) = true := decide_eq_true (by omega)
                  have g1' : decide (512 < ML) = true := decide_eq_true (by omega)
                  have HRX := HRR.out
                  rw [if_pos hbig] at HRX
                  rw [← HRX] at HW2
                  clear ow bl hM hMA hMb zs zb HJ hMl hML r4 hbig HRX HW1
                  go_wp2_with fail
                  go_ret2
                  exact HW2.out
                · have g1 : decide (512 < (ML : Int)) = false := decide_eq_false (by omega)
                  have g1' : decide (512 < ML) = false := decide_eq_false (by omega)
                  have HRX := HRR.out
                  rw [if_neg hbig, ← hMA] at HRX
                  rw [← HRX] at HW1
                  clear ow bl hM hMA hMb zs zb HJ hMl hML r4 hbig HRX HW2
                  go_wp2_with fail
                  go_ret2
                  exact HW1.out

          · have f3 : decide (0 < (L : Int)) = true := decide_eq_true (by omega)
            have f3' : decide (0 < L) = true := decide_eq_true (by omega)
            have HPP := hide HP.out
            rw [show (33152 : Int) + ((0 : Nat) : Int) = 33152 from rfl] at HPP
            clear HP
            go_wp2_with fail
            refine HPP.out.mono ?_
            rintro e w3 ⟨v, rfl, o3, b3⟩
            have hbq := putQ_lt I (33152 + 0) n (byt t) (by rw [byt_length]; omega) (byt_lt t)
            have hlq : (putQ I (33152 + 0) n (byt t)).length = 18 + t.size := by rw [putQ_len, byt_length]
            obtain ⟨PQ, hPQ⟩ : ∃ PQ, PQ = putQ I (33152 + 0) n (byt t) := ⟨_, rfl⟩
            rw [← hPQ] at o3 hbq hlq
            obtain ⟨xa, xc, rfl, xs, xb⟩ := own_src o3 hbq
            have HPQ := hide hPQ
            have HBQ := hide hbq
            have HLQ := hide hlq
            have hs2 := B2.out.size
            have HI0 : Hid (∃ M, Own w3 w2.heap.size 5 (.slice xa PQ.length xc) (nums .u8 M) ∧ Below w2.heap.size w2 w3 ∧ M = PQ ++ (l.take 0).flatMap (adr L)) := ⟨PQ, o3, b3, by simp⟩
            obtain ⟨LQ, hLQ⟩ : ∃ LQ, LQ = PQ.length := ⟨_, rfl⟩
            rw [← hLQ] at HI0 ⊢
            clear o3 b3 xs xb hPQ hbq hlq hLQ HPP c0 c1 c2 c3 c4 hA q6 q7
            go_wp2_with fail
            go_loopw [4, 5] (fun x i wr => ∃ k : Nat, k ≤ n ∧ i = .int .i64 k ∧ Hid (∃ M, Own wr w2.heap.size 5 x (nums .u8 M) ∧ Below w2.heap.size w2 wr ∧ M = PQ ++ (l.take k).flatMap (adr L))) (fun _ i _ => n - (intOf i).toNat)
            case atStart => exact ⟨0, by omega, rfl, HI0.out⟩
            case round =>
              obtain ⟨k, hk, rfl, HJ⟩ := hrel
              obtain ⟨M, ow, bl, hM⟩ := HJ.out
              have hMl : M.length = 18 + t.size + 16 * k := by rw [hM, List.length_append, adrs_len, List.length_take, HLQ.out, HLN.out]; omega
              have hMb : ∀ x ∈ M, x < 256 := fun x hx => by
                rw [hM] at hx
                rcases List.mem_append.1 hx with h | h
                · exact HBQ.out x h
                · obtain ⟨y, hy1, hy2⟩ := List.mem_flatMap.1 h
                  exact adr_lt L (S2.out.byte y (List.mem_of_mem_take hy1)) x hy2
              have r4 := T2.out.below bl (by omega)
              have c3 : wr.cell? ⟨w.heap.size, 3, none⟩ = some (.slice a n c) := r4.cell 3
              have c4 : wr.cell? ⟨w.heap.size, 4, none⟩ = some (.int .i64 (L : Nat)) := r4.cell 4
              have hr4 := r4.lt
              by_cases hkn : k < n
              · have hd : decide ((k : Int) < (n : Int)) = true := decide_eq_true (by omega)
                have hd' : decide (k < n) = true := decide_eq_true (by omega)
                have s4 := S2.out.keep (w' := wr) (fun h0 b o e => bl.block b (S2.out.lt h0 e)) bl.size
                obtain ⟨yb, yo, rfl, e1, e2, e3, e4⟩ := s4.at_ hkn
                rw [Nat.mul_comm 4 k] at e1 e2 e3 e4
                have hdk : (l.getD k (0, 0, 0, 0)).ok := S2.out.byte _ (getD_mem (by rw [HLN.out]; exact hkn))
                have hnt : (l.take (k + 1)).flatMap (adr L) = (l.take k).flatMap (adr L) ++ adr L (l.getD k (0, 0, 0, 0)) := by
                  have hk' : k < l.length := by rw [HLN.out]; exact hkn
                  rw [List.take_succ_eq_append_getElem hk', List.flatMap_append]
                  congr 1
                  simp [List.getD, List.getElem?_eq_getElem hk']
                obtain ⟨⟨d0, d1, d2, d3⟩, hdd⟩ : ∃ d, d = l.getD k (0, 0, 0, 0) := ⟨_, rfl⟩
                rw [← hdd] at e1 e2 e3 e4 hdk hnt
                obtain ⟨W4, hW4⟩ : ∃ W, W = wr.alloc (.cells #[.int .u8 (d0 : Nat), .int .u8 (d1 : Nat), .int .u8 (d2 : Nat), .int .u8 (d3 : Nat)] 75) := ⟨_, rfl⟩
                have b4 : Below wr.heap.size wr W4 := by rw [hW4]; exact (Below.refl _ _).alloc (Nat.le_refl _) _
                have hs4 : W4.heap.size = wr.heap.size + 1 := by rw [hW4]; simp
                have hs5 := bl.size
                obtain ⟨v5, w5, ap5, o5, b5, u5⟩ := run_appN (ow.below b4) (adr L (d0, d1, d2, d3)) (adr_lt L hdk) (by rw [show (adr L (d0, d1, d2, d3)).length = 16 from rfl]; omega) (by omega)
                obtain ⟨za, zc, rfl, zs, zb⟩ := own_src ow hMb
                obtain ⟨ML, hML⟩ : ∃ ML, ML = M.length := ⟨_, rfl⟩
                rw [adr_cells L d0 d1 d2 d3 (by omega), ← hML, hs4, hW4, show (adr L (d0, d1, d2, d3)).length = 16 from rfl] at ap5
                rw [← hML]
                have AP5 := hide ap5
                have HI2 : Hid (∃ M, Own w5 w2.heap.size 5 v5 (nums .u8 M) ∧ Below w2.heap.size w2 w5 ∧ M = PQ ++ (l.take (k + 1)).flatMap (adr L)) := ⟨_, o5, (bl.trans (b4.mono (by omega))).trans b5, by rw [hnt, hM, List.append_assoc]⟩
                clear ow bl s4 r4 hM hdd hnt hMb hdk zs zb b4 hW4 HJ ap5 o5 b5 u5 hML hMl HI0
                go_wp2_with (first
                  | (refine wpList_app_run _ rfl _ _ 22 22 rfl (.slice za ML zc) (.slice (some ⟨wr.heap.size + 1, 0, none⟩) 16 16) rfl rfl AP5.out ?_))
                go_roundw
                case rel => exact ⟨k + 1, by omega, by go_num, HI2.out⟩
                case measure => simp [intOf]; omega
              · have hd : decide ((k : Int) < (n : Int)) = false := decide_eq_false (by omega)
                have hd' : decide (k < n) = false := decide_eq_false (by omega)
                obtain rfl : k = n := by omega
                rw [List.take_of_length_le (by rw [HLN.out]; omega)] at hM
                have hMA : M = putA I 0 L (byt t) l := by rw [hM, HPQ.out, ← HLN.out]; rfl
                obtain ⟨za, zc, rfl, zs, zb⟩ := own_src ow hMb
                have HW1 := hide (wrote_own (l := putA I 0 L (byt t) l) (hMA ▸ ow) (putA_lt I 0 L (byt t) l (by rw [byt_length]; omega) (byt_lt t) S2.out.byte) (B2.out.trans (bl.mono (by omega))) 0)
                have HW2 := hide (wrote_nil (B2.out.trans (bl.mono (by omega))) 3)
                rw [← hMA] at HW1
                obtain ⟨ML, hML⟩ : ∃ ML, ML = M.length := ⟨_, rfl⟩
                rw [← hML] at hMl HW1 ⊢
                by_cases hbig : 512 < 18 + t.size + 16 * k
                · have g1 : decide (512 < (ML : Int)) = true := decide_eq_true (by omega)
                  have g1' : decide (512 < ML) = true := decide_eq_true (by omega)
                  have HRX := HRR.out
                  rw [if_pos hbig] at HRX
                  rw [← HRX] at HW2
                  clear ow bl hM hMA hMb zs zb HJ hMl hML r4 hbig HRX HW1
                  go_wp2_with fail
                  go_ret2
                  exact HW2.out
                · have g1 : decide (512 < (ML : Int)) = false := decide_eq_false (by omega)
                  have g1' : decide (512 < ML) = false := decide_eq_false (by omega)
                  have HRX := HRR.out
                  rw [if_neg hbig, ← hMA] at HRX
                  rw [← HRX] at HW1
                  clear ow bl hM hMA hMb zs zb HJ hMl hML r4 hbig HRX HW2
                  go_wp2_with fail
                  go_ret2
                  exact HW1.out

      · have hn0 : n = 0 := by omega
        have hl0 : L = 0 := by omega
        have hc0' : ¬ (C : Int) = 0 := by omega
        have f1 : decide (0 < (n : Int)) = false := decide_eq_false (by omega)
        have f1' : decide (0 < n) = false := decide_eq_false (by omega)
        have f3 : decide (0 < (L : Int)) = false := decide_eq_false (by omega)
        have f3' : decide (0 < L) = false := decide_eq_false (by omega)
        clear hl0 hn0
        have HPP := hide HP.out
        clear HP
        go_wp2_with fail
        refine HPP.out.mono ?_
        rintro e w3 ⟨v, rfl, o3, b3⟩
        have hbq := putQ_lt I (33152 + C) n (byt t) (by rw [byt_length]; omega) (byt_lt t)
        have hlq : (putQ I (33152 + C) n (byt t)).length = 18 + t.size := by rw [putQ_len, byt_length]
        obtain ⟨PQ, hPQ⟩ : ∃ PQ, PQ = putQ I (33152 + C) n (byt t) := ⟨_, rfl⟩
        rw [← hPQ] at o3 hbq hlq
        obtain ⟨xa, xc, rfl, xs, xb⟩ := own_src o3 hbq
        have HPQ := hide hPQ
        have HBQ := hide hbq
        have HLQ := hide hlq
        have hs2 := B2.out.size
        have HI0 : Hid (∃ M, Own w3 w2.heap.size 5 (.slice xa PQ.length xc) (nums .u8 M) ∧ Below w2.heap.size w2 w3 ∧ M = PQ ++ (l.take 0).flatMap (adr L)) := ⟨PQ, o3, b3, by simp⟩
        obtain ⟨LQ, hLQ⟩ : ∃ LQ, LQ = PQ.length := ⟨_, rfl⟩
        rw [← hLQ] at HI0 ⊢
        clear o3 b3 xs xb hPQ hbq hlq hLQ HPP c0 c1 c2 c3 c4 hA q6 q7
        go_wp2_with fail
        go_loopw [4, 5] (fun x i wr => ∃ k : Nat, k ≤ n ∧ i = .int .i64 k ∧ Hid (∃ M, Own wr w2.heap.size 5 x (nums .u8 M) ∧ Below w2.heap.size w2 wr ∧ M = PQ ++ (l.take k).flatMap (adr L))) (fun _ i _ => n - (intOf i).toNat)
        case atStart => exact ⟨0, by omega, rfl, HI0.out⟩
        case round =>
          obtain ⟨k, hk, rfl, HJ⟩ := hrel
          obtain ⟨M, ow, bl, hM⟩ := HJ.out
          have hMl : M.length = 18 + t.size + 16 * k := by rw [hM, List.length_append, adrs_len, List.length_take, HLQ.out, HLN.out]; omega
          have hMb : ∀ x ∈ M, x < 256 := fun x hx => by
            rw [hM] at hx
            rcases List.mem_append.1 hx with h | h
            · exact HBQ.out x h
            · obtain ⟨y, hy1, hy2⟩ := List.mem_flatMap.1 h
              exact adr_lt L (S2.out.byte y (List.mem_of_mem_take hy1)) x hy2
          have r4 := T2.out.below bl (by omega)
          have c3 : wr.cell? ⟨w.heap.size, 3, none⟩ = some (.slice a n c) := r4.cell 3
          have c4 : wr.cell? ⟨w.heap.size, 4, none⟩ = some (.int .i64 (L : Nat)) := r4.cell 4
          have hr4 := r4.lt
          by_cases hkn : k < n
          · have hd : decide ((k : Int) < (n : Int)) = true := decide_eq_true (by omega)
            have hd' : decide (k < n) = true := decide_eq_true (by omega)
            have s4 := S2.out.keep (w' := wr) (fun h0 b o e => bl.block b (S2.out.lt h0 e)) bl.size
            obtain ⟨yb, yo, rfl, e1, e2, e3, e4⟩ := s4.at_ hkn
            rw [Nat.mul_comm 4 k] at e1 e2 e3 e4
            have hdk : (l.getD k (0, 0, 0, 0)).ok := S2.out.byte _ (getD_mem (by rw [HLN.out]; exact hkn))
            have hnt : (l.take (k + 1)).flatMap (adr L) = (l.take k).flatMap (adr L) ++ adr L (l.getD k (0, 0, 0, 0)) := by
              have hk' : k < l.length := by rw [HLN.out]; exact hkn
              rw [List.take_succ_eq_append_getElem hk', List.flatMap_append]
              congr 1
              simp [List.getD, List.getElem?_eq_getElem hk']
            obtain ⟨⟨d0, d1, d2, d3⟩, hdd⟩ : ∃ d, d = l.getD k (0, 0, 0, 0) := ⟨_, rfl⟩
            rw [← hdd] at e1 e2 e3 e4 hdk hnt
            obtain ⟨W4, hW4⟩ : ∃ W, W = wr.alloc (.cells #[.int .u8 (d0 : Nat), .int .u8 (d1 : Nat), .int .u8 (d2 : Nat), .int .u8 (d3 : Nat)] 75) := ⟨_, rfl⟩
            have b4 : Below wr.heap.size wr W4 := by rw [hW4]; exact (Below.refl _ _).alloc (Nat.le_refl _) _
            have hs4 : W4.heap.size = wr.heap.size + 1 := by rw [hW4]; simp
            have hs5 := bl.size
            obtain ⟨v5, w5, ap5, o5, b5, u5⟩ := run_appN (ow.below b4) (adr L (d0, d1, d2, d3)) (adr_lt L hdk) (by rw [show (adr L (d0, d1, d2, d3)).length = 16 from rfl]; omega) (by omega)
            obtain ⟨za, zc, rfl, zs, zb⟩ := own_src ow hMb
            obtain ⟨ML, hML⟩ : ∃ ML, ML = M.length := ⟨_, rfl⟩
            rw [adr_cells L d0 d1 d2 d3 (by omega), ← hML, hs4, hW4, show (adr L (d0, d1, d2, d3)).length = 16 from rfl] at ap5
            rw [← hML]
            have AP5 := hide ap5
            have HI2 : Hid (∃ M, Own w5 w2.heap.size 5 v5 (nums .u8 M) ∧ Below w2.heap.size w2 w5 ∧ M = PQ ++ (l.take (k + 1)).flatMap (adr L)) := ⟨_, o5, (bl.trans (b4.mono (by omega))).trans b5, by rw [hnt, hM, List.append_assoc]⟩
            clear ow bl s4 r4 hM hdd hnt hMb hdk zs zb b4 hW4 HJ ap5 o5 b5 u5 hML hMl HI0
            go_wp2_with (first
              | (refine wpList_app_run _ rfl _ _ 22 22 rfl (.slice za ML zc) (.slice (some ⟨wr.heap.size + 1, 0, none⟩) 16 16) rfl rfl AP5.out ?_))
            go_roundw
            case rel => exact ⟨k + 1, by omega, by go_num, HI2.out⟩
            case measure => simp [intOf]; omega
          · have hd : decide ((k : Int) < (n : Int)) = false := decide_eq_false (by omega)
            have hd' : decide (k < n) = false := decide_eq_false (by omega)
            obtain rfl : k = n := by omega
            rw [List.take_of_length_le (by rw [HLN.out]; omega)] at hM
            have hMA : M = putA I C L (byt t) l := by rw [hM, HPQ.out, ← HLN.out]; rfl
            obtain ⟨za, zc, rfl, zs, zb⟩ := own_src ow hMb
            have HW1 := hide (wrote_own (l := putA I C L (byt t) l) (hMA ▸ ow) (putA_lt I C L (byt t) l (by rw [byt_length]; omega) (byt_lt t) S2.out.byte) (B2.out.trans (bl.mono (by omega))) 0)
            have HW2 := hide (wrote_nil (B2.out.trans (bl.mono (by omega))) 3)
            rw [← hMA] at HW1
            obtain ⟨ML, hML⟩ : ∃ ML, ML = M.length := ⟨_, rfl⟩
            rw [← hML] at hMl HW1 ⊢
            by_cases hbig : 512 < 18 + t.size + 16 * k
            · have g1 : decide (512 < (ML : Int)) = true := decide_eq_true (by omega)
              have g1' : decide (512 < ML) = true := decide_eq_true (by omega)
              have HRX := HRR.out
              rw [if_pos hbig] at HRX
              rw [← HRX] at HW2
              clear ow bl hM hMA hMb zs zb HJ hMl hML r4 hbig HRX HW1
              go_wp2_with fail
              go_ret2
              exact HW2.out
            · have g1 : decide (512 < (ML : Int)) = false := decide_eq_false (by omega)
              have g1' : decide (512 < ML) = false := decide_eq_false (by omega)
              have HRX := HRR.out
              rw [if_neg hbig, ← hMA] at HRX
              rw [← HRX] at HW1
              clear ow bl hM hMA hMb zs zb HJ hMl hML r4 hbig HRX HW2
              go_wp2_with fail
              go_ret2
              exact HW1.out

    · have HW := hide (wrote_nil B2.out 2)
      rw [← HBAD.out hA] at HW
      have hA' : ¬ (0 ≤ cd ∧ cd ≤ 15 ∧ 0 ≤ tl ∧ tl ≤ 1048576 ∧ n ≤ 16 ∧ (cd = 0 ∨ n = 0) ∧ (tl = 0 ∨ n ≠ 0)) := fun e => hA ((isAn_parts _ _ _ _ _).2 ⟨HQ.out, e⟩)
      clear hA HBAD
      by_cases h1 : cd < 0
      · have e1 : decide (cd < 0) = true := decide_eq_true h1
        clear h1 hA'
        go_wp2_with fail
        go_ret2
        exact HW.out
      have e1 : decide (cd < 0) = false := decide_eq_false h1
      by_cases h2 : 15 < cd
      · have e2 : decide (15 < cd) = true := decide_eq_true h2
        clear h1 h2 hA'
        go_wp2_with fail
        go_ret2
        exact HW.out
      have e2 : decide (15 < cd) = false := decide_eq_false h2
      by_cases h3 : tl < 0
      · have e3 : decide (tl < 0) = true := decide_eq_true h3
        clear h1 h2 h3 hA'
        go_wp2_with fail
        go_ret2
        exact HW.out
      have e3 : decide (tl < 0) = false := decide_eq_false h3
      by_cases h4 : 1048576 < tl
      · have e4 : decide (1048576 < tl) = true := decide_eq_true h4
        clear h1 h2 h3 h4 hA'
        go_wp2_with fail
        go_ret2
        exact HW.out
      have e4 : decide (1048576 < tl) = false := decide_eq_false h4
      by_cases h5 : 16 < n
      · have e5 : decide (16 < (n : Int)) = true := decide_eq_true (by omega)
        have e5' : decide (16 < n) = true := decide_eq_true h5
        clear h1 h2 h3 h4 h5 hA'
        go_wp2_with fail
        go_ret2
        exact HW.out
      have e5 : decide (16 < (n : Int)) = false := decide_eq_false (by omega)
      have e5' : decide (16 < n) = false := decide_eq_false h5
      by_cases h6 : cd = 0
      · subst h6
        by_cases h7 : n = 0
        · subst h7
          have h8 : 0 < tl := by omega
          have e8 : decide (0 < tl) = true := decide_eq_true h8
          clear h1 h2 h3 h4 h5 h8 hA'
          go_wp2_with fail
          go_ret2
          exact HW.out
        · exact absurd ⟨by omega, by omega, by omega, by omega, by omega, Or.inl rfl, Or.inr h7⟩ hA'
      · by_cases h7 : n = 0
        · subst h7
          have h8 : 0 < tl := by omega
          have e8 : decide (0 < tl) = true := decide_eq_true h8
          clear h1 h2 h3 h4 h5 h8 hA'
          go_wp2_with fail
          go_ret2
          exact HW.out
        · have e7 : decide (0 < (n : Int)) = true := decide_eq_true (by omega)
          have e7' : decide (0 < n) = true := decide_eq_true (by omega)
          clear h1 h2 h3 h4 h5 h7 hA'
          go_wp2_with fail
          go_ret2
          exact HW.out
  · have hqf : qry id (byt t) = false := by simpa using hq
    rw [hqf] at HC
    have HR : Hid (R = ([], 2)) := HBAD.out (fun e => hq (isAn_ok e).1)
    clear hR hq hqf HBAD
    go_enter Tryd.func16, Tryd.ntmps16
    go_wp2_with fail
    rw [HW1.out]
    refine HC.out.mono ?_
    rintro e w1 ⟨rfl, b2⟩
    have HW := hide (wrote_nil (B1.out.trans (b2.mono (by omega))) 2)
    rw [← HR.out] at HW
    clear b2
    go_wp2_with fail
    go_ret2
    exact HW.out
end Go.Proofs.YtelfikbahcckaaaDoor
