/-
  PutAnswer once more: its bytes lie in memory of their own; conditions as its theorem has them.; The bytes that a statement hands in lie in memory of their own; conditions as each theorem has them.
-/
import Derived.Test.YtabkelhipmijfaaGreatDoorJoinedBN
import Derived.Test.YtabkelhipmijfaaGreatDoorJoinedT3
import Derived.Test.YtabkelhipmijfaaGreatDoorGO
import Derived.Deep.DrawnRows
set_option linter.unusedSimpArgs false
set_option linter.unusedVariables false
namespace Go.Proofs.YtabkelhipmijfaaGreatDoor
open Go.RowKit
set_option maxRecDepth 100000 in
set_option maxHeartbeats 4000000 in
theorem putAnswer_o (id : Int) (t : ByteArray) (cd : Int) (a : Option Addr) (n c : Nat) (l : List Ad) (tl : Int) (w : World) (ht : t.size ≤ maxLen) (hV : Vars w) (hn : n ≤ 140737488351232) (h : SrcA w a n c l) :
    Calls Tryz.prog 47 #[.agg #[.int .i64 id, .string t, .int .i64 cd, .slice a n c, .int .i64 tl]] w (WroteO (putAr id (byt t) cd l tl) w) := by
  obtain ⟨W1, hW1⟩ : ∃ W1, W1 = w.alloc (.cells #[.int .i64 id, .string t, .int .i64 cd, .slice a n c, .int .i64 tl] 65) := ⟨_, rfl⟩
  have b1 : Below w.heap.size w W1 := by rw [hW1]; exact (Below.refl _ _).alloc (Nat.le_refl _) _
  have HC := hide (isAnswer_at id t cd a n c tl W1 ht (hV.below b1) hn)
  have T1 : Hid (Row W1 w.heap.size 65 [.int .i64 id, .string t, .int .i64 cd, .slice a n c, .int .i64 tl]) := by rw [hW1]; exact Row.new w _ 65
  have hs1 : W1.heap.size = w.heap.size + 1 := by rw [hW1]; simp
  have B1 := hide b1
  have S1 := hide (h.below b1)
  have V1 := hide (hV.below b1)
  obtain ⟨R, hR⟩ : ∃ R, R = putAr id (byt t) cd l tl := ⟨_, rfl⟩
  rw [← hR]
  have hln := h.hlen
  have HW1 := hide hW1.symm
  clear b1 hV h hW1
  by_cases hq : isAn id (byt t) cd n tl = true
  · rw [hq] at HC
    obtain ⟨q0, q1, q2, q3, q4, q5, q6, q7⟩ := isAn_ok hq
    obtain ⟨p1, p2, p3, p4⟩ := qry_ok q0
    rw [byt_length] at p4
    obtain ⟨I, rfl⟩ : ∃ I : Nat, id = (I : Int) := ⟨id.toNat, by omega⟩
    obtain ⟨C, rfl⟩ : ∃ C : Nat, cd = (C : Int) := ⟨cd.toNat, by omega⟩
    obtain ⟨L, rfl⟩ : ∃ L : Nat, tl = (L : Int) := ⟨tl.toNat, by omega⟩
    have HR : Hid (R = if 512 < 18 + t.size + 16 * n then ([], 3) else (putA I C L (byt t) l, 0)) := by
      show _ = _
      rw [hR, putAr, if_pos (by rw [hln]; exact hq)]
      simp only [Int.toNat_natCast, putA_len, byt_length, hln]
    have ho := or_fl C (by omega)
    obtain ⟨FL, hFL⟩ : ∃ FL, FL = 33152 + C := ⟨_, rfl⟩
    rw [← hFL] at ho
    have hfl : FL < 65536 := by omega
    have HFL := hide hFL
    clear hFL
    clear hR hq q0 q6 q7 p3
    go_enter Tryz.func47, Tryz.ntmps47
    go_wp2_with fail
    rw [HW1.out]
    refine HC.out.mono ?_
    rintro e w2 ⟨rfl, b2⟩
    have r2 := T1.out.below b2 (by omega)
    have c0 : w2.cell? ⟨w.heap.size, 0, none⟩ = some (.int .i64 (I : Nat)) := r2.cell 0
    have c1 : w2.cell? ⟨w.heap.size, 1, none⟩ = some (.string t) := r2.cell 1
    have c2 : w2.cell? ⟨w.heap.size, 2, none⟩ = some (.int .i64 (C : Nat)) := r2.cell 2
    have c3 : w2.cell? ⟨w.heap.size, 3, none⟩ = some (.slice a n c) := r2.cell 3
    have hg := r2.lt
    have B2 := hide (B1.out.trans (b2.mono (by omega)))
    have HP := hide (putQuestion_at I FL n t w2 (by omega) (by omega) (by omega) (by omega) (V1.out.below b2))
    have S2 := hide (S1.out.below b2)
    have T2 := hide r2
    clear b2 r2 HC
    go_wp2_with fail
    refine HP.out.mono ?_
    rintro e w3 ⟨v, rfl, o3, b3⟩
    have hbq := putQ_lt I FL n (byt t) (by rw [byt_length]; omega) (byt_lt t)
    have hlq : (putQ I FL n (byt t)).length = 18 + t.size := by rw [putQ_len, byt_length]
    obtain ⟨PQ, hPQ⟩ : ∃ PQ, PQ = putQ I FL n (byt t) := ⟨_, rfl⟩
    rw [← hPQ] at o3 hbq hlq
    have HPQ := hide hPQ
    obtain ⟨xa, xc, rfl, xs, xb⟩ := own_src o3 hbq
    have r3 := T2.out.below b3 (by omega)
    have c3' : w3.cell? ⟨w.heap.size, 3, none⟩ = some (.slice a n c) := r3.cell 3
    have hg3 := r3.lt
    have T3 := hide r3
    have B3 := hide b3
    have S3 := hide (S2.out.below b3)
    have O3 := hide o3
    obtain ⟨LQ, hLQ⟩ : ∃ LQ, LQ = PQ.length := ⟨_, rfl⟩
    have HBQ := hide hbq
    rw [← hLQ] at hlq ⊢
    have hlq1 : LQ ≤ 271 := by omega
    have HLQ := hide hlq
    have HLQ' := hide hLQ
    clear r3 o3 b3 xs xb c0 c1 c2 c3 hPQ hbq hLQ
    by_cases hbig : 512 < 18 + t.size + 16 * n
    · have d1 : decide (512 < (LQ : Int) + 16 * (n : Int)) = true := decide_eq_true (by omega)
      clear hlq
      have HW := hide (wroteO_nil (B2.out.trans (B3.out.mono B2.out.size)) 3)
      rw [if_pos hbig] at HR
      rw [← HR.out] at HW
      go_wp2_with fail
      go_ret2
      exact HW.out
    · have d1 : decide (512 < (LQ : Int) + 16 * (n : Int)) = false := decide_eq_false (by omega)
      clear hlq
      rw [if_neg hbig] at HR
      have HI0 : Hid (Own w3 w2.heap.size 5 (.slice xa LQ xc) (nums .u8 (PQ ++ (l.take 0).flatMap (adr L))) ∧ Below w2.heap.size w2 w3) := ⟨by rw [HLQ'.out]; simpa using O3.out, B3.out⟩
      have hs2 := B2.out.size
      have HLN := hide hln
      clear hbig HP
      go_wp2_with fail
      clear hln c3' hg3 T3 S3 O3 B3
      go_loopw [4, 30] (fun x i wr => ∃ k : Nat, k ≤ n ∧ i = .int .i64 k ∧ Hid (Own wr w2.heap.size 5 x (nums .u8 (PQ ++ (l.take k).flatMap (adr L))) ∧ Below w2.heap.size w2 wr)) (fun _ i _ => n - (intOf i).toNat)
      case atStart => exact ⟨0, by omega, rfl, HI0.out⟩
      case round =>
        obtain ⟨k, hk, rfl, HJ⟩ := hrel
        obtain ⟨ow, bl⟩ := HJ.out
        have hMl : (PQ ++ (l.take k).flatMap (adr L)).length ≤ 600 := by rw [List.length_append, adrs_len, List.length_take, ← HLQ'.out]; omega
        have hMb : ∀ x ∈ PQ ++ (l.take k).flatMap (adr L), x < 256 := fun x hx => by
          rcases List.mem_append.1 hx with h | h
          · exact HBQ.out x h
          · obtain ⟨y, hy1, hy2⟩ := List.mem_flatMap.1 h
            exact adr_lt L (S2.out.byte y (List.mem_of_mem_take hy1)) x hy2
        by_cases hkn : k < n
        · have hd : decide ((k : Int) < (n : Int)) = true := decide_eq_true (by omega)
          have hd' : decide (k < n) = true := decide_eq_true (by omega)
          have s4 := S2.out.keep (w' := wr) (fun h0 b o e => bl.block b (S2.out.lt h0 e)) bl.size
          obtain ⟨yb, yo, rfl, e1, e2, e3, e4⟩ := s4.at_ hkn
          rw [Nat.mul_comm 4 k] at e1 e2 e3 e4
          have r4 := T2.out.below bl (by omega)
          have c4 : wr.cell? ⟨w.heap.size, 4, none⟩ = some (.int .i64 (L : Nat)) := r4.cell 4
          have hr4 := r4.lt
          have hdk : (l.getD k (0, 0, 0, 0)).ok := S2.out.byte _ (getD_mem (by rw [HLN.out]; exact hkn))
          have hnt : (l.take (k + 1)).flatMap (adr L) = (l.take k).flatMap (adr L) ++ adr L (l.getD k (0, 0, 0, 0)) := by
            have hk' : k < l.length := by rw [HLN.out]; exact hkn
            rw [List.take_succ_eq_append_getElem hk', List.flatMap_append]
            congr 1
            simp [List.getD, List.getElem?_eq_getElem hk']
          obtain ⟨M, hM⟩ : ∃ M, M = PQ ++ (l.take k).flatMap (adr L) := ⟨_, rfl⟩
          rw [← hM] at ow hMl hMb
          obtain ⟨d, hdd⟩ : ∃ d, d = l.getD k (0, 0, 0, 0) := ⟨_, rfl⟩
          rw [← hdd] at e1 e2 e3 e4 hdk hnt
          obtain ⟨W4, hW4⟩ : ∃ W, W = wr.alloc (.cells #[.int .u8 (d.1 : Nat), .int .u8 (d.2.1 : Nat), .int .u8 (d.2.2.1 : Nat), .int .u8 (d.2.2.2 : Nat)] 39) := ⟨_, rfl⟩
          have b4 : Below wr.heap.size wr W4 := by rw [hW4]; exact (Below.refl _ _).alloc (Nat.le_refl _) _
          have hs4 := b4.size
          have hs5 := bl.size
          have HA := hide (putAddr_at _ M w2.heap.size d L W4 (ow.below b4) (by omega) (by omega) hMb hdk (by omega))
          have HM : Hid (PQ ++ (l.take (k + 1)).flatMap (adr L) = M ++ adr L d) := by show _ = _; rw [hnt, ← List.append_assoc, ← hM]
          obtain ⟨za, zc, rfl, zs, zb⟩ := own_src ow hMb
          have B4 : Hid (Below w2.heap.size w2 W4) := bl.trans (b4.mono (by omega))
          have HW4 := hide hW4.symm
          clear ow bl s4 r4 hM hdd hnt hMl hMb hdk zs zb b4 hW4 HJ
          go_wp2_with fail
          rw [HW4.out]
          refine HA.out.mono ?_
          rintro e w5 ⟨v5, rfl, o5, b5⟩
          have HI2 : Hid (Own w5 w2.heap.size 5 v5 (nums .u8 (PQ ++ (l.take (k + 1)).flatMap (adr L))) ∧ Below w2.heap.size w2 w5) := ⟨by rw [HM.out]; exact o5, B4.out.trans b5⟩
          clear o5 b5 HA HM
          go_wp2_with fail
          go_roundw
          case rel => exact ⟨k + 1, by omega, by go_num, HI2.out⟩
          case measure => simp [intOf]; omega
        · have hd : decide ((k : Int) < (n : Int)) = false := decide_eq_false (by omega)
          have hd' : decide (k < n) = false := decide_eq_false (by omega)
          rw [List.take_of_length_le (by rw [HLN.out]; omega)] at ow
          rw [HPQ.out, HFL.out, ← HLN.out] at ow
          have HW := hide (wroteO_own (l := putA I C L (byt t) l) (by have := B2.out.size; omega) ow (putA_lt I C L (byt t) l (by rw [byt_length]; omega) (byt_lt t) S2.out.byte) (B2.out.trans (bl.mono (by omega))) 0)
          rw [← HR.out] at HW
          clear ow bl hMl hMb HJ
          go_wp2_with fail
          go_ret2
          exact HW.out
  · have HR : Hid (R = ([], 2)) := by show _ = _; rw [hR, putAr, if_neg (by rw [hln]; exact hq)]
    have hqf : isAn id (byt t) cd n tl = false := by simpa using hq
    rw [hqf] at HC
    clear hR hq hqf
    go_enter Tryz.func47, Tryz.ntmps47
    go_wp2_with fail
    rw [HW1.out]
    refine HC.out.mono ?_
    rintro e w1 ⟨rfl, b2⟩
    have HW := hide (wroteO_nil (B1.out.trans (b2.mono (by omega))) 2)
    rw [← HR.out] at HW
    clear b2
    go_wp2_with fail
    go_ret2
    exact HW.out
end Go.Proofs.YtabkelhipmijfaaGreatDoor

set_option linter.unusedSimpArgs false
set_option linter.unusedVariables false
namespace Go.Proofs.YtabkelhipmijfaaGreatDoor
open Go.RowKit

/-- Bytes that were told, in memory of their own. -/
abbrev ToldO (w : World) (e : Ending) (w' : World) : Prop := ∃ a c l, e = .returned (.slice a l.length c) ∧ Src w' a l.length c l ∧ l.length ≤ 140737488351232 ∧ (∀ x ∈ l, x < 256) ∧ (∀ b o, a = some ⟨b, o, none⟩ → w.heap.size ≤ b) ∧ Below w.heap.size w w'
set_option maxRecDepth 100000 in
set_option maxHeartbeats 4000000 in
theorem lanswer_o (x : Ac) (b : Nat) (L : List Qn) (w : World) (hin : x.In w) (hV : Vars w) (hq : QyAt w b L) (hl : L.length ≤ 64) (hn : ∀ q ∈ L, Qn.Ok q) :
    Calls Tryz.prog 15 #[x.v, .slice (some ⟨b, 0, none⟩) L.length L.length] w (ToldO w) := by
  obtain ⟨N, hN⟩ : ∃ N, N = L.length := ⟨_, rfl⟩
  have HIN := hide hin
  have HV := hide hV
  have HQ := hide hq
  have HL := hide hn
  have HNL := hide hN
  rw [← hN]
  rw [← hN] at hl
  clear hin hV hq hn hN
  obtain ⟨xk, xb, xd, xn, xname, ba, bn, bc, bs, xa, xan, xc, ads, xt⟩ := x
  show Calls Tryz.prog 15 #[.agg #[.int .i64 xk, .int .i64 xb, .int .i64 xd, .int .i64 xn, .string xname, .slice ba bn bc, .slice xa xan xc, .int .i64 xt], .slice (some ⟨b, 0, none⟩) N N] w (ToldO w)
  obtain ⟨k, hk, hk2⟩ := among_k xk 6 (by omega) (by omega)
  have HK := hide hk2
  clear hk2
  obtain ⟨h1, h2, h3, h4, h5, h6⟩ := HIN.out
  simp only at h1 h2 h3 h4 h5 h6
  have H1 := hide h1
  have H3 := hide h3
  clear h1 h3 h5 h6 HIN
  have hB0 : Below w.heap.size w (w.alloc (.cells #[.int .i64 xk, .int .i64 xb, .int .i64 xd, .int .i64 xn, .string xname, .slice ba bn bc, .slice xa xan xc, .int .i64 xt] 33)) := (Below.refl _ _).alloc (Nat.le_refl _) _
  have HB0 := hide hB0
  have HBY := hide (bytes_at ba bn bc bs _ (H1.out.below hB0) (by omega))
  have hlb := H1.out.hlen
  clear hB0
  by_cases hkn : k = 3 ∨ N = 0
  · have hd : (((k : Int) == 3) = true) ∨ (((k : Int) == 3) = false ∧ N = 0) := by
      by_cases h : k = 3
      · subst h; exact Or.inl rfl
      · exact Or.inr ⟨by simp; omega, by omega⟩
    rcases hd with hd | ⟨hd, rfl⟩
    all_goals
      go_enter Tryz.func15, Tryz.ntmps15
      go_wp2_with fail
      refine (HK.out _).mono ?_
      rintro e w1 ⟨rfl, rfl⟩
      go_wp2_with fail
      refine HBY.out.mono ?_
      rintro e w1 ⟨v, rfl, ho, k1⟩
      obtain ⟨a2, c2, rfl, hs, hb⟩ := own_src ho H1.out.byte
      have HSB := hide (fun b o e => Nat.le_trans HB0.out.size (hb b o e))
      have K1 := hide (HB0.out.trans (k1.mono HB0.out.size))
      have S1 := hide hs
      clear k1 hs ho hb
      go_wp2_with fail
      go_ret
      exact ⟨a2, c2, bs, by rw [hlb]; rfl, S1.out, by omega, H1.out.byte, HSB.out, K1.out⟩
  · have d3 : ((k : Int) == 3) = false := by simp; omega
    have d0 : ((N : Int) == 0) = false := by simp; omega
    obtain ⟨K, hK, hk2⟩ := among_k xn N (by omega) (by omega)
    have HKK := hide hk2
    obtain ⟨q0, q1⟩ := HQ.out.cells (i := K) (by have := HNL.out; omega)
    have hqb := lt_of_cell q0
    have p0 := (HB0.out.cell (p := ⟨b, K * 2, none⟩) hqb).trans q0
    have p1 := (HB0.out.cell (p := ⟨b, K * 2 + 1, none⟩) hqb).trans q1
    have hqo := HL.out _ (qAt_mem (L := L) (i := K) (by have := HNL.out; omega))
    have hqn := hqo.nm
    obtain ⟨qi, hqi⟩ : ∃ qi, qi = (qAt L K).id := ⟨_, rfl⟩
    obtain ⟨qn, hqnm⟩ : ∃ qn, qn = (qAt L K).nm := ⟨_, rfl⟩
    rw [← hqi] at p0
    rw [← hqnm] at p1 hqn
    have HPA := hide (fun (W : World) (hb : Below w.heap.size w W) => putAnswer_o qi qn 0 xa xan xc ads xt W (by unfold maxLen; omega) (HV.out.below hb) (by omega) (H3.out.below hb))
    have HBD : Hid (Below w.heap.size w (w.alloc (.cells #[.int .i64 xk, .int .i64 xb, .int .i64 xd, .int .i64 xn, .string xname, .slice ba bn bc, .slice xa xan xc, .int .i64 xt] 33)).drew) := ⟨HB0.out.os, HB0.out.tape, HB0.out.output, HB0.out.size, HB0.out.block⟩
    obtain ⟨PR, hPR⟩ : ∃ PR, PR = putAr qi (byt qn) 0 ads xt := ⟨_, rfl⟩
    have hPL : PR.1.length ≤ 512 := by
      rw [hPR]
      unfold putAr
      split
      · split
        · exact Nat.zero_le _
        · rename_i h; exact Nat.le_of_not_lt h
      · exact Nat.zero_le _
    rw [← hPR] at HPA
    clear hk2 q0 q1 hqb hqo hqi hqnm hPR HQ HNL HL hkn
    go_enter Tryz.func15, Tryz.ntmps15
    go_wp2_with fail
    refine (HK.out _).mono ?_
    rintro e w1 ⟨rfl, rfl⟩
    go_wp2_with fail
    go_region_with (first
      | (go_at_call 9; refine (HKK.out _).mono ?_; rintro e w2 ⟨rfl, rfl⟩)
      | (go_at_call 47; refine (HPA.out _ HBD.out).mono ?_; rintro e w2 ⟨v2, rfl, o2, y2, b2⟩; obtain ⟨a2, c2, rfl, s2, t2⟩ := own_src o2 y2; have S2 := hide s2; have Y2 := hide y2; have TT2 := hide (fun b o e => Nat.le_trans HBD.out.size (t2 b o e)); have B2 := hide (HBD.out.trans (b2.mono HBD.out.size)); clear s2 b2 o2 y2 t2))
    all_goals
      go_wp2_with fail
      go_ret
      exact ⟨a2, c2, PR.1, rfl, S2.out, by omega, Y2.out, TT2.out, B2.out⟩

end Go.Proofs.YtabkelhipmijfaaGreatDoor
