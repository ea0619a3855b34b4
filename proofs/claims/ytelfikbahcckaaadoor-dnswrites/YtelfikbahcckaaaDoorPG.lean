/-
  PutAnswer; conditions as each theorem has them.
-/
import Derived.Test.YtelfikbahcckaaaDoorPF
set_option linter.unusedSimpArgs false
set_option linter.unusedVariables false
namespace Go.Proofs.YtelfikbahcckaaaDoor
open Go.RowKit
theorem orr_i64 (x y : Nat) (hx : x < 65536) (hy : y < 65536) : bits .or .i64 (x : Int) (y : Int) = ((x ||| y : Nat) : Int) := by
  have h1 : (BitVec.ofInt 64 (x : Int)).toNat = x := by
    rw [BitVec.ofInt_natCast, BitVec.toNat_ofNat]; exact Nat.mod_eq_of_lt (by omega)
  have h2 : (BitVec.ofInt 64 (y : Int)).toNat = y := by
    rw [BitVec.ofInt_natCast, BitVec.toNat_ofNat]; exact Nat.mod_eq_of_lt (by omega)
  have hle : x ||| y < 2 ^ 16 := Nat.or_lt_two_pow hx hy
  show IntKind.i64.wrap ((BitVec.ofInt 64 (x : Int) ||| BitVec.ofInt 64 (y : Int)).toNat : Int) = _
  rw [BitVec.toNat_or, h1, h2, IntKind.wrap_i64]
  omega
theorem or_fl (cd : Nat) (h : cd < 16) : bits .or .i64 33152 (cd : Int) = ((33152 + cd : Nat) : Int) := by
  have e : 33152 ||| cd = 33152 + cd := by
    have : ∀ c : Fin 16, 33152 ||| c.1 = 33152 + c.1 := by decide
    exact this ⟨cd, h⟩
  have := orr_i64 33152 cd (by omega) (by omega)
  rw [e] at this
  exact this
/-- What PutAnswer tells. -/
noncomputable def putAr (id : Int) (n : List Nat) (cd : Int) (l : List Ad) (tl : Int) : List Nat × Nat :=
  if isAn id n cd l.length tl = true then (if 512 < (putA id.toNat cd.toNat tl.toNat n l).length then ([], 3) else (putA id.toNat cd.toNat tl.toNat n l, 0)) else ([], 2)
theorem isAn_ok {id : Int} {n : List Nat} {cd : Int} {k : Nat} {tl : Int} (h : isAn id n cd k tl = true) : qry id n = true ∧ 0 ≤ cd ∧ cd ≤ 15 ∧ 0 ≤ tl ∧ tl ≤ 1048576 ∧ k ≤ 16 ∧ (cd = 0 ∨ k = 0) ∧ (tl = 0 ∨ k ≠ 0) := by
  unfold isAn at h
  simp only [Bool.and_eq_true, Bool.or_eq_true, decide_eq_true_eq] at h
  obtain ⟨⟨⟨⟨⟨⟨⟨h1, h2⟩, h3⟩, h4⟩, h5⟩, h6⟩, h7⟩, h8⟩ := h
  exact ⟨h1, h2, h3, h4, h5, h6, h7, h8⟩
theorem putA_len (id cd tl : Nat) (n : List Nat) (l : List Ad) : (putA id cd tl n l).length = 18 + n.length + 16 * l.length := by
  unfold putA; rw [List.length_append, putQ_len, adrs_len]
theorem adr_lt (tl : Nat) {a : Ad} (h : a.ok) : ∀ x ∈ adr tl a, x < 256 := by
  intro x hx
  rcases List.mem_append.1 hx with hx | hx
  · exact nums2_lt _ x hx
  · unfold Ad.ok at h
    simp at hx
    omega
theorem putA_lt (id cd tl : Nat) (n : List Nat) (l : List Ad) (h : n.length ≤ 253) (hb : ∀ x ∈ n, x < 256) (ha : okA l) : ∀ x ∈ putA id cd tl n l, x < 256 := by
  intro x hx
  rcases List.mem_append.1 hx with hx | hx
  · exact putQ_lt _ _ _ _ h hb x hx
  · obtain ⟨a, h1, h2⟩ := List.mem_flatMap.1 hx
    exact adr_lt tl (ha a h1) x h2
set_option maxRecDepth 100000 in
set_option maxHeartbeats 4000000 in
theorem putAnswer_at (id : Int) (t : ByteArray) (cd : Int) (a : Option Addr) (n c : Nat) (l : List Ad) (tl : Int) (w : World) (ht : t.size ≤ maxLen) (hV : Vars w) (hn : n ≤ 140737488351232) (h : SrcA w a n c l) :
    Calls Tryd.prog 15 #[.agg #[.int .i64 id, .string t, .int .i64 cd, .slice a n c, .int .i64 tl]] w (Wrote (putAr id (byt t) cd l tl) w) := by
  obtain ⟨W1, hW1⟩ : ∃ W1, W1 = w.alloc (.cells #[.int .i64 id, .string t, .int .i64 cd, .slice a n c, .int .i64 tl] 43) := ⟨_, rfl⟩
  have b1 : Below w.heap.size w W1 := by rw [hW1]; exact (Below.refl _ _).alloc (Nat.le_refl _) _
  have HC := hide (isAnswer_at id t cd a n c tl W1 ht (hV.below b1) hn)
  have T1 : Hid (Row W1 w.heap.size 43 [.int .i64 id, .string t, .int .i64 cd, .slice a n c, .int .i64 tl]) := by rw [hW1]; exact Row.new w _ 43
  have hs1 : W1.heap.size = w.heap.size + 1 := by rw [hW1]; simp
  have B1 := hide b1
  have S1 := hide (h.below b1)
  have V1 := hide (hV.below b1)
  obtain ⟨R, hR⟩ : ∃ R, R = putAr id (byt t) cd l tl := ⟨_, rfl⟩
  rw [← hR]
  have hln := h.hlen
  have HW1 := hide hW1.symm
  clear b1 hV h hW1
  by_cases hq : isAn id (byt t) cd n tl = true
  · rw [hq] at HC
    obtain ⟨q0, q1, q2, q3, q4, q5, q6, q7⟩ := isAn_ok hq
    obtain ⟨p1, p2, p3, p4⟩ := qry_ok q0
    rw [byt_length] at p4
    obtain ⟨I, rfl⟩ : ∃ I : Nat, id = (I : Int) := ⟨id.toNat, by omega⟩
    obtain ⟨C, rfl⟩ : ∃ C : Nat, cd = (C : Int) := ⟨cd.toNat, by omega⟩
    obtain ⟨L, rfl⟩ : ∃ L : Nat, tl = (L : Int) := ⟨tl.toNat, by omega⟩
    have HR : Hid (R = if 512 < 18 + t.size + 16 * n then ([], 3) else (putA I C L (byt t) l, 0)) := by
      show _ = _
      rw [hR, putAr, if_pos (by rw [hln]; exact hq)]
      simp only [Int.toNat_natCast, putA_len, byt_length, hln]
    have ho := or_fl C (by omega)
    obtain ⟨FL, hFL⟩ : ∃ FL, FL = 33152 + C := ⟨_, rfl⟩
    rw [← hFL] at ho
    have hfl : FL < 65536 := by omega
    have HFL := hide hFL
    clear hFL
    clear hR hq q0 q6 q7 p3
    go_enter Tryd.func15, Tryd.ntmps15
    go_wp2_with fail
    rw [HW1.out]
    refine HC.out.mono ?_
    rintro e w2 ⟨rfl, b2⟩
    have r2 := T1.out.below b2 (by omega)
    have c0 : w2.cell? ⟨w.heap.size, 0, none⟩ = some (.int .i64 (I : Nat)) := r2.cell 0
    have c1 : w2.cell? ⟨w.heap.size, 1, none⟩ = some (.string t) := r2.cell 1
    have c2 : w2.cell? ⟨w.heap.size, 2, none⟩ = some (.int .i64 (C : Nat)) := r2.cell 2
    have c3 : w2.cell? ⟨w.heap.size, 3, none⟩ = some (.slice a n c) := r2.cell 3
    have hg := r2.lt
    have B2 := hide (B1.out.trans (b2.mono (by omega)))
    have HP := hide (putQuestion_at I FL n t w2 (by omega) (by omega) (by omega) (by omega) (V1.out.below b2))
    have S2 := hide (S1.out.below b2)
    have T2 := hide r2
    clear b2 r2 HC
    go_wp2_with fail
    refine HP.out.mono ?_
    rintro e w3 ⟨v, rfl, o3, b3⟩
    have hbq := putQ_lt I FL n (byt t) (by rw [byt_length]; omega) (byt_lt t)
    have hlq : (putQ I FL n (byt t)).length = 18 + t.size := by rw [putQ_len, byt_length]
    obtain ⟨PQ, hPQ⟩ : ∃ PQ, PQ = putQ I FL n (byt t) := ⟨_, rfl⟩
    rw [← hPQ] at o3 hbq hlq
    have HPQ := hide hPQ
    obtain ⟨xa, xc, rfl, xs, xb⟩ := own_src o3 hbq
    have r3 := T2.out.below b3 (by omega)
    have c3' : w3.cell? ⟨w.heap.size, 3, none⟩ = some (.slice a n c) := r3.cell 3
    have hg3 := r3.lt
    have T3 := hide r3
    have B3 := hide b3
    have S3 := hide (S2.out.below b3)
    have O3 := hide o3
    obtain ⟨LQ, hLQ⟩ : ∃ LQ, LQ = PQ.length := ⟨_, rfl⟩
    have HBQ := hide hbq
    rw [← hLQ] at hlq ⊢
    have hlq1 : LQ ≤ 271 := by omega
    have HLQ := hide hlq
    have HLQ' := hide hLQ
    clear r3 o3 b3 xs xb c0 c1 c2 c3 hPQ hbq hLQ
    by_cases hbig : 512 < 18 + t.size + 16 * n
    · have d1 : decide (512 < (LQ : Int) + 16 * (n : Int)) = true := decide_eq_true (by omega)
      clear hlq
      have HW := hide (wrote_nil (B2.out.trans (B3.out.mono B2.out.size)) 3)
      rw [if_pos hbig] at HR
      rw [← HR.out] at HW
      go_wp2_with fail
      go_ret2
      exact HW.out
    · have d1 : decide (512 < (LQ : Int) + 16 * (n : Int)) = false := decide_eq_false (by omega)
      clear hlq
      rw [if_neg hbig] at HR
      have HI0 : Hid (Own w3 w2.heap.size 5 (.slice xa LQ xc) (nums .u8 (PQ ++ (l.take 0).flatMap (adr L))) ∧ Below w2.heap.size w2 w3) := ⟨by rw [HLQ'.out]; simpa using O3.out, B3.out⟩
      have hs2 := B2.out.size
      have HLN := hide hln
      clear hbig HP
      go_wp2_with fail
      clear hln c3' hg3 T3 S3 O3 B3
      go_loopw [4, 30] (fun x i wr => ∃ k : Nat, k ≤ n ∧ i = .int .i64 k ∧ Hid (Own wr w2.heap.size 5 x (nums .u8 (PQ ++ (l.take k).flatMap (adr L))) ∧ Below w2.heap.size w2 wr)) (fun _ i _ => n - (intOf i).toNat)
      case atStart => exact ⟨0, by omega, rfl, HI0.out⟩
      case round =>
        obtain ⟨k, hk, rfl, HJ⟩ := hrel
        obtain ⟨ow, bl⟩ := HJ.out
        have hMl : (PQ ++ (l.take k).flatMap (adr L)).length ≤ 600 := by rw [List.length_append, adrs_len, List.length_take, ← HLQ'.out]; omega
        have hMb : ∀ x ∈ PQ ++ (l.take k).flatMap (adr L), x < 256 := fun x hx => by
          rcases List.mem_append.1 hx with h | h
          · exact HBQ.out x h
          · obtain ⟨y, hy1, hy2⟩ := List.mem_flatMap.1 h
            exact adr_lt L (S2.out.byte y (List.mem_of_mem_take hy1)) x hy2
        by_cases hkn : k < n
        · have hd : decide ((k : Int) < (n : Int)) = true := decide_eq_true (by omega)
          have hd' : decide (k < n) = true := decide_eq_true (by omega)
          have s4 := S2.out.keep (w' := wr) (fun h0 b o e => bl.block b (S2.out.lt h0 e)) bl.size
          obtain ⟨yb, yo, rfl, e1, e2, e3, e4⟩ := s4.at_ hkn
          rw [Nat.mul_comm 4 k] at e1 e2 e3 e4
          have r4 := T2.out.below bl (by omega)
          have c4 : wr.cell? ⟨w.heap.size, 4, none⟩ = some (.int .i64 (L : Nat)) := r4.cell 4
          have hr4 := r4.lt
          have hdk : (l.getD k (0, 0, 0, 0)).ok := S2.out.byte _ (getD_mem (by rw [HLN.out]; exact hkn))
          have hnt : (l.take (k + 1)).flatMap (adr L) = (l.take k).flatMap (adr L) ++ adr L (l.getD k (0, 0, 0, 0)) := by
            have hk' : k < l.length := by rw [HLN.out]; exact hkn
            rw [List.take_succ_eq_append_getElem hk', List.flatMap_append]
            congr 1
            simp [List.getD, List.getElem?_eq_getElem hk']
          obtain ⟨M, hM⟩ : ∃ M, M = PQ ++ (l.take k).flatMap (adr L) := ⟨_, rfl⟩
          rw [← hM] at ow hMl hMb
          obtain ⟨d, hdd⟩ : ∃ d, d = l.getD k (0, 0, 0, 0) := ⟨_, rfl⟩
          rw [← hdd] at e1 e2 e3 e4 hdk hnt
          obtain ⟨W4, hW4⟩ : ∃ W, W = wr.alloc (.cells #[.int .u8 (d.1 : Nat), .int .u8 (d.2.1 : Nat), .int .u8 (d.2.2.1 : Nat), .int .u8 (d.2.2.2 : Nat)] 75) := ⟨_, rfl⟩
          have b4 : Below wr.heap.size wr W4 := by rw [hW4]; exact (Below.refl _ _).alloc (Nat.le_refl _) _
          have hs4 := b4.size
          have hs5 := bl.size
          have HA := hide (putAddr_at _ M w2.heap.size d L W4 (ow.below b4) (by omega) (by omega) hMb hdk (by omega))
          have HM : Hid (PQ ++ (l.take (k + 1)).flatMap (adr L) = M ++ adr L d) := by show _ = _; rw [hnt, ← List.append_assoc, ← hM]
          obtain ⟨za, zc, rfl, zs, zb⟩ := own_src ow hMb
          have B4 : Hid (Below w2.heap.size w2 W4) := bl.trans (b4.mono (by omega))
          have HW4 := hide hW4.symm
          clear ow bl s4 r4 hM hdd hnt hMl hMb hdk zs zb b4 hW4 HJ
          go_wp2_with fail
          rw [HW4.out]
          refine HA.out.mono ?_
          rintro e w5 ⟨v5, rfl, o5, b5⟩
          have HI2 : Hid (Own w5 w2.heap.size 5 v5 (nums .u8 (PQ ++ (l.take (k + 1)).flatMap (adr L))) ∧ Below w2.heap.size w2 w5) := ⟨by rw [HM.out]; exact o5, B4.out.trans b5⟩
          clear o5 b5 HA HM
          go_wp2_with fail
          go_roundw
          case rel => exact ⟨k + 1, by omega, by go_num, HI2.out⟩
          case measure => simp [intOf]; omega
        · have hd : decide ((k : Int) < (n : Int)) = false := decide_eq_false (by omega)
          have hd' : decide (k < n) = false := decide_eq_false (by omega)
          rw [List.take_of_length_le (by rw [HLN.out]; omega)] at ow
          rw [HPQ.out, HFL.out, ← HLN.out] at ow
          have HW := hide (wrote_own (l := putA I C L (byt t) l) ow (putA_lt I C L (byt t) l (by rw [byt_length]; omega) (byt_lt t) S2.out.byte) (B2.out.trans (bl.mono (by omega))) 0)
          rw [← HR.out] at HW
          clear ow bl hMl hMb HJ
          go_wp2_with fail
          go_ret2
          exact HW.out
  · have HR : Hid (R = ([], 2)) := by show _ = _; rw [hR, putAr, if_neg (by rw [hln]; exact hq)]
    have hqf : isAn id (byt t) cd n tl = false := by simpa using hq
    rw [hqf] at HC
    clear hR hq hqf
    go_enter Tryd.func15, Tryd.ntmps15
    go_wp2_with fail
    rw [HW1.out]
    refine HC.out.mono ?_
    rintro e w1 ⟨rfl, b2⟩
    have HW := hide (wrote_nil (B1.out.trans (b2.mono (by omega))) 2)
    rw [← HR.out] at HW
    clear b2
    go_wp2_with fail
    go_ret2
    exact HW.out
end Go.Proofs.YtelfikbahcckaaaDoor
