/-
  Parse of package policy; conditions as each theorem has them.
-/
import Derived.Test.YtiejandeoopiiaaGreatDoorRH
set_option linter.unusedSimpArgs false
set_option linter.unusedVariables false
namespace Go.Proofs.YtiejandeoopiiaaGreatDoor
open Go.RowKit
theorem atoi_in (l : List UInt8) (v : Int) (h : Lib.atoiAll l = .ok v) : in64 v := by
  unfold Lib.atoiAll at h
  split at h
  · cases h
  · simp only at h
    split at h
    · cases h
    · cases h
    · split at h
      · cases h
      · rename_i u hu h1
        split at h
        · cases h
        · rename_i h2
          injection h with h
          subst h
          unfold in64
          split <;> omega
theorem atoiV_in (l : List Nat) : in64 (atoiV l) := by
  unfold atoiV
  cases e : Lib.atoiAll (l.map UInt8.ofNat) with
  | ok v => exact atoi_in _ v e
  | range => unfold Lib.atoiSat in64; simp only; split <;> omega
  | _ => unfold in64; simp only; omega
theorem adOf_ok {l : List Nat} (h : ∀ x ∈ l, x < 256) : (adOf l).ok := ⟨getD_lt h 0, getD_lt h 1, getD_lt h 2, getD_lt h 3⟩
theorem port_le (l : List Nat) : (port l).1 ≤ 65535 := by
  unfold port
  cases e : rd l 65535 with
  | none => simp
  | some n =>
    obtain ⟨_, h⟩ := dec_rd e
    simp only
    split
    · simp
    · exact h
theorem tarM_ok (t : List Nat) (ht : t.length ≤ 285) : (tarM t).1.ok ∧ in64 (tarM t).2.1 ∧ (tarM t).2.2.size ≤ maxLen := by
  unfold tarM
  split
  · exact ⟨adOf_ok (addr_bytes _), atoiV_in _, show (0 : Nat) ≤ maxLen from Nat.zero_le _⟩
  · refine ⟨⟨show (0 : Nat) < 256 by decide, show (0 : Nat) < 256 by decide, show (0 : Nat) < 256 by decide, show (0 : Nat) < 256 by decide⟩, show in64 0 from ⟨by decide, by decide⟩, ?_⟩
    simp only [strN_size]
    have : (name t).1.length ≤ 285 := by
      unfold name
      split
      · simp
      · split
        · simp
        · split
          · simp
          · rw [low_length]; exact ht
    unfold maxLen
    omega
theorem meant_ok (s : List Nat) (hs : s.length ≤ 285) : (meant s).ok := by
  have h1 := cutA_len (c := 32) s
  have h2 := cutB_len (c := 32) (cutA 32 s)
  obtain ⟨t1, t2, t3⟩ := tarM_ok (cutB 32 (cutA 32 s)) (by omega)
  have p1 := port_le (cutB 45 (cutA 32 (cutA 32 s)))
  have p2 := port_le (hghT (cutA 32 (cutA 32 s)))
  exact ⟨t1, t3, t2, by unfold in64 meant; simp only; omega, by unfold in64 meant; simp only; omega⟩
def prsR (s : List Nat) : Ru := (prs s).getD noRu
def prsE (s : List Nat) : Nat := if (prs s).isSome = true then 0 else 120
theorem prsR_ok (s : List Nat) : (prsR s).ok := by
  unfold prsR
  cases e : prs s with
  | none => exact noRu_ok
  | some r =>
    obtain ⟨h1, _, _, rfl⟩ := prs_some e
    exact meant_ok s h1
theorem prt_lt {r : Ru} (h : r.right = true) (hr : r.ok) : ∀ x ∈ prt r, x < 256 := by
  have hv : ∀ x ∈ verT r, x < 256 := by unfold verT allowT denyT; split <;> intro x hx <;> simp at hx <;> omega
  have ht : ∀ x ∈ tarT r, x < 256 := by
    unfold tarT
    split
    · intro x hx
      rcases List.mem_append.1 hx with hx | hx
      · have := adt_mem _ _ hx; omega
      · rcases List.mem_cons.1 hx with hx | hx
        · omega
        · exact dec_lt _ x hx
    · exact byt_lt _
  have hp : ∀ x ∈ porT r, x < 256 := by
    unfold porT
    split
    · exact dec_lt _
    · intro x hx
      rcases List.mem_append.1 hx with hx | hx
      · exact dec_lt _ x hx
      · rcases List.mem_cons.1 hx with hx | hx
        · omega
        · exact dec_lt _ x hx
  intro x hx
  unfold prt at hx
  rcases List.mem_append.1 hx with hx | hx
  · exact hv x hx
  · rcases List.mem_cons.1 hx with hx | hx
    · omega
    · rcases List.mem_append.1 hx with hx | hx
      · exact ht x hx
      · rcases List.mem_cons.1 hx with hx | hx
        · omega
        · exact hp x hx
theorem zRu_ruC : zRu = (ruC noRu).toArray := rfl
set_option maxRecDepth 100000 in
set_option maxHeartbeats 2000000 in
theorem parse_at (t : ByteArray) (w : World) (hm : t.size ≤ maxLen) (hV : Vars w) (hP : Pow w) (hE : Errs w) : Calls Tryz.prog 17 #[.string t] w fun e w' => e = .returned (.tuple #[.agg (ruC (prsR (byt t))).toArray, .int .i64 (prsE (byt t) : Nat)]) ∧ Below w.heap.size w w' := by
  obtain ⟨w0, hw0⟩ : ∃ w0, w0 = w.alloc (.cells zRu 37) := ⟨_, rfl⟩
  have B0 : Hid (Below w.heap.size w w0) := by rw [hw0]; exact (Below.refl _ _).alloc (Nat.le_refl _) _
  have r0 : Hid (w0.heap[w.heap.size]? = some (.cells zRu 37)) := by rw [hw0]; exact alloc_new _ _
  have HW0 : Hid (w.alloc (.cells #[.bool false, .int .u8 0, .int .u8 0, .int .u8 0, .int .u8 0, .int .i64 0, .string ⟨#[]⟩, .int .i64 0, .int .i64 0] 37) = w0) := hw0.symm
  have V0 := hide (hV.below B0.out)
  have P0 := hide (hP.below B0.out)
  have E0 := hide (hE.below B0.out)
  obtain ⟨N, hN⟩ : ∃ N, N = t.size := ⟨_, rfl⟩
  have hNI : (t.size : Int) = (N : Int) := by rw [hN]
  have hlen : (byt t).length = N := by rw [byt_length, hN]
  have HN := hide hN
  have hm' := hm
  rw [← hN] at hm'
  unfold maxLen at hm'
  have HLEN := hide hlen
  clear hw0 hV hP hE hN hlen hm
  obtain ⟨PR, hPR⟩ : ∃ PR, PR = prsR (byt t) := ⟨_, rfl⟩
  obtain ⟨PE, hPE⟩ : ∃ PE, PE = prsE (byt t) := ⟨_, rfl⟩
  rw [← hPR, ← hPE]
  have bad : Hid (prs (byt t) = none → PR = noRu ∧ PE = 120) := fun h => ⟨by rw [hPR, prsR, h]; rfl, by rw [hPE, prsE, h]; rfl⟩
  have good : Hid (∀ r, prs (byt t) = some r → PR = r ∧ PE = 0) := fun r h => ⟨by rw [hPR, prsR, h]; rfl, by rw [hPE, prsE, h]; rfl⟩
  clear hPR hPE
  by_cases h285 : 285 < N
  · obtain ⟨rfl, rfl⟩ := bad.out (by unfold prs; rw [if_neg (by rw [HLEN.out]; omega)])
    obtain ⟨w1, hw1⟩ : ∃ w1, w1 = w0.setRow w.heap.size zRu := ⟨_, rfl⟩
    have R1 : Hid (w1.heap[w.heap.size]? = some (.cells zRu 37)) := by rw [hw1]; exact setRow_heap _ _ _ _ _ r0.out
    have B1 : Hid (Below w.heap.size w w1) := by rw [hw1]; exact below_setRow B0.out (Nat.le_refl _) _
    have HW1 := hide hw1
    clear hw1
    go_enter Tryz.func17, Tryz.ntmps17
    go_wp2_with (first | (rw [HW0.out]; refine wpList_store_rowW rfl 37 _ _ rfl w.heap.size zRu rfl rfl 37 zRu r0.out infoRu rfl (ruC_all noRu) w1 HW1.out ?_))
    refine bodyPost_ret (res_cell_tmp rfl _ _ w.heap.size 37 zRu (0, 0) _ rfl R1.out Tryz.underlying37 rfl infoRu) rfl ⟨rfl, B1.out⟩
  · have HS : Hid ((byt t).length ≤ 285) := by show _ ≤ _; rw [HLEN.out]; omega
    have HMN : Hid (∀ W, Vars W → Errs W → Calls Tryz.prog 34 #[.string t] W fun e w' => e = .returned (.agg (ruC (meant (byt t))).toArray) ∧ Below W.heap.size W w') := fun W hv he => meant_at t W (by rw [← HN.out]; omega) hv he
    obtain ⟨r, hr⟩ : ∃ r, r = meant (byt t) := ⟨_, rfl⟩
    rw [← hr] at HMN
    have hok : r.ok := by rw [hr]; exact meant_ok _ HS.out
    have HPN : Hid (∀ W, Vars W → Pow W → Calls Tryz.prog 15 #[.agg (ruC r).toArray] W fun e w' => e = .returned (.tuple #[.string (strN (prtT r)), .int .i64 (prtE r : Nat)]) ∧ Below W.heap.size W w') := fun W hv hp => pPrint_at r W hok hv hp
    have bad2 : Hid (¬ (r.right = true ∧ prt r = byt t) → prs (byt t) = none) := fun h => by unfold prs; rw [← hr, if_neg (fun g => h g.2)]
    have good2 : Hid (r.right = true ∧ prt r = byt t → prs (byt t) = some r) := fun h => by unfold prs; rw [← hr, if_pos ⟨HS.out, h⟩]
    have hpl : r.right = true → ∀ x ∈ prt r, x < 256 := fun h => prt_lt h hok
    have HPL := hide hpl
    clear hr hpl
    go_enter Tryz.func17, Tryz.ntmps17
    go_wp2_with fail
    rw [HW0.out]
    refine (HMN.out _ V0.out E0.out).mono ?_
    rintro e w1 ⟨rfl, hb⟩
    have B1 := hide (B0.out.trans (hb.mono B0.out.size))
    have r1 := hide (keepB hb r0.out)
    have V1 := hide (V0.out.below hb)
    have P1 := hide (P0.out.below hb)
    clear hb
    obtain ⟨w2, hw2, g1, g2⟩ := box_new w1 r
    have HW2 := hide hw2
    have x2 := hide g1
    have B2 := hide (B1.out.trans (g2.mono B1.out.size))
    have r2 := hide (keepB g2 r1.out)
    have V2 := hide (V1.out.below g2)
    have P2 := hide (P1.out.below g2)
    have hlt := lt_of_some r1.out
    clear hw2 g1 g2
    go_wp2_with (first | (refine wpList_store_rowW rfl 37 _ _ rfl w1.heap.size (ruC r).toArray rfl rfl 37 zRu (alloc_new _ _) infoRu rfl (ruC_all r) w2 HW2.out ?_) | (refine wpList_load_row rfl 37 _ rfl w1.heap.size rfl 37 _ (0, 0) _ x2.out Tryz.underlying37 rfl infoRu ?_))
    refine (HPN.out _ V2.out P2.out).mono ?_
    rintro e w3 ⟨rfl, hb⟩
    have B3 := hide (B2.out.trans (hb.mono B2.out.size))
    have r3 := hide (keepB hb r2.out)
    have x3 := hide (keepB hb x2.out)
    clear hb
    obtain ⟨w4, hw4⟩ : ∃ w4, w4 = w3.setRow w.heap.size zRu := ⟨_, rfl⟩
    have R4 : Hid (w4.heap[w.heap.size]? = some (.cells zRu 37)) := by rw [hw4]; exact setRow_heap _ _ _ _ _ r3.out
    have B4 : Hid (Below w.heap.size w w4) := by rw [hw4]; exact below_setRow B3.out (Nat.le_refl _) _
    have HW4 := hide hw4
    obtain ⟨w5, hw5⟩ : ∃ w5, w5 = w3.setRow w.heap.size (ruC r).toArray := ⟨_, rfl⟩
    have R5 : Hid (w5.heap[w.heap.size]? = some (.cells (ruC r).toArray 37)) := by rw [hw5]; exact setRow_heap _ _ _ _ _ r3.out
    have B5 : Hid (Below w.heap.size w w5) := by rw [hw5]; exact below_setRow B3.out (Nat.le_refl _) _
    have HW5 := hide hw5
    clear hw4 hw5
    by_cases hg : r.right = true
    · have HTT : Hid (prtT r = prt r) := by show _ = _; unfold prtT; rw [if_pos hg]
      have HTE : Hid (prtE r = 0) := by show _ = _; unfold prtE; rw [if_pos hg]
      rw [HTT.out, HTE.out]
      have HB : Hid (byt (strN (prt r)) = prt r) := byt_strN _ (HPL.out hg)
      by_cases he : prt r = byt t
      · obtain ⟨rfl, rfl⟩ := good.out _ (good2.out ⟨hg, he⟩)
        have hq : ((strN (prt PR)).toList == t.toList) = true := by rw [eq_byt, HB.out]; simp [he]
        generalize strN (prt PR) = TX at hq ⊢
        clear he hg
        go_wp2_with (first | (refine wpList_load_row rfl 37 _ rfl w1.heap.size rfl 37 _ (0, 0) _ x3.out Tryz.underlying37 rfl infoRu ?_) | (refine wpList_store_rowW rfl 37 _ _ rfl w.heap.size (ruC PR).toArray rfl rfl 37 zRu r3.out infoRu rfl (ruC_all PR) w5 HW5.out ?_))
        refine bodyPost_ret (res_cell_tmp rfl _ _ w.heap.size 37 (ruC PR).toArray (0, 0) _ rfl R5.out Tryz.underlying37 rfl infoRu) rfl ⟨rfl, B5.out⟩
      · obtain ⟨rfl, rfl⟩ := bad.out (bad2.out fun h => he h.2)
        have hq : ((strN (prt r)).toList == t.toList) = false := by rw [eq_byt, HB.out]; simp [he]
        generalize strN (prt r) = TX at hq ⊢
        clear he hg
        go_wp2_with (first | (refine wpList_store_rowW rfl 37 _ _ rfl w.heap.size zRu rfl rfl 37 zRu r3.out infoRu rfl (ruC_all noRu) w4 HW4.out ?_))
        refine bodyPost_ret (res_cell_tmp rfl _ _ w.heap.size 37 zRu (0, 0) _ rfl R4.out Tryz.underlying37 rfl infoRu) rfl ⟨rfl, B4.out⟩
    · have HTE : Hid (prtE r = 120) := by show _ = _; unfold prtE; rw [if_neg hg]
      obtain ⟨rfl, rfl⟩ := bad.out (bad2.out fun h => hg h.1)
      rw [HTE.out]
      generalize strN (prtT r) = TX
      clear hg
      go_wp2_with (first | (refine wpList_store_rowW rfl 37 _ _ rfl w.heap.size zRu rfl rfl 37 zRu r3.out infoRu rfl (ruC_all noRu) w4 HW4.out ?_))
      refine bodyPost_ret (res_cell_tmp rfl _ _ w.heap.size 37 zRu (0, 0) _ rfl R4.out Tryz.underlying37 rfl infoRu) rfl ⟨rfl, B4.out⟩

end Go.Proofs.YtiejandeoopiiaaGreatDoor
