/-
  FiveBack's walk; conditions as each theorem has them.
-/
import Derived.Test.YtefgjmijbedbkaaDoorWK
import Derived.Test.YtefgjmijbedbkaaDoorPE
set_option linter.unusedSimpArgs false
set_option linter.unusedVariables false
namespace Go.Proofs.YtefgjmijbedbkaaDoor
open Go.RowKit

theorem up_dn {zs : List Int} (h : zs.all byB = true) : up (dn zs) = zs := by
  simp only [up, dn, List.map_map]
  conv => rhs; rw [← List.map_id zs]
  apply List.map_congr_left
  intro z hz
  have := List.all_eq_true.1 h z hz
  simp [byB] at this
  simp
  omega
theorem putG_len (l : List Nat) : (putG l).length = 2 + l.length := by simp [putG]; omega
theorem putL_len (u p : List Nat) : (putL u p).length = 3 + u.length + p.length := by simp [putL]; omega
theorem back_greet (zs : List Int) (more : List Nat) (h : (1 ≤ zs.length ∧ zs.length ≤ 255) ∧ zs.all byB = true) : putGr zs = (putG (dn zs), 0) ∧ greet (putG (dn zs) ++ more) = (dn zs, (putG (dn zs)).length, .ok) ∧ (putG (dn zs)).length ≤ 600 ∧ (∀ x ∈ putG (dn zs), x < 256) := by
  have hl := dn_length zs
  refine ⟨by unfold putGr; rw [if_pos h], greet_put _ _ (by omega) (by omega), by rw [putG_len]; omega, ?_⟩
  intro x hx
  simp only [putG, List.mem_cons] at hx
  rcases hx with h | h | h1
  · omega
  · omega
  · exact dn_lt h.2 x h1
theorem back_login (u p more : List Nat) (hu : ∀ x ∈ u, x < 256) (hp : ∀ x ∈ p, x < 256) (h : (1 ≤ u.length ∧ u.length ≤ 255) ∧ (1 ≤ p.length ∧ p.length ≤ 255)) : putLg u p = (putL u p, 0) ∧ login (putL u p ++ more) = (u, p, (putL u p).length, .ok) ∧ (putL u p).length ≤ 600 ∧ (∀ x ∈ putL u p, x < 256) := by
  refine ⟨by unfold putLg; rw [if_pos h], login_put _ _ _ h.1.1 h.1.2 h.2.1 h.2.2, by rw [putL_len]; omega, putL_lt hu hp h.1.2 h.2.2⟩
/-- A copy of what was written, with what stands behind it. -/
theorem behind {w : World} {v : Value} {L more : List Nat} {B : Nat} {a2 : Option Addr} {n2 c2 : Nat} (o : Own w B 5 v (nums .u8 L)) (hB : B ≤ w.heap.size) (hL : L.length ≤ 600) (hb : ∀ x ∈ L, x < 256) (h2 : Src w a2 n2 c2 more) (hn : n2 ≤ 140737488351232) :
    ∃ x c w', (Builtin.append_ #[22, 22] 22 #[v, .slice a2 n2 c2]).run Tryd.prog w = .ok (.slice x (L ++ more).length c) w' ∧ Src w' x (L ++ more).length c (L ++ more) ∧ Below B w w' := by
  obtain ⟨v8, w8, a8, o8, b8⟩ := run_app o h2 (by omega) hB
  obtain ⟨x8, c8, rfl, s8, _⟩ := own_src o8 (by intro x hx; rcases List.mem_append.1 hx with h | h; exact hb x h; exact h2.byte x h)
  exact ⟨x8, c8, w8, a8, s8, b8⟩
set_option maxRecDepth 100000 in
set_option maxHeartbeats 8000000 in
theorem back_walk (a : Option Addr) (n c : Nat) (zs : List Int) (us ps : ByteArray) (k : Int) (A : Ad) (t : ByteArray) (p : Int) (a2 : Option Addr) (n2 c2 : Nat) (more : List Nat) (w : World) (hV : Vars w) (h : SrcI w a n c zs) (hn : n * 8 ≤ 140737488351232) (hu : us.size ≤ maxLen) (hu2 : us.size ≤ 140737488355328) (hp : ps.size ≤ maxLen) (hp2 : ps.size ≤ 140737488355328) (hk : -9223372036854775808 ≤ k ∧ k ≤ 9223372036854775807) (ha : A.ok) (ht : t.size ≤ maxLen) (hwf : -9223372036854775808 ≤ p ∧ p ≤ 9223372036854775807) (h2 : Src w a2 n2 c2 more) (hn2 : n2 ≤ 140737488351232) :
    Calls Tryd.prog 5 #[.slice a n c, .string us, .string ps, .int .i64 k, deV A t p, .slice a2 n2 c2] w fun e w' => e = .returned (.bool true) ∧ Below w.heap.size w w' := by
  obtain ⟨A0, A1, A2, A3⟩ := A
  obtain ⟨W0, hW0⟩ : ∃ W, W = w.alloc (.cells #[.int .u8 (A0 : Nat), .int .u8 (A1 : Nat), .int .u8 (A2 : Nat), .int .u8 (A3 : Nat), .string t, .int .i64 p] 47) := ⟨_, rfl⟩
  have b0 : Below w.heap.size w W0 := by rw [hW0]; exact (Below.refl _ _).alloc (Nat.le_refl _) _
  have r0 : W0.heap[w.heap.size]? = some (.cells #[.int .u8 (A0 : Nat), .int .u8 (A1 : Nat), .int .u8 (A2 : Nat), .int .u8 (A3 : Nat), .string t, .int .i64 p] 47) := by rw [hW0]; exact alloc_new _ _
  have SB : Hid (∀ W : World, Below w.heap.size w W → SrcI W a n c zs) := fun W k => h.keep (fun h0 i o ei => k.block i (h.lt h0 ei)) k.size
  have ST : Hid (∀ W : World, Below w.heap.size w W → Src W a2 n2 c2 more) := fun W k => h2.keep (fun h0 i o ei => k.block i (h2.lt h0 ei)) k.size
  have hcap2 := h2.hcap
  have hmx2 := h2.hmax
  unfold maxLen at hmx2
  have HL := hide h.hlen
  have B0 := hide b0
  have V0 := hide (hV.below b0)
  have R0 := hide r0
  have HI := hide (works_at W0 (hV.below b0))
  have HW0 := hide hW0.symm
  have HU := hide hu
  have HPS := hide hp
  have HT := hide ht
  have HA := hide ha
  have HWF := hide hwf
  have HK := hide hk
  simp only [deV]
  clear b0 r0 hW0 h hV hu hp ht ha hwf hu2 hp2 h2 hk
  go_enter Tryd.func5, Tryd.ntmps5
  go_wp2_with fail
  rw [HW0.out]
  refine HI.out.mono ?_
  rintro e w1 ⟨rfl, hb1⟩
  have BA := hide (B0.out.trans (hb1.mono B0.out.size))
  have VA := hide (V0.out.below hb1)
  have RA := hide (keepB hb1 R0.out)
  clear hb1 HI B0 V0 R0
  have HG := hide (putGreeting_at a n c zs w1 (SB.out w1 BA.out))
  go_wp2_with fail
  refine HG.out.mono ?_
  rintro e w2 ⟨x2, y2, rfl, s2, hb2⟩
  have BB := hide (BA.out.trans (hb2.mono BA.out.size))
  have VB := hide (VA.out.below hb2)
  have RB := hide (keepB hb2 RA.out)
  have S2 := hide s2
  clear s2 hb2 HG BA VA RA
  by_cases hg : (1 ≤ zs.length ∧ zs.length ≤ 255) ∧ zs.all byB = true
  · obtain ⟨e1, e2, e3, e4⟩ := back_greet zs more hg
    obtain ⟨L, hL⟩ : ∃ L, L = putG (dn zs) := ⟨_, rfl⟩
    rw [← hL] at e1 e2 e3 e4
    have HRQ := hide e2
    have hL6 := e3
    have HLB := hide e4
    have HUD := hide (up_dn hg.2)
    have HDL := hide (dn_length zs)
    rw [e1] at S2 ⊢
    simp only at S2 ⊢
    clear hL e1 e2 e3 e4 hg
    have HBY := hide (bytes_at x2 L.length y2 L w2 S2.out (by omega))
    go_wp2_with fail
    refine HBY.out.mono ?_
    rintro e w3 ⟨v3, rfl, o3, b3⟩
    have B3 := BB.out.trans (b3.mono BB.out.size)
    obtain ⟨x5, y5, w5, a5, s5, b5⟩ := behind o3 b3.size hL6 HLB.out (ST.out w3 B3) hn2
    have b35 := b3.trans b5
    have B5 := hide (BB.out.trans (b35.mono BB.out.size))
    have V5 := hide (VB.out.below b35)
    have R5 := hide (keepB b35 RB.out)
    have A5 := hide a5
    have S5 := hide s5
    clear o3 b3 B3 a5 s5 b5 b35 HBY
    have HR := hide (greeting_at x5 _ y5 (L ++ more) w5 S5.out)
    rw [HRQ.out] at HR
    simp only at HR
    rw [HUD.out, HDL.out, HL.out] at HR
    generalize (L ++ more).length = FL at A5 HR
    clear S5 HRQ HLB
    go_wp2_with (first | (refine wpList_app_run _ rfl _ _ 22 22 rfl _ _ rfl rfl A5.out ?_))
    refine HR.out.mono ?_
    rintro e w6 ⟨x6, y6, u6, rfl, s6, hf6, hb6⟩
    obtain rfl : u6 = .nilIface := hf6
    have B6 := hide (B5.out.trans (hb6.mono B5.out.size))
    have V6 := hide (V5.out.below hb6)
    have R6 := hide (keepB hb6 R5.out)
    have HSI := hide (same_ints w6 x6 a n y6 n c zs s6 (SB.out w6 B6.out))
    clear s6 hb6 A5 HR
    go_wp2_with fail
    refine HSI.out.mono ?_
    rintro e w7 ⟨rfl, hb7⟩
    have B7 := hide (B6.out.trans (hb7.mono B6.out.size))
    have V7 := hide (V6.out.below hb7)
    have R7 := hide (keepB hb7 R6.out)
    clear hb7 HSI hL6 S2
    have HLG := hide (putLogin_at us ps w7 HU.out HPS.out)
    go_wp2_with fail
    refine HLG.out.mono ?_
    rintro e wl ⟨xl, yl, rfl, sl, hbl⟩
    have BL := hide (B7.out.trans (hbl.mono B7.out.size))
    have VL := hide (V7.out.below hbl)
    have RL := hide (keepB hbl R7.out)
    have SL := hide sl
    clear sl hbl HLG
    by_cases hl : (1 ≤ (byt us).length ∧ (byt us).length ≤ 255) ∧ (1 ≤ (byt ps).length ∧ (byt ps).length ≤ 255)
    · obtain ⟨e1, e2, e3, e4⟩ := back_login (byt us) (byt ps) more (byt_lt us) (byt_lt ps) hl
      obtain ⟨L, hL⟩ : ∃ L, L = putL (byt us) (byt ps) := ⟨_, rfl⟩
      rw [← hL] at e1 e2 e3 e4
      have HRQ := hide e2
      have hL6 := e3
      have HLB := hide e4
      rw [e1] at SL ⊢
      simp only at SL ⊢
      clear hL e1 e2 e3 e4 hl
      have HBY := hide (bytes_at xl L.length yl L wl SL.out (by omega))
      go_wp2_with fail
      refine HBY.out.mono ?_
      rintro e w3 ⟨v3, rfl, o3, b3⟩
      have B3 := BL.out.trans (b3.mono BL.out.size)
      obtain ⟨x5, y5, w5, a5, s5, b5⟩ := behind o3 b3.size hL6 HLB.out (ST.out w3 B3) hn2
      have b35 := b3.trans b5
      have B5 := hide (BL.out.trans (b35.mono BL.out.size))
      have V5 := hide (VL.out.below b35)
      have R5 := hide (keepB b35 RL.out)
      have A5 := hide a5
      have S5 := hide s5
      clear o3 b3 B3 a5 s5 b5 b35 HBY
      have HR := hide (login_at x5 _ y5 (L ++ more) w5 S5.out)
      rw [HRQ.out] at HR
      simp only [strN_byt] at HR
      generalize (L ++ more).length = FL at A5 HR
      clear S5 HRQ HLB
      go_wp2_with (first | (refine wpList_app_run _ rfl _ _ 22 22 rfl _ _ rfl rfl A5.out ?_))
      refine HR.out.mono ?_
      rintro e w6 ⟨u6, rfl, hf6, hb6⟩
      obtain rfl : u6 = .nilIface := hf6
      have B6 := hide (B5.out.trans (hb6.mono B5.out.size))
      have V6 := hide (V5.out.below hb6)
      have R6 := hide (keepB hb6 R5.out)
      clear hb6 A5 HR hL6 SL
      have HP := hide (putRequest_at k (A0, A1, A2, A3) t p w6 V6.out HA.out HT.out HWF.out)
      simp only [deV] at HP
      have rr := R6.out
      have k0 : w6.cell? ⟨w.heap.size, 0, none⟩ = some (.int .u8 (A0 : Nat)) := by simp [World.cell?, rr]
      have k1 : w6.cell? ⟨w.heap.size, 1, none⟩ = some (.int .u8 (A1 : Nat)) := by simp [World.cell?, rr]
      have k2 : w6.cell? ⟨w.heap.size, 2, none⟩ = some (.int .u8 (A2 : Nat)) := by simp [World.cell?, rr]
      have k3 : w6.cell? ⟨w.heap.size, 3, none⟩ = some (.int .u8 (A3 : Nat)) := by simp [World.cell?, rr]
      have k4 : w6.cell? ⟨w.heap.size, 4, none⟩ = some (.string t) := by simp [World.cell?, rr]
      have k5 : w6.cell? ⟨w.heap.size, 5, none⟩ = some (.int .i64 p) := by simp [World.cell?, rr]
      clear rr
      go_wp2_with fail
      refine HP.out.mono ?_
      rintro e wq ⟨xq, yq, rfl, sq, hbq⟩
      have BQ := hide (B6.out.trans (hbq.mono B6.out.size))
      have VQ := hide (V6.out.below hbq)
      have RQ := hide (keepB hbq R6.out)
      have SQ := hide sq
      clear sq hbq HP k0 k1 k2 k3 k4 k5
      by_cases hq : (0 ≤ k ∧ k ≤ 255) ∧ chk (A0, A1, A2, A3) (byt t) = true ∧ 0 ≤ p ∧ p ≤ 65535
      · obtain ⟨K, rfl⟩ : ∃ K : Nat, k = K := ⟨k.toNat, by omega⟩
        obtain ⟨Q, rfl⟩ : ∃ Q : Nat, p = Q := ⟨p.toNat, by omega⟩
        obtain ⟨L, hL⟩ : ∃ L, L = putR K (A0, A1, A2, A3) (byt t) Q := ⟨_, rfl⟩
        have e1 : putRq K (A0, A1, A2, A3) (byt t) Q = (L, 0) := by rw [hL]; exact putRq_good (by omega) hq.2.1 (by omega)
        have HRQ : Hid (req (L ++ more) = (K, ((A0, A1, A2, A3), byt t, Q), L.length, .ok)) := by rw [hL]; exact req_put _ _ _ _ _ hq.2.1
        have hL6 : L.length ≤ 600 := by have := putR_len K (A0, A1, A2, A3) (byt t) Q (chk_len hq.2.1); rw [hL]; omega
        rw [e1] at SQ ⊢
        simp only at SQ ⊢
        have HLB : Hid (∀ x ∈ L, x < 256) := SQ.out.byte
        clear hL e1 hq
        have HBY := hide (bytes_at xq L.length yq L wq SQ.out (by omega))
        go_wp2_with fail
        refine HBY.out.mono ?_
        rintro e w3 ⟨v3, rfl, o3, b3⟩
        have B3 := BQ.out.trans (b3.mono BQ.out.size)
        obtain ⟨x5, y5, w5, a5, s5, b5⟩ := behind o3 b3.size hL6 HLB.out (ST.out w3 B3) hn2
        have b35 := b3.trans b5
        have B5 := hide (BQ.out.trans (b35.mono BQ.out.size))
        have V5 := hide (VQ.out.below b35)
        have R5 := hide (keepB b35 RQ.out)
        have A5 := hide a5
        have S5 := hide s5
        clear o3 b3 B3 a5 s5 b5 b35 HBY
        have HR := hide (request_at x5 _ y5 (L ++ more) w5 S5.out V5.out)
        unfold reqV at HR
        rw [HRQ.out] at HR
        simp only [deV, strN_byt] at HR
        generalize (L ++ more).length = FL at A5 HR
        clear S5 HRQ HLB
        go_wp2_with (first | (refine wpList_app_run _ rfl _ _ 22 22 rfl _ _ rfl rfl A5.out ?_))
        refine HR.out.mono ?_
        rintro e w6 ⟨u6, rfl, hf6, hb6⟩
        obtain rfl : u6 = .nilIface := hf6
        have B6 := hide (B5.out.trans (hb6.mono B5.out.size))
        have rr := keepB hb6 R5.out
        have k0 : w6.cell? ⟨w.heap.size, 0, none⟩ = some (.int .u8 (A0 : Nat)) := by simp [World.cell?, rr]
        have k1 : w6.cell? ⟨w.heap.size, 1, none⟩ = some (.int .u8 (A1 : Nat)) := by simp [World.cell?, rr]
        have k2 : w6.cell? ⟨w.heap.size, 2, none⟩ = some (.int .u8 (A2 : Nat)) := by simp [World.cell?, rr]
        have k3 : w6.cell? ⟨w.heap.size, 3, none⟩ = some (.int .u8 (A3 : Nat)) := by simp [World.cell?, rr]
        have k4 : w6.cell? ⟨w.heap.size, 4, none⟩ = some (.string t) := by simp [World.cell?, rr]
        have k5 : w6.cell? ⟨w.heap.size, 5, none⟩ = some (.int .i64 (Q : Nat)) := by simp [World.cell?, rr]
        have hz6 : w.heap.size < w6.heap.size := lt_of_some rr
        have hne6 : w.heap.size ≠ w6.heap.size := by omega
        clear hb6 rr
        go_wp2_with fail
        go_ret
        exact ⟨by first | rfl | simp, B6.out.alloc B6.out.size _⟩
      · have e1 : putRq k (A0, A1, A2, A3) (byt t) p = ([], 2) := by unfold putRq; rw [if_neg hq]
        rw [e1] at SQ ⊢
        simp only [List.length_nil] at SQ ⊢
        clear e1 hq
        go_wp2_with fail
        go_ret
        exact ⟨by first | rfl | simp, BQ.out⟩
    · have e1 : putLg (byt us) (byt ps) = ([], 2) := by unfold putLg; rw [if_neg hl]
      rw [e1] at SL ⊢
      simp only [List.length_nil] at SL ⊢
      clear e1 hl
      have HP := hide (putRequest_at k (A0, A1, A2, A3) t p wl VL.out HA.out HT.out HWF.out)
      simp only [deV] at HP
      have rr := RL.out
      have k0 : wl.cell? ⟨w.heap.size, 0, none⟩ = some (.int .u8 (A0 : Nat)) := by simp [World.cell?, rr]
      have k1 : wl.cell? ⟨w.heap.size, 1, none⟩ = some (.int .u8 (A1 : Nat)) := by simp [World.cell?, rr]
      have k2 : wl.cell? ⟨w.heap.size, 2, none⟩ = some (.int .u8 (A2 : Nat)) := by simp [World.cell?, rr]
      have k3 : wl.cell? ⟨w.heap.size, 3, none⟩ = some (.int .u8 (A3 : Nat)) := by simp [World.cell?, rr]
      have k4 : wl.cell? ⟨w.heap.size, 4, none⟩ = some (.string t) := by simp [World.cell?, rr]
      have k5 : wl.cell? ⟨w.heap.size, 5, none⟩ = some (.int .i64 p) := by simp [World.cell?, rr]
      clear rr
      go_wp2_with fail
      refine HP.out.mono ?_
      rintro e wq ⟨xq, yq, rfl, sq, hbq⟩
      have BQ := hide (BL.out.trans (hbq.mono BL.out.size))
      have VQ := hide (VL.out.below hbq)
      have RQ := hide (keepB hbq RL.out)
      have SQ := hide sq
      clear sq hbq HP k0 k1 k2 k3 k4 k5
      by_cases hq : (0 ≤ k ∧ k ≤ 255) ∧ chk (A0, A1, A2, A3) (byt t) = true ∧ 0 ≤ p ∧ p ≤ 65535
      · obtain ⟨K, rfl⟩ : ∃ K : Nat, k = K := ⟨k.toNat, by omega⟩
        obtain ⟨Q, rfl⟩ : ∃ Q : Nat, p = Q := ⟨p.toNat, by omega⟩
        obtain ⟨L, hL⟩ : ∃ L, L = putR K (A0, A1, A2, A3) (byt t) Q := ⟨_, rfl⟩
        have e1 : putRq K (A0, A1, A2, A3) (byt t) Q = (L, 0) := by rw [hL]; exact putRq_good (by omega) hq.2.1 (by omega)
        have HRQ : Hid (req (L ++ more) = (K, ((A0, A1, A2, A3), byt t, Q), L.length, .ok)) := by rw [hL]; exact req_put _ _ _ _ _ hq.2.1
        have hL6 : L.length ≤ 600 := by have := putR_len K (A0, A1, A2, A3) (byt t) Q (chk_len hq.2.1); rw [hL]; omega
        rw [e1] at SQ ⊢
        simp only at SQ ⊢
        have HLB : Hid (∀ x ∈ L, x < 256) := SQ.out.byte
        clear hL e1 hq
        have HBY := hide (bytes_at xq L.length yq L wq SQ.out (by omega))
        go_wp2_with fail
        refine HBY.out.mono ?_
        rintro e w3 ⟨v3, rfl, o3, b3⟩
        have B3 := BQ.out.trans (b3.mono BQ.out.size)
        obtain ⟨x5, y5, w5, a5, s5, b5⟩ := behind o3 b3.size hL6 HLB.out (ST.out w3 B3) hn2
        have b35 := b3.trans b5
        have B5 := hide (BQ.out.trans (b35.mono BQ.out.size))
        have V5 := hide (VQ.out.below b35)
        have R5 := hide (keepB b35 RQ.out)
        have A5 := hide a5
        have S5 := hide s5
        clear o3 b3 B3 a5 s5 b5 b35 HBY
        have HR := hide (request_at x5 _ y5 (L ++ more) w5 S5.out V5.out)
        unfold reqV at HR
        rw [HRQ.out] at HR
        simp only [deV, strN_byt] at HR
        generalize (L ++ more).length = FL at A5 HR
        clear S5 HRQ HLB
        go_wp2_with (first | (refine wpList_app_run _ rfl _ _ 22 22 rfl _ _ rfl rfl A5.out ?_))
        refine HR.out.mono ?_
        rintro e w6 ⟨u6, rfl, hf6, hb6⟩
        obtain rfl : u6 = .nilIface := hf6
        have B6 := hide (B5.out.trans (hb6.mono B5.out.size))
        have rr := keepB hb6 R5.out
        have k0 : w6.cell? ⟨w.heap.size, 0, none⟩ = some (.int .u8 (A0 : Nat)) := by simp [World.cell?, rr]
        have k1 : w6.cell? ⟨w.heap.size, 1, none⟩ = some (.int .u8 (A1 : Nat)) := by simp [World.cell?, rr]
        have k2 : w6.cell? ⟨w.heap.size, 2, none⟩ = some (.int .u8 (A2 : Nat)) := by simp [World.cell?, rr]
        have k3 : w6.cell? ⟨w.heap.size, 3, none⟩ = some (.int .u8 (A3 : Nat)) := by simp [World.cell?, rr]
        have k4 : w6.cell? ⟨w.heap.size, 4, none⟩ = some (.string t) := by simp [World.cell?, rr]
        have k5 : w6.cell? ⟨w.heap.size, 5, none⟩ = some (.int .i64 (Q : Nat)) := by simp [World.cell?, rr]
        have hz6 : w.heap.size < w6.heap.size := lt_of_some rr
        have hne6 : w.heap.size ≠ w6.heap.size := by omega
        clear hb6 rr
        go_wp2_with fail
        go_ret
        exact ⟨by first | rfl | simp, B6.out.alloc B6.out.size _⟩
      · have e1 : putRq k (A0, A1, A2, A3) (byt t) p = ([], 2) := by unfold putRq; rw [if_neg hq]
        rw [e1] at SQ ⊢
        simp only [List.length_nil] at SQ ⊢
        clear e1 hq
        go_wp2_with fail
        go_ret
        exact ⟨by first | rfl | simp, BQ.out⟩
  · have e1 : putGr zs = ([], 2) := by unfold putGr; rw [if_neg hg]
    rw [e1] at S2 ⊢
    simp only [List.length_nil] at S2 ⊢
    clear e1 hg
    have HLG := hide (putLogin_at us ps w2 HU.out HPS.out)
    go_wp2_with fail
    refine HLG.out.mono ?_
    rintro e wl ⟨xl, yl, rfl, sl, hbl⟩
    have BL := hide (BB.out.trans (hbl.mono BB.out.size))
    have VL := hide (VB.out.below hbl)
    have RL := hide (keepB hbl RB.out)
    have SL := hide sl
    clear sl hbl HLG
    by_cases hl : (1 ≤ (byt us).length ∧ (byt us).length ≤ 255) ∧ (1 ≤ (byt ps).length ∧ (byt ps).length ≤ 255)
    · obtain ⟨e1, e2, e3, e4⟩ := back_login (byt us) (byt ps) more (byt_lt us) (byt_lt ps) hl
      obtain ⟨L, hL⟩ : ∃ L, L = putL (byt us) (byt ps) := ⟨_, rfl⟩
      rw [← hL] at e1 e2 e3 e4
      have HRQ := hide e2
      have hL6 := e3
      have HLB := hide e4
      rw [e1] at SL ⊢
      simp only at SL ⊢
      clear hL e1 e2 e3 e4 hl
      have HBY := hide (bytes_at xl L.length yl L wl SL.out (by omega))
      go_wp2_with fail
      refine HBY.out.mono ?_
      rintro e w3 ⟨v3, rfl, o3, b3⟩
      have B3 := BL.out.trans (b3.mono BL.out.size)
      obtain ⟨x5, y5, w5, a5, s5, b5⟩ := behind o3 b3.size hL6 HLB.out (ST.out w3 B3) hn2
      have b35 := b3.trans b5
      have B5 := hide (BL.out.trans (b35.mono BL.out.size))
      have V5 := hide (VL.out.below b35)
      have R5 := hide (keepB b35 RL.out)
      have A5 := hide a5
      have S5 := hide s5
      clear o3 b3 B3 a5 s5 b5 b35 HBY
      have HR := hide (login_at x5 _ y5 (L ++ more) w5 S5.out)
      rw [HRQ.out] at HR
      simp only [strN_byt] at HR
      generalize (L ++ more).length = FL at A5 HR
      clear S5 HRQ HLB
      go_wp2_with (first | (refine wpList_app_run _ rfl _ _ 22 22 rfl _ _ rfl rfl A5.out ?_))
      refine HR.out.mono ?_
      rintro e w6 ⟨u6, rfl, hf6, hb6⟩
      obtain rfl : u6 = .nilIface := hf6
      have B6 := hide (B5.out.trans (hb6.mono B5.out.size))
      have V6 := hide (V5.out.below hb6)
      have R6 := hide (keepB hb6 R5.out)
      clear hb6 A5 HR hL6 SL
      have HP := hide (putRequest_at k (A0, A1, A2, A3) t p w6 V6.out HA.out HT.out HWF.out)
      simp only [deV] at HP
      have rr := R6.out
      have k0 : w6.cell? ⟨w.heap.size, 0, none⟩ = some (.int .u8 (A0 : Nat)) := by simp [World.cell?, rr]
      have k1 : w6.cell? ⟨w.heap.size, 1, none⟩ = some (.int .u8 (A1 : Nat)) := by simp [World.cell?, rr]
      have k2 : w6.cell? ⟨w.heap.size, 2, none⟩ = some (.int .u8 (A2 : Nat)) := by simp [World.cell?, rr]
      have k3 : w6.cell? ⟨w.heap.size, 3, none⟩ = some (.int .u8 (A3 : Nat)) := by simp [World.cell?, rr]
      have k4 : w6.cell? ⟨w.heap.size, 4, none⟩ = some (.string t) := by simp [World.cell?, rr]
      have k5 : w6.cell? ⟨w.heap.size, 5, none⟩ = some (.int .i64 p) := by simp [World.cell?, rr]
      clear rr
      go_wp2_with fail
      refine HP.out.mono ?_
      rintro e wq ⟨xq, yq, rfl, sq, hbq⟩
      have BQ := hide (B6.out.trans (hbq.mono B6.out.size))
      have VQ := hide (V6.out.below hbq)
      have RQ := hide (keepB hbq R6.out)
      have SQ := hide sq
      clear sq hbq HP k0 k1 k2 k3 k4 k5
      by_cases hq : (0 ≤ k ∧ k ≤ 255) ∧ chk (A0, A1, A2, A3) (byt t) = true ∧ 0 ≤ p ∧ p ≤ 65535
      · obtain ⟨K, rfl⟩ : ∃ K : Nat, k = K := ⟨k.toNat, by omega⟩
        obtain ⟨Q, rfl⟩ : ∃ Q : Nat, p = Q := ⟨p.toNat, by omega⟩
        obtain ⟨L, hL⟩ : ∃ L, L = putR K (A0, A1, A2, A3) (byt t) Q := ⟨_, rfl⟩
        have e1 : putRq K (A0, A1, A2, A3) (byt t) Q = (L, 0) := by rw [hL]; exact putRq_good (by omega) hq.2.1 (by omega)
        have HRQ : Hid (req (L ++ more) = (K, ((A0, A1, A2, A3), byt t, Q), L.length, .ok)) := by rw [hL]; exact req_put _ _ _ _ _ hq.2.1
        have hL6 : L.length ≤ 600 := by have := putR_len K (A0, A1, A2, A3) (byt t) Q (chk_len hq.2.1); rw [hL]; omega
        rw [e1] at SQ ⊢
        simp only at SQ ⊢
        have HLB : Hid (∀ x ∈ L, x < 256) := SQ.out.byte
        clear hL e1 hq
        have HBY := hide (bytes_at xq L.length yq L wq SQ.out (by omega))
        go_wp2_with fail
        refine HBY.out.mono ?_
        rintro e w3 ⟨v3, rfl, o3, b3⟩
        have B3 := BQ.out.trans (b3.mono BQ.out.size)
        obtain ⟨x5, y5, w5, a5, s5, b5⟩ := behind o3 b3.size hL6 HLB.out (ST.out w3 B3) hn2
        have b35 := b3.trans b5
        have B5 := hide (BQ.out.trans (b35.mono BQ.out.size))
        have V5 := hide (VQ.out.below b35)
        have R5 := hide (keepB b35 RQ.out)
        have A5 := hide a5
        have S5 := hide s5
        clear o3 b3 B3 a5 s5 b5 b35 HBY
        have HR := hide (request_at x5 _ y5 (L ++ more) w5 S5.out V5.out)
        unfold reqV at HR
        rw [HRQ.out] at HR
        simp only [deV, strN_byt] at HR
        generalize (L ++ more).length = FL at A5 HR
        clear S5 HRQ HLB
        go_wp2_with (first | (refine wpList_app_run _ rfl _ _ 22 22 rfl _ _ rfl rfl A5.out ?_))
        refine HR.out.mono ?_
        rintro e w6 ⟨u6, rfl, hf6, hb6⟩
        obtain rfl : u6 = .nilIface := hf6
        have B6 := hide (B5.out.trans (hb6.mono B5.out.size))
        have rr := keepB hb6 R5.out
        have k0 : w6.cell? ⟨w.heap.size, 0, none⟩ = some (.int .u8 (A0 : Nat)) := by simp [World.cell?, rr]
        have k1 : w6.cell? ⟨w.heap.size, 1, none⟩ = some (.int .u8 (A1 : Nat)) := by simp [World.cell?, rr]
        have k2 : w6.cell? ⟨w.heap.size, 2, none⟩ = some (.int .u8 (A2 : Nat)) := by simp [World.cell?, rr]
        have k3 : w6.cell? ⟨w.heap.size, 3, none⟩ = some (.int .u8 (A3 : Nat)) := by simp [World.cell?, rr]
        have k4 : w6.cell? ⟨w.heap.size, 4, none⟩ = some (.string t) := by simp [World.cell?, rr]
        have k5 : w6.cell? ⟨w.heap.size, 5, none⟩ = some (.int .i64 (Q : Nat)) := by simp [World.cell?, rr]
        have hz6 : w.heap.size < w6.heap.size := lt_of_some rr
        have hne6 : w.heap.size ≠ w6.heap.size := by omega
        clear hb6 rr
        go_wp2_with fail
        go_ret
        exact ⟨by first | rfl | simp, B6.out.alloc B6.out.size _⟩
      · have e1 : putRq k (A0, A1, A2, A3) (byt t) p = ([], 2) := by unfold putRq; rw [if_neg hq]
        rw [e1] at SQ ⊢
        simp only [List.length_nil] at SQ ⊢
        clear e1 hq
        go_wp2_with fail
        go_ret
        exact ⟨by first | rfl | simp, BQ.out⟩
    · have e1 : putLg (byt us) (byt ps) = ([], 2) := by unfold putLg; rw [if_neg hl]
      rw [e1] at SL ⊢
      simp only [List.length_nil] at SL ⊢
      clear e1 hl
      have HP := hide (putRequest_at k (A0, A1, A2, A3) t p wl VL.out HA.out HT.out HWF.out)
      simp only [deV] at HP
      have rr := RL.out
      have k0 : wl.cell? ⟨w.heap.size, 0, none⟩ = some (.int .u8 (A0 : Nat)) := by simp [World.cell?, rr]
      have k1 : wl.cell? ⟨w.heap.size, 1, none⟩ = some (.int .u8 (A1 : Nat)) := by simp [World.cell?, rr]
      have k2 : wl.cell? ⟨w.heap.size, 2, none⟩ = some (.int .u8 (A2 : Nat)) := by simp [World.cell?, rr]
      have k3 : wl.cell? ⟨w.heap.size, 3, none⟩ = some (.int .u8 (A3 : Nat)) := by simp [World.cell?, rr]
      have k4 : wl.cell? ⟨w.heap.size, 4, none⟩ = some (.string t) := by simp [World.cell?, rr]
      have k5 : wl.cell? ⟨w.heap.size, 5, none⟩ = some (.int .i64 p) := by simp [World.cell?, rr]
      clear rr
      go_wp2_with fail
      refine HP.out.mono ?_
      rintro e wq ⟨xq, yq, rfl, sq, hbq⟩
      have BQ := hide (BL.out.trans (hbq.mono BL.out.size))
      have VQ := hide (VL.out.below hbq)
      have RQ := hide (keepB hbq RL.out)
      have SQ := hide sq
      clear sq hbq HP k0 k1 k2 k3 k4 k5
      by_cases hq : (0 ≤ k ∧ k ≤ 255) ∧ chk (A0, A1, A2, A3) (byt t) = true ∧ 0 ≤ p ∧ p ≤ 65535
      · obtain ⟨K, rfl⟩ : ∃ K : Nat, k = K := ⟨k.toNat, by omega⟩
        obtain ⟨Q, rfl⟩ : ∃ Q : Nat, p = Q := ⟨p.toNat, by omega⟩
        obtain ⟨L, hL⟩ : ∃ L, L = putR K (A0, A1, A2, A3) (byt t) Q := ⟨_, rfl⟩
        have e1 : putRq K (A0, A1, A2, A3) (byt t) Q = (L, 0) := by rw [hL]; exact putRq_good (by omega) hq.2.1 (by omega)
        have HRQ : Hid (req (L ++ more) = (K, ((A0, A1, A2, A3), byt t, Q), L.length, .ok)) := by rw [hL]; exact req_put _ _ _ _ _ hq.2.1
        have hL6 : L.length ≤ 600 := by have := putR_len K (A0, A1, A2, A3) (byt t) Q (chk_len hq.2.1); rw [hL]; omega
        rw [e1] at SQ ⊢
        simp only at SQ ⊢
        have HLB : Hid (∀ x ∈ L, x < 256) := SQ.out.byte
        clear hL e1 hq
        have HBY := hide (bytes_at xq L.length yq L wq SQ.out (by omega))
        go_wp2_with fail
        refine HBY.out.mono ?_
        rintro e w3 ⟨v3, rfl, o3, b3⟩
        have B3 := BQ.out.trans (b3.mono BQ.out.size)
        obtain ⟨x5, y5, w5, a5, s5, b5⟩ := behind o3 b3.size hL6 HLB.out (ST.out w3 B3) hn2
        have b35 := b3.trans b5
        have B5 := hide (BQ.out.trans (b35.mono BQ.out.size))
        have V5 := hide (VQ.out.below b35)
        have R5 := hide (keepB b35 RQ.out)
        have A5 := hide a5
        have S5 := hide s5
        clear o3 b3 B3 a5 s5 b5 b35 HBY
        have HR := hide (request_at x5 _ y5 (L ++ more) w5 S5.out V5.out)
        unfold reqV at HR
        rw [HRQ.out] at HR
        simp only [deV, strN_byt] at HR
        generalize (L ++ more).length = FL at A5 HR
        clear S5 HRQ HLB
        go_wp2_with (first | (refine wpList_app_run _ rfl _ _ 22 22 rfl _ _ rfl rfl A5.out ?_))
        refine HR.out.mono ?_
        rintro e w6 ⟨u6, rfl, hf6, hb6⟩
        obtain rfl : u6 = .nilIface := hf6
        have B6 := hide (B5.out.trans (hb6.mono B5.out.size))
        have rr := keepB hb6 R5.out
        have k0 : w6.cell? ⟨w.heap.size, 0, none⟩ = some (.int .u8 (A0 : Nat)) := by simp [World.cell?, rr]
        have k1 : w6.cell? ⟨w.heap.size, 1, none⟩ = some (.int .u8 (A1 : Nat)) := by simp [World.cell?, rr]
        have k2 : w6.cell? ⟨w.heap.size, 2, none⟩ = some (.int .u8 (A2 : Nat)) := by simp [World.cell?, rr]
        have k3 : w6.cell? ⟨w.heap.size, 3, none⟩ = some (.int .u8 (A3 : Nat)) := by simp [World.cell?, rr]
        have k4 : w6.cell? ⟨w.heap.size, 4, none⟩ = some (.string t) := by simp [World.cell?, rr]
        have k5 : w6.cell? ⟨w.heap.size, 5, none⟩ = some (.int .i64 (Q : Nat)) := by simp [World.cell?, rr]
        have hz6 : w.heap.size < w6.heap.size := lt_of_some rr
        have hne6 : w.heap.size ≠ w6.heap.size := by omega
        clear hb6 rr
        go_wp2_with fail
        go_ret
        exact ⟨by first | rfl | simp, B6.out.alloc B6.out.size _⟩
      · have e1 : putRq k (A0, A1, A2, A3) (byt t) p = ([], 2) := by unfold putRq; rw [if_neg hq]
        rw [e1] at SQ ⊢
        simp only [List.length_nil] at SQ ⊢
        clear e1 hq
        go_wp2_with fail
        go_ret
        exact ⟨by first | rfl | simp, BQ.out⟩
end Go.Proofs.YtefgjmijbedbkaaDoor
