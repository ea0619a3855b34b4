/-
  ProxyOwn's walk: own answers are read as they must be; conditions as each theorem has them.
-/
import Derived.Test.YtccoddmdlbdfjaaGreatDoorJoinedWK
import Derived.Test.YtccoddmdlbdfjaaGreatDoorJoinedFF
set_option linter.unusedSimpArgs false
set_option linter.unusedVariables false
namespace Go.Proofs.YtccoddmdlbdfjaaGreatDoor
open Go.RowKit

theorem ownFit (c : Int) : Few (ownF c) := by
  unfold ownF
  split
  · exact ⟨fun f hf => by simp at hf, by simp⟩
  · refine ⟨fun f hf => ?_, by decide⟩
    rcases List.mem_cons.1 hf with rfl | hf
    · exact ⟨by decide, by decide⟩
    · obtain rfl : f = (connN, endV) := by simpa using hf
      exact ⟨by decide, by decide⟩
set_option maxRecDepth 100000 in
set_option maxHeartbeats 4000000 in
theorem ownW_at (c : Int) (w : World) (hE : E0 w) : Calls Tryz.prog 6 #[.int .i64 c] w fun e w' => e = .returned (.bool true) ∧ Below w.heap.size w w' := by
  have HW := hide (works_at w hE)
  have HO : Hid (∀ W, Below w.heap.size w W → Calls Tryz.prog 21 #[.int .i64 c] W fun e w' => ∃ a d, e = .returned (.slice a (own c).length d) ∧ Src w' a (own c).length d (own c) ∧ Below W.heap.size W w') := fun W k => own_at c W (hE.p.below k)
  have HE := hide hE
  by_cases hk : known c
  · have HRY := hide (own_reply hk).1
    have HLN := hide (own_reply hk).2.1
    have HLE : Hid (c ≠ 200 → lenv (ownF c) = some 0) := fun h => own_length hk h
    have HFW := hide (ownFit c)
    obtain ⟨O, hO⟩ : ∃ O, O = own c := ⟨_, rfl⟩
    rw [← hO] at HO HRY HLN
    have HRP : Hid (∀ W a d, Below w.heap.size w W → Src W a O.length d O → Calls Tryz.prog 34 #[.slice a O.length d] W fun e w' => ∃ ad cap, e = .returned (.tuple #[.agg #[.int .i64 c, .string (strN (rsn c)), .slice ad (ownF c).length cap], .int .i64 (O.length : Nat), .nilIface]) ∧ SrcF w' ad (ownF c).length cap (ownF c) ∧ Below W.heap.size W w') := fun W a d k hs => by
      refine (reply_at a O.length d O W hs (HE.out.below k).v (HE.out.below k).e).mono fun e w' ⟨ad, cap, v, he, h1, h2, h3⟩ => ?_
      rw [HRY.out] at he h1 h2
      obtain rfl : v = .nilIface := h2
      refine ⟨ad, cap, ?_, h1, h3⟩
      rw [he]
      unfold ryC
      rw [show ((c.toNat : Nat) : Int) = c by rcases hk with rfl | rfl | rfl | rfl | rfl | rfl | rfl <;> rfl]
    have HLG : Hid (∀ W a cap, SrcF W a (ownF c).length cap (ownF c) → Calls Tryz.prog 35 #[.slice a (ownF c).length cap] W fun e w' => e = .returned (two (lenv (ownF c))) ∧ Below W.heap.size W w') := fun W a cap h => length_at a _ cap (ownF c) W h HFW.out
    obtain ⟨R, hR⟩ : ∃ R, R = strN (rsn c) := ⟨_, rfl⟩
    rw [← hR] at HRP
    clear hR hO
    rcases hk with rfl | rfl | rfl | rfl | rfl | rfl | rfl
    · rw [show ownF 200 = [] from rfl] at HRP HLG
      clear HLE HFW HRY hE
      go_enter Tryz.func6, Tryz.ntmps6
      go_wp2_with fail
      refine HW.out.mono ?_
      rintro e w1 ⟨rfl, k1⟩
      have K1 := hide k1
      clear k1 HW
      go_wp2_with fail
      refine (HO.out w1 K1.out).mono ?_
      rintro e w2 ⟨a, d, rfl, s2, k2⟩
      have S2 := hide s2
      have K2 := hide (K1.out.trans (k2.mono K1.out.size))
      clear s2 k2 HO K1
      go_wp2_with fail
      refine (HRP.out w2 a d K2.out S2.out).mono ?_
      rintro e w3 ⟨ad, cap, rfl, s3, k3⟩
      have K3 := hide (K2.out.trans (k3.mono K2.out.size))
      obtain ⟨W4, hW4⟩ : ∃ W4, W4 = w3.alloc (.cells #[.int .i64 200, .string R, .slice ad 0 cap] 73) := ⟨_, rfl⟩
      have b4 : Below w3.heap.size w3 W4 := by rw [hW4]; exact (Below.refl _ _).alloc (Nat.le_refl _) _
      have g4 : W4.heap[w3.heap.size]? = some (.cells #[.int .i64 200, .string R, .slice ad 0 cap] 73) := by rw [hW4]; exact alloc_new _ _
      have G4 := hide g4
      have HL := hide (HLG.out W4 ad cap (s3.below b4))
      have K4 := hide (K3.out.trans (b4.mono K3.out.size))
      have HW4 := hide hW4.symm
      obtain ⟨TT, hTT⟩ : ∃ TT, TT = lenv [] := ⟨_, rfl⟩
      rw [← hTT] at HL
      clear s3 k3 hW4 b4 g4 hTT HRP HLG
      go_wp2_with fail
      rw [HW4.out]
      refine HL.out.mono ?_
      rintro e w5 ⟨rfl, k5⟩
      have g5 := keepB k5 G4.out
      have e0 : w5.cell? ⟨w3.heap.size, 0, none⟩ = some (.int .i64 200) := by simp [World.cell?, g5]
      have e2 : w5.cell? ⟨w3.heap.size, 2, none⟩ = some (.slice ad 0 cap) := by simp [World.cell?, g5]
      have K5 := hide (K4.out.trans (k5.mono K4.out.size))
      have hnn : ∀ w, (binOp .eql 59 .nilIface .nilIface).run Tryz.prog w = .ok (.bool true) w := fun w => by kernel_rfl
      clear k5 g5 HL
      obtain ⟨tv, tb, htt⟩ : ∃ (tv : Int) (tb : Bool), two TT = .tuple #[.int .i64 tv, .bool tb] := by
        cases TT <;> exact ⟨_, _, rfl⟩
      rw [htt]
      clear htt
      go_wp2_with fail
      go_ret
      exact ⟨rfl, K5.out⟩
    · have hl0 := HLE.out (by decide)
      rw [hl0] at HLG
      rw [show ∀ c : Int, c ≠ 200 → ownF c = [(clN, [48]), (connN, endV)] from fun c h => by unfold ownF; rw [if_neg h]] at HRP HLG <;> try decide
      simp only [List.length_cons, List.length_nil, Nat.zero_add, Nat.reduceAdd] at HRP HLG
      clear HLE HFW HRY hE hl0
      go_enter Tryz.func6, Tryz.ntmps6
      go_wp2_with fail
      refine HW.out.mono ?_
      rintro e w1 ⟨rfl, k1⟩
      have K1 := hide k1
      clear k1 HW
      go_wp2_with fail
      refine (HO.out w1 K1.out).mono ?_
      rintro e w2 ⟨a, d, rfl, s2, k2⟩
      have S2 := hide s2
      have K2 := hide (K1.out.trans (k2.mono K1.out.size))
      clear s2 k2 HO K1
      go_wp2_with fail
      refine (HRP.out w2 a d K2.out S2.out).mono ?_
      rintro e w3 ⟨ad, cap, rfl, s3, k3⟩
      have K3 := hide (K2.out.trans (k3.mono K2.out.size))
      obtain ⟨W4, hW4⟩ : ∃ W4, W4 = w3.alloc (.cells #[.int .i64 400, .string R, .slice ad 2 cap] 73) := ⟨_, rfl⟩
      have b4 : Below w3.heap.size w3 W4 := by rw [hW4]; exact (Below.refl _ _).alloc (Nat.le_refl _) _
      have g4 : W4.heap[w3.heap.size]? = some (.cells #[.int .i64 400, .string R, .slice ad 2 cap] 73) := by rw [hW4]; exact alloc_new _ _
      have G4 := hide g4
      have HL := hide (HLG.out W4 ad cap (s3.below b4))
      have K4 := hide (K3.out.trans (b4.mono K3.out.size))
      have HW4 := hide hW4.symm
      unfold two at HL
      clear s3 k3 hW4 b4 g4 HRP HLG
      go_wp2_with fail
      rw [HW4.out]
      refine HL.out.mono ?_
      rintro e w5 ⟨rfl, k5⟩
      have g5 := keepB k5 G4.out
      have e0 : w5.cell? ⟨w3.heap.size, 0, none⟩ = some (.int .i64 400) := by simp [World.cell?, g5]
      have e2 : w5.cell? ⟨w3.heap.size, 2, none⟩ = some (.slice ad 2 cap) := by simp [World.cell?, g5]
      have K5 := hide (K4.out.trans (k5.mono K4.out.size))
      have hnn : ∀ w, (binOp .eql 59 .nilIface .nilIface).run Tryz.prog w = .ok (.bool true) w := fun w => by kernel_rfl
      clear k5 g5 HL
      go_wp2_with fail
      go_ret
      exact ⟨rfl, K5.out⟩
    · have hl0 := HLE.out (by decide)
      rw [hl0] at HLG
      rw [show ∀ c : Int, c ≠ 200 → ownF c = [(clN, [48]), (connN, endV)] from fun c h => by unfold ownF; rw [if_neg h]] at HRP HLG <;> try decide
      simp only [List.length_cons, List.length_nil, Nat.zero_add, Nat.reduceAdd] at HRP HLG
      clear HLE HFW HRY hE hl0
      go_enter Tryz.func6, Tryz.ntmps6
      go_wp2_with fail
      refine HW.out.mono ?_
      rintro e w1 ⟨rfl, k1⟩
      have K1 := hide k1
      clear k1 HW
      go_wp2_with fail
      refine (HO.out w1 K1.out).mono ?_
      rintro e w2 ⟨a, d, rfl, s2, k2⟩
      have S2 := hide s2
      have K2 := hide (K1.out.trans (k2.mono K1.out.size))
      clear s2 k2 HO K1
      go_wp2_with fail
      refine (HRP.out w2 a d K2.out S2.out).mono ?_
      rintro e w3 ⟨ad, cap, rfl, s3, k3⟩
      have K3 := hide (K2.out.trans (k3.mono K2.out.size))
      obtain ⟨W4, hW4⟩ : ∃ W4, W4 = w3.alloc (.cells #[.int .i64 403, .string R, .slice ad 2 cap] 73) := ⟨_, rfl⟩
      have b4 : Below w3.heap.size w3 W4 := by rw [hW4]; exact (Below.refl _ _).alloc (Nat.le_refl _) _
      have g4 : W4.heap[w3.heap.size]? = some (.cells #[.int .i64 403, .string R, .slice ad 2 cap] 73) := by rw [hW4]; exact alloc_new _ _
      have G4 := hide g4
      have HL := hide (HLG.out W4 ad cap (s3.below b4))
      have K4 := hide (K3.out.trans (b4.mono K3.out.size))
      have HW4 := hide hW4.symm
      unfold two at HL
      clear s3 k3 hW4 b4 g4 HRP HLG
      go_wp2_with fail
      rw [HW4.out]
      refine HL.out.mono ?_
      rintro e w5 ⟨rfl, k5⟩
      have g5 := keepB k5 G4.out
      have e0 : w5.cell? ⟨w3.heap.size, 0, none⟩ = some (.int .i64 403) := by simp [World.cell?, g5]
      have e2 : w5.cell? ⟨w3.heap.size, 2, none⟩ = some (.slice ad 2 cap) := by simp [World.cell?, g5]
      have K5 := hide (K4.out.trans (k5.mono K4.out.size))
      have hnn : ∀ w, (binOp .eql 59 .nilIface .nilIface).run Tryz.prog w = .ok (.bool true) w := fun w => by kernel_rfl
      clear k5 g5 HL
      go_wp2_with fail
      go_ret
      exact ⟨rfl, K5.out⟩
    · have hl0 := HLE.out (by decide)
      rw [hl0] at HLG
      rw [show ∀ c : Int, c ≠ 200 → ownF c = [(clN, [48]), (connN, endV)] from fun c h => by unfold ownF; rw [if_neg h]] at HRP HLG <;> try decide
      simp only [List.length_cons, List.length_nil, Nat.zero_add, Nat.reduceAdd] at HRP HLG
      clear HLE HFW HRY hE hl0
      go_enter Tryz.func6, Tryz.ntmps6
      go_wp2_with fail
      refine HW.out.mono ?_
      rintro e w1 ⟨rfl, k1⟩
      have K1 := hide k1
      clear k1 HW
      go_wp2_with fail
      refine (HO.out w1 K1.out).mono ?_
      rintro e w2 ⟨a, d, rfl, s2, k2⟩
      have S2 := hide s2
      have K2 := hide (K1.out.trans (k2.mono K1.out.size))
      clear s2 k2 HO K1
      go_wp2_with fail
      refine (HRP.out w2 a d K2.out S2.out).mono ?_
      rintro e w3 ⟨ad, cap, rfl, s3, k3⟩
      have K3 := hide (K2.out.trans (k3.mono K2.out.size))
      obtain ⟨W4, hW4⟩ : ∃ W4, W4 = w3.alloc (.cells #[.int .i64 501, .string R, .slice ad 2 cap] 73) := ⟨_, rfl⟩
      have b4 : Below w3.heap.size w3 W4 := by rw [hW4]; exact (Below.refl _ _).alloc (Nat.le_refl _) _
      have g4 : W4.heap[w3.heap.size]? = some (.cells #[.int .i64 501, .string R, .slice ad 2 cap] 73) := by rw [hW4]; exact alloc_new _ _
      have G4 := hide g4
      have HL := hide (HLG.out W4 ad cap (s3.below b4))
      have K4 := hide (K3.out.trans (b4.mono K3.out.size))
      have HW4 := hide hW4.symm
      unfold two at HL
      clear s3 k3 hW4 b4 g4 HRP HLG
      go_wp2_with fail
      rw [HW4.out]
      refine HL.out.mono ?_
      rintro e w5 ⟨rfl, k5⟩
      have g5 := keepB k5 G4.out
      have e0 : w5.cell? ⟨w3.heap.size, 0, none⟩ = some (.int .i64 501) := by simp [World.cell?, g5]
      have e2 : w5.cell? ⟨w3.heap.size, 2, none⟩ = some (.slice ad 2 cap) := by simp [World.cell?, g5]
      have K5 := hide (K4.out.trans (k5.mono K4.out.size))
      have hnn : ∀ w, (binOp .eql 59 .nilIface .nilIface).run Tryz.prog w = .ok (.bool true) w := fun w => by kernel_rfl
      clear k5 g5 HL
      go_wp2_with fail
      go_ret
      exact ⟨rfl, K5.out⟩
    · have hl0 := HLE.out (by decide)
      rw [hl0] at HLG
      rw [show ∀ c : Int, c ≠ 200 → ownF c = [(clN, [48]), (connN, endV)] from fun c h => by unfold ownF; rw [if_neg h]] at HRP HLG <;> try decide
      simp only [List.length_cons, List.length_nil, Nat.zero_add, Nat.reduceAdd] at HRP HLG
      clear HLE HFW HRY hE hl0
      go_enter Tryz.func6, Tryz.ntmps6
      go_wp2_with fail
      refine HW.out.mono ?_
      rintro e w1 ⟨rfl, k1⟩
      have K1 := hide k1
      clear k1 HW
      go_wp2_with fail
      refine (HO.out w1 K1.out).mono ?_
      rintro e w2 ⟨a, d, rfl, s2, k2⟩
      have S2 := hide s2
      have K2 := hide (K1.out.trans (k2.mono K1.out.size))
      clear s2 k2 HO K1
      go_wp2_with fail
      refine (HRP.out w2 a d K2.out S2.out).mono ?_
      rintro e w3 ⟨ad, cap, rfl, s3, k3⟩
      have K3 := hide (K2.out.trans (k3.mono K2.out.size))
      obtain ⟨W4, hW4⟩ : ∃ W4, W4 = w3.alloc (.cells #[.int .i64 502, .string R, .slice ad 2 cap] 73) := ⟨_, rfl⟩
      have b4 : Below w3.heap.size w3 W4 := by rw [hW4]; exact (Below.refl _ _).alloc (Nat.le_refl _) _
      have g4 : W4.heap[w3.heap.size]? = some (.cells #[.int .i64 502, .string R, .slice ad 2 cap] 73) := by rw [hW4]; exact alloc_new _ _
      have G4 := hide g4
      have HL := hide (HLG.out W4 ad cap (s3.below b4))
      have K4 := hide (K3.out.trans (b4.mono K3.out.size))
      have HW4 := hide hW4.symm
      unfold two at HL
      clear s3 k3 hW4 b4 g4 HRP HLG
      go_wp2_with fail
      rw [HW4.out]
      refine HL.out.mono ?_
      rintro e w5 ⟨rfl, k5⟩
      have g5 := keepB k5 G4.out
      have e0 : w5.cell? ⟨w3.heap.size, 0, none⟩ = some (.int .i64 502) := by simp [World.cell?, g5]
      have e2 : w5.cell? ⟨w3.heap.size, 2, none⟩ = some (.slice ad 2 cap) := by simp [World.cell?, g5]
      have K5 := hide (K4.out.trans (k5.mono K4.out.size))
      have hnn : ∀ w, (binOp .eql 59 .nilIface .nilIface).run Tryz.prog w = .ok (.bool true) w := fun w => by kernel_rfl
      clear k5 g5 HL
      go_wp2_with fail
      go_ret
      exact ⟨rfl, K5.out⟩
    · have hl0 := HLE.out (by decide)
      rw [hl0] at HLG
      rw [show ∀ c : Int, c ≠ 200 → ownF c = [(clN, [48]), (connN, endV)] from fun c h => by unfold ownF; rw [if_neg h]] at HRP HLG <;> try decide
      simp only [List.length_cons, List.length_nil, Nat.zero_add, Nat.reduceAdd] at HRP HLG
      clear HLE HFW HRY hE hl0
      go_enter Tryz.func6, Tryz.ntmps6
      go_wp2_with fail
      refine HW.out.mono ?_
      rintro e w1 ⟨rfl, k1⟩
      have K1 := hide k1
      clear k1 HW
      go_wp2_with fail
      refine (HO.out w1 K1.out).mono ?_
      rintro e w2 ⟨a, d, rfl, s2, k2⟩
      have S2 := hide s2
      have K2 := hide (K1.out.trans (k2.mono K1.out.size))
      clear s2 k2 HO K1
      go_wp2_with fail
      refine (HRP.out w2 a d K2.out S2.out).mono ?_
      rintro e w3 ⟨ad, cap, rfl, s3, k3⟩
      have K3 := hide (K2.out.trans (k3.mono K2.out.size))
      obtain ⟨W4, hW4⟩ : ∃ W4, W4 = w3.alloc (.cells #[.int .i64 503, .string R, .slice ad 2 cap] 73) := ⟨_, rfl⟩
      have b4 : Below w3.heap.size w3 W4 := by rw [hW4]; exact (Below.refl _ _).alloc (Nat.le_refl _) _
      have g4 : W4.heap[w3.heap.size]? = some (.cells #[.int .i64 503, .string R, .slice ad 2 cap] 73) := by rw [hW4]; exact alloc_new _ _
      have G4 := hide g4
      have HL := hide (HLG.out W4 ad cap (s3.below b4))
      have K4 := hide (K3.out.trans (b4.mono K3.out.size))
      have HW4 := hide hW4.symm
      unfold two at HL
      clear s3 k3 hW4 b4 g4 HRP HLG
      go_wp2_with fail
      rw [HW4.out]
      refine HL.out.mono ?_
      rintro e w5 ⟨rfl, k5⟩
      have g5 := keepB k5 G4.out
      have e0 : w5.cell? ⟨w3.heap.size, 0, none⟩ = some (.int .i64 503) := by simp [World.cell?, g5]
      have e2 : w5.cell? ⟨w3.heap.size, 2, none⟩ = some (.slice ad 2 cap) := by simp [World.cell?, g5]
      have K5 := hide (K4.out.trans (k5.mono K4.out.size))
      have hnn : ∀ w, (binOp .eql 59 .nilIface .nilIface).run Tryz.prog w = .ok (.bool true) w := fun w => by kernel_rfl
      clear k5 g5 HL
      go_wp2_with fail
      go_ret
      exact ⟨rfl, K5.out⟩
    · have hl0 := HLE.out (by decide)
      rw [hl0] at HLG
      rw [show ∀ c : Int, c ≠ 200 → ownF c = [(clN, [48]), (connN, endV)] from fun c h => by unfold ownF; rw [if_neg h]] at HRP HLG <;> try decide
      simp only [List.length_cons, List.length_nil, Nat.zero_add, Nat.reduceAdd] at HRP HLG
      clear HLE HFW HRY hE hl0
      go_enter Tryz.func6, Tryz.ntmps6
      go_wp2_with fail
      refine HW.out.mono ?_
      rintro e w1 ⟨rfl, k1⟩
      have K1 := hide k1
      clear k1 HW
      go_wp2_with fail
      refine (HO.out w1 K1.out).mono ?_
      rintro e w2 ⟨a, d, rfl, s2, k2⟩
      have S2 := hide s2
      have K2 := hide (K1.out.trans (k2.mono K1.out.size))
      clear s2 k2 HO K1
      go_wp2_with fail
      refine (HRP.out w2 a d K2.out S2.out).mono ?_
      rintro e w3 ⟨ad, cap, rfl, s3, k3⟩
      have K3 := hide (K2.out.trans (k3.mono K2.out.size))
      obtain ⟨W4, hW4⟩ : ∃ W4, W4 = w3.alloc (.cells #[.int .i64 504, .string R, .slice ad 2 cap] 73) := ⟨_, rfl⟩
      have b4 : Below w3.heap.size w3 W4 := by rw [hW4]; exact (Below.refl _ _).alloc (Nat.le_refl _) _
      have g4 : W4.heap[w3.heap.size]? = some (.cells #[.int .i64 504, .string R, .slice ad 2 cap] 73) := by rw [hW4]; exact alloc_new _ _
      have G4 := hide g4
      have HL := hide (HLG.out W4 ad cap (s3.below b4))
      have K4 := hide (K3.out.trans (b4.mono K3.out.size))
      have HW4 := hide hW4.symm
      unfold two at HL
      clear s3 k3 hW4 b4 g4 HRP HLG
      go_wp2_with fail
      rw [HW4.out]
      refine HL.out.mono ?_
      rintro e w5 ⟨rfl, k5⟩
      have g5 := keepB k5 G4.out
      have e0 : w5.cell? ⟨w3.heap.size, 0, none⟩ = some (.int .i64 504) := by simp [World.cell?, g5]
      have e2 : w5.cell? ⟨w3.heap.size, 2, none⟩ = some (.slice ad 2 cap) := by simp [World.cell?, g5]
      have K5 := hide (K4.out.trans (k5.mono K4.out.size))
      have hnn : ∀ w, (binOp .eql 59 .nilIface .nilIface).run Tryz.prog w = .ok (.bool true) w := fun w => by kernel_rfl
      clear k5 g5 HL
      go_wp2_with fail
      go_ret
      exact ⟨rfl, K5.out⟩
  · have HO2 := HO
    rw [own_no hk] at HO2
    unfold known at hk
    have q0 : (c == 200) = false := by simp; omega
    have q1 : (c == 400) = false := by simp; omega
    have q2 : (c == 403) = false := by simp; omega
    have q3 : (c == 501) = false := by simp; omega
    have q4 : (c == 502) = false := by simp; omega
    have q5 : (c == 503) = false := by simp; omega
    have q6 : (c == 504) = false := by simp; omega
    clear hk HO hE
    go_enter Tryz.func6, Tryz.ntmps6
    go_wp2_with fail
    refine HW.out.mono ?_
    rintro e w1 ⟨rfl, k1⟩
    have K1 := hide k1
    clear k1 HW
    go_wp2_with fail
    refine (HO2.out w1 K1.out).mono ?_
    rintro e w2 ⟨a, d, rfl, _, k2⟩
    have K2 := hide (K1.out.trans (k2.mono K1.out.size))
    clear k2
    go_wp2_with fail
    go_ret
    exact ⟨rfl, K2.out⟩
end Go.Proofs.YtccoddmdlbdfjaaGreatDoor
