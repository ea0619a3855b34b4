/-
  The walk of PortNone: whatever the event and the destination are, the call answers true and turns nothing that was there.
-/
import Derived.Test.YtjojhnkibgkleaaT
set_option linter.unusedSimpArgs false
set_option linter.unusedVariables false
set_option maxRecDepth 8000
namespace Go.Proofs.Ytjojhnkibgkleaa
open Go.RowKit Go.Lib

def zPort : Array Value := #[.bool false, .int .i64 0, .slice none 0 0, .slice none 0 0, .slice none 0 0]
set_option maxRecDepth 100000 in
set_option maxHeartbeats 8000000 in
theorem none_walk (E : Ev) (d : De) (w : World) (hE0 : E.Ok) (hd0 : d.nm.size ≤ maxLen) : Calls Try.prog 8 #[.agg (evV E), .agg (deV d)] w fun e w' => e = .returned (.bool true) ∧ Below w.heap.size w w' := by
  clear hE0 hd0
  obtain ⟨k, e, N, t, ra, rn, rc⟩ := E
  obtain ⟨a1, a2, a3, a4, nm, po⟩ := d
  unfold evV deV
  have hcc := fun (w : World) (C : Array Value) (n c : Nat) => Lib.run_convert_bytes_const (P := Try.prog) w 45 5 C n c Try.underlying45 Try.underlying5
  go_enter Try.func8, Try.ntmps8
  go_wp2_with fail
  have A2 : Hid (Below w.heap.size w ((w.alloc (.cells #[.int .i64 k, .int .i64 e, .int .i64 N, .string t, .slice ra rn rc] 33)).alloc (.cells #[.int .u8 a1, .int .u8 a2, .int .u8 a3, .int .u8 a4, .string nm, .int .i64 po] 39))) := ((Below.refl _ _).alloc (Nat.le_refl _) _).alloc (by simp) _
  refine (works_at _).mono ?_
  rintro x w1 ⟨rfl, hb⟩
  have E1 : Hid (w1.heap[w.heap.size]? = some (.cells #[.int .i64 k, .int .i64 e, .int .i64 N, .string t, .slice ra rn rc] 33)) := (hb.block _ (by simp; omega)).trans (alloc_old _ (alloc_new _ _))
  have D1 : Hid (w1.heap[w.heap.size + 1]? = some (.cells #[.int .u8 a1, .int .u8 a2, .int .u8 a3, .int .u8 a4, .string nm, .int .i64 po] 39)) := (hb.block _ (by simp)).trans (alloc_new2 _ _ _)
  have B1 := hide (A2.out.trans (hb.mono A2.out.size))
  have hz1 : w.heap.size + 1 < w1.heap.size := lt_of_some D1.out
  obtain ⟨q0, q1, q2, q3, q4⟩ : (w1.alloc (.cells #[.bool false, .int .i64 0, .slice none 0 0, .slice none 0 0, .slice none 0 0] 80)).cell? ⟨w.heap.size, 0, none⟩ = some (.int .i64 k) ∧ (w1.alloc (.cells #[.bool false, .int .i64 0, .slice none 0 0, .slice none 0 0, .slice none 0 0] 80)).cell? ⟨w.heap.size, 1, none⟩ = some (.int .i64 e) ∧ (w1.alloc (.cells #[.bool false, .int .i64 0, .slice none 0 0, .slice none 0 0, .slice none 0 0] 80)).cell? ⟨w.heap.size, 2, none⟩ = some (.int .i64 N) ∧ (w1.alloc (.cells #[.bool false, .int .i64 0, .slice none 0 0, .slice none 0 0, .slice none 0 0] 80)).cell? ⟨w.heap.size, 3, none⟩ = some (.string t) ∧ (w1.alloc (.cells #[.bool false, .int .i64 0, .slice none 0 0, .slice none 0 0, .slice none 0 0] 80)).cell? ⟨w.heap.size, 4, none⟩ = some (.slice ra rn rc) := by
    have h := alloc_old (.cells #[.bool false, .int .i64 0, .slice none 0 0, .slice none 0 0, .slice none 0 0] 80) E1.out
    generalize (w1.alloc (.cells #[.bool false, .int .i64 0, .slice none 0 0, .slice none 0 0, .slice none 0 0] 80)) = Y at h
    simp [World.cell?, h]
  clear hb
  go_wp2_with fail
  clear q0 q1 q2 q3 q4
  obtain ⟨X, hX⟩ : ∃ X, X = w1.alloc (.cells zPort 80) := ⟨_, rfl⟩
  unfold zPort at hX
  rw [← hX]
  obtain ⟨zb, hzb⟩ : ∃ zb, zb = w1.heap.size := ⟨_, rfl⟩
  rw [← hzb]
  have hz0 : X.heap[zb]? = some (.cells #[.bool false, .int .i64 0, .slice none 0 0, .slice none 0 0, .slice none 0 0] 80) := by rw [hX, hzb]; exact alloc_new _ _
  have EX := hide ((by rw [hX]; exact alloc_old _ E1.out) : X.heap[w.heap.size]? = some (.cells #[.int .i64 k, .int .i64 e, .int .i64 N, .string t, .slice ra rn rc] 33))
  have DX := hide ((by rw [hX]; exact alloc_old _ D1.out) : X.heap[w.heap.size + 1]? = some (.cells #[.int .u8 a1, .int .u8 a2, .int .u8 a3, .int .u8 a4, .string nm, .int .i64 po] 39))
  have BX : Hid (Below w.heap.size w X) := by rw [hX]; exact B1.out.alloc B1.out.size _
  have NP : Hid (∀ W, NoPort W (.pointer none)) := fun W => Or.inl rfl
  have NZ : Hid (∀ W, Below X.heap.size X W → NoPort W (.pointer (some ⟨zb, 0, none⟩))) := fun W kk => Or.inr ⟨zb, rfl, (kk.cell (p := ⟨zb, 0, none⟩) (lt_of_some hz0)).trans (by simp [World.cell?, hz0])⟩
  have CE : Hid (∀ W, Below X.heap.size X W → W.cell? ⟨w.heap.size, 0, none⟩ = some (.int .i64 k) ∧ W.cell? ⟨w.heap.size, 1, none⟩ = some (.int .i64 e) ∧ W.cell? ⟨w.heap.size, 2, none⟩ = some (.int .i64 N) ∧ W.cell? ⟨w.heap.size, 3, none⟩ = some (.string t) ∧ W.cell? ⟨w.heap.size, 4, none⟩ = some (.slice ra rn rc)) := fun W kk => by
    have hb := (kk.block _ (lt_of_some EX.out)).trans EX.out
    simp [World.cell?, hb]
  have CD : Hid (∀ W, Below X.heap.size X W → W.cell? ⟨w.heap.size + 1, 0, none⟩ = some (.int .u8 a1) ∧ W.cell? ⟨w.heap.size + 1, 1, none⟩ = some (.int .u8 a2) ∧ W.cell? ⟨w.heap.size + 1, 2, none⟩ = some (.int .u8 a3) ∧ W.cell? ⟨w.heap.size + 1, 3, none⟩ = some (.int .u8 a4) ∧ W.cell? ⟨w.heap.size + 1, 4, none⟩ = some (.string nm) ∧ W.cell? ⟨w.heap.size + 1, 5, none⟩ = some (.int .i64 po)) := fun W kk => by
    have hb := (kk.block _ (lt_of_some DX.out)).trans DX.out
    simp [World.cell?, hb]
  have K0 : Hid (Below X.heap.size X X) := Below.refl _ _
  clear hX hzb hz0 E1 D1 EX DX
  refine (event_un (.pointer none) k e N t ra rn rc _ (NP.out _)).mono ?_
  rintro x W1 ⟨rfl, hb⟩
  have K1 := hide (K0.out.trans (hb.mono K0.out.size))
  clear hb
  obtain ⟨q0, q1, q2, q3, q4⟩ := CE.out _ K1.out
  go_wp2_with fail
  refine (event_un (.pointer (some ⟨zb, 0, none⟩)) k e N t ra rn rc _ (NZ.out _ K1.out)).mono ?_
  rintro x W2 ⟨rfl, hb⟩
  have K2 := hide (K1.out.trans (hb.mono K1.out.size))
  clear hb
  clear q0 q1 q2 q3 q4
  go_wp2_with fail
  refine (accept_un (.pointer none) _ (NP.out _)).mono ?_
  rintro x W3 ⟨rfl, rfl⟩
  go_wp2_with fail
  refine (accept_un (.pointer (some ⟨zb, 0, none⟩)) _ (NZ.out _ K2.out)).mono ?_
  rintro x W4 ⟨rfl, rfl⟩
  go_wp2_with fail
  refine (state_no (.pointer none) 0 1 _ ((NP.out _).nowhere 0)).mono ?_
  rintro x W5 ⟨rfl, hb⟩
  have K5 := hide (K2.out.trans (hb.mono K2.out.size))
  clear hb
  go_wp2_with fail
  refine (state_no (.pointer (some ⟨zb, 0, none⟩)) 0 1 _ ((NZ.out _ K5.out).nowhere 0)).mono ?_
  rintro x W6 ⟨rfl, hb⟩
  have K6 := hide (K5.out.trans (hb.mono K5.out.size))
  clear hb
  obtain ⟨q0, q1, q2, q3, q4, q5⟩ := CD.out _ K6.out
  go_wp2_with fail
  refine (dial_un (.pointer none) ⟨a1, a2, a3, a4, nm, po⟩ _ (NP.out _)).mono ?_
  rintro x W7 ⟨rfl, hb⟩
  have K7 := hide (K6.out.trans (hb.mono K6.out.size))
  clear hb
  clear q0 q1 q2 q3 q4 q5
  obtain ⟨q0, q1, q2, q3, q4, q5⟩ := CD.out _ K7.out
  go_wp2_with fail
  refine (dial_un (.pointer (some ⟨zb, 0, none⟩)) ⟨a1, a2, a3, a4, nm, po⟩ _ (NZ.out _ K7.out)).mono ?_
  rintro x W8 ⟨rfl, hb⟩
  have K8 := hide (K7.out.trans (hb.mono K7.out.size))
  clear hb
  clear q0 q1 q2 q3 q4 q5
  go_wp2_with fail
  refine (gram_un (.pointer none) _ (NP.out _)).mono ?_
  rintro x W9 ⟨rfl, rfl⟩
  go_wp2_with fail
  refine (gram_un (.pointer (some ⟨zb, 0, none⟩)) _ (NZ.out _ K8.out)).mono ?_
  rintro x W10 ⟨rfl, rfl⟩
  go_wp2_with fail
  refine (fin_no (.pointer none) 0 1 _ ((NP.out _).nowhere 0) (Or.inl rfl)).mono ?_
  rintro x W11 ⟨rfl, hb⟩
  have K11 := hide (K8.out.trans (hb.mono K8.out.size))
  clear hb
  go_wp2_with fail
  refine (fin_no (.pointer (some ⟨zb, 0, none⟩)) 0 1 _ ((NZ.out _ K11.out).nowhere 0) (Or.inl rfl)).mono ?_
  rintro x W12 ⟨rfl, hb⟩
  have K12 := hide (K11.out.trans (hb.mono K11.out.size))
  clear hb
  go_wp2_with fail
  refine (close_no (.pointer none) 0 1 _ ((NP.out _).nowhere 0) (Or.inl rfl)).mono ?_
  rintro x W13 ⟨rfl, hb⟩
  have K13 := hide (K12.out.trans (hb.mono K12.out.size))
  clear hb
  go_wp2_with fail
  refine (close_no (.pointer (some ⟨zb, 0, none⟩)) 0 1 _ ((NZ.out _ K13.out).nowhere 0) (Or.inl rfl)).mono ?_
  rintro x W14 ⟨rfl, hb⟩
  have K14 := hide (K13.out.trans (hb.mono K13.out.size))
  clear hb
  go_wp2_with fail
  refine (post_un (.pointer none) none 0 0 _ (NP.out _)).mono ?_
  rintro x W15 ⟨rfl, rfl⟩
  go_wp2_with fail
  refine (post_un (.pointer (some ⟨zb, 0, none⟩)) none 0 0 _ (NZ.out _ K14.out)).mono ?_
  rintro x W16 ⟨rfl, rfl⟩
  have A16s := hide (K14.out.alloc K14.out.size (.cells #[.int .u8 120] 5 (1, 2)))
  go_wp2_with fail
  refine (send_no (.pointer none) 0 1 _ 1 1 (by omega) _ ((NP.out _).nowhere 0)).mono ?_
  rintro x W17 ⟨rfl, hb⟩
  have K17 := hide (A16s.out.trans (hb.mono A16s.out.size))
  clear hb
  have A17s := hide (K17.out.alloc K17.out.size (.cells #[.int .u8 120] 5 (1, 2)))
  go_wp2_with fail
  refine (send_no (.pointer (some ⟨zb, 0, none⟩)) 0 1 _ 1 1 (by omega) _ ((NZ.out _ A17s.out).nowhere 0)).mono ?_
  rintro x W18 ⟨rfl, hb⟩
  have K18 := hide (A17s.out.trans (hb.mono A17s.out.size))
  clear hb
  go_wp2_with fail
  refine (room_no (.pointer none) 0 1 _ ((NP.out _).nowhere 0)).mono ?_
  rintro x W19 ⟨rfl, hb⟩
  have K19 := hide (K18.out.trans (hb.mono K18.out.size))
  clear hb
  go_wp2_with fail
  refine (room_no (.pointer (some ⟨zb, 0, none⟩)) 0 1 _ ((NZ.out _ K19.out).nowhere 0)).mono ?_
  rintro x W20 ⟨rfl, hb⟩
  have K20 := hide (K19.out.trans (hb.mono K19.out.size))
  clear hb
  go_wp2_with fail
  refine (waiting_no (.pointer none) 0 1 _ ((NP.out _).nowhere 0)).mono ?_
  rintro x W21 ⟨rfl, hb⟩
  have K21 := hide (K20.out.trans (hb.mono K20.out.size))
  clear hb
  go_wp2_with fail
  refine (waiting_no (.pointer (some ⟨zb, 0, none⟩)) 0 1 _ ((NZ.out _ K21.out).nowhere 0)).mono ?_
  rintro x W22 ⟨rfl, hb⟩
  have K22 := hide (K21.out.trans (hb.mono K21.out.size))
  clear hb
  go_wp2_with fail
  refine (used_un (.pointer none) _ (NP.out _)).mono ?_
  rintro x W23 ⟨rfl, rfl⟩
  go_wp2_with fail
  refine (used_un (.pointer (some ⟨zb, 0, none⟩)) _ (NZ.out _ K22.out)).mono ?_
  rintro x W24 ⟨rfl, rfl⟩
  go_wp2_with fail
  refine (take_no (.pointer none) 0 1 1 _ ((NP.out _).nowhere 0)).mono ?_
  rintro x W25 ⟨rfl, hb⟩
  have K25 := hide (K22.out.trans (hb.mono K22.out.size))
  clear hb
  go_wp2_with fail
  refine (take_no (.pointer (some ⟨zb, 0, none⟩)) 0 1 1 _ ((NZ.out _ K25.out).nowhere 0)).mono ?_
  rintro x W26 ⟨rfl, hb⟩
  have K26 := hide (K25.out.trans (hb.mono K25.out.size))
  clear hb
  go_wp2_with fail
  refine (peek_no (.pointer none) 0 1 1 _ ((NP.out _).nowhere 0)).mono ?_
  rintro x W27 ⟨rfl, hb⟩
  have K27 := hide (K26.out.trans (hb.mono K26.out.size))
  clear hb
  go_wp2_with fail
  refine (peek_no (.pointer (some ⟨zb, 0, none⟩)) 0 1 1 _ ((NZ.out _ K27.out).nowhere 0)).mono ?_
  rintro x W28 ⟨rfl, hb⟩
  have K28 := hide (K27.out.trans (hb.mono K27.out.size))
  clear hb
  go_wp2_with fail
  refine (outs_un (.pointer none) _ (NP.out _)).mono ?_
  rintro x W29 ⟨rfl, rfl⟩
  go_wp2_with fail
  refine (outs_un (.pointer (some ⟨zb, 0, none⟩)) _ (NZ.out _ K28.out)).mono ?_
  rintro x W30 ⟨rfl, rfl⟩
  go_wp2_with fail
  refine (last_no (.pointer none) 0 1 _ ((NP.out _).nowhere 0)).mono ?_
  rintro x W31 ⟨rfl, hb⟩
  have K31 := hide (K28.out.trans (hb.mono K28.out.size))
  clear hb
  go_wp2_with fail
  refine (last_no (.pointer (some ⟨zb, 0, none⟩)) 0 1 _ ((NZ.out _ K31.out).nowhere 0)).mono ?_
  rintro x W32 ⟨rfl, hb⟩
  have K32 := hide (K31.out.trans (hb.mono K31.out.size))
  clear hb
  go_wp2_with fail
  refine (ended_no (.pointer none) 0 1 _ ((NP.out _).nowhere 0)).mono ?_
  rintro x W33 ⟨rfl, hb⟩
  have K33 := hide (K32.out.trans (hb.mono K32.out.size))
  clear hb
  go_wp2_with fail
  refine (ended_no (.pointer (some ⟨zb, 0, none⟩)) 0 1 _ ((NZ.out _ K33.out).nowhere 0)).mono ?_
  rintro x W34 ⟨rfl, hb⟩
  have K34 := hide (K33.out.trans (hb.mono K33.out.size))
  clear hb
  go_wp2_with fail
  refine (clone_un' (.pointer none) _ (NP.out _)).mono ?_
  rintro x W35 ⟨rfl, rfl⟩
  go_wp2_with fail
  refine (clone_un' (.pointer (some ⟨zb, 0, none⟩)) _ (NZ.out _ K34.out)).mono ?_
  rintro x W36 ⟨rfl, rfl⟩
  go_wp2_with fail
  go_ret
  exact ⟨rfl, BX.out.trans (K34.out.mono BX.out.size)⟩

end Go.Proofs.Ytjojhnkibgkleaa
