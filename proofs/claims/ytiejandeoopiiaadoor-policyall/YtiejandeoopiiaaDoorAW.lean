/-
  PolicyAll's walk; conditions as its theorem has them.
-/
import Derived.Test.YtiejandeoopiiaaDoorAN
set_option linter.unusedSimpArgs false
set_option linter.unusedVariables false
namespace Go.Proofs.YtiejandeoopiiaaDoor
open Go.RowKit
theorem srcR_one {w : World} {g : Nat} {r : Ru} (h : w.heap[g]? = some (.cells (ruC r).toArray 33)) (hr : r.ok) : SrcR w (some ⟨g, 0, none⟩) 1 1 [r] := by
  refine ⟨rfl, Nat.le_refl _, by unfold maxLen; decide, (fun e => by cases e), fun _ => ⟨_, _, rfl, lt_of_some h, fun j u hu => ?_⟩, fun q hq => by simp at hq; subst hq; exact hr⟩
  rw [Nat.zero_add]
  simp only [World.cell?, h]
  simpa [ruCs] using hu
theorem putL_ok {l rs : List Ru} (h : okRs l) (h2 : okRs rs) (t : Int) : okRs (putL l t rs) := by
  intro r hr
  unfold putL at hr
  split at hr
  · rcases List.mem_append.1 hr with hr | hr
    · exact h r (List.mem_of_mem_take hr)
    · rcases List.mem_append.1 hr with hr | hr
      · exact h2 r hr
      · exact h r (List.mem_of_mem_drop hr)
  · cases hr
set_option maxRecDepth 100000 in
set_option maxHeartbeats 4000000 in
theorem all_walk (a : Option Addr) (n c : Nat) (l : List Ru) (ad : Ad) (pt : Int) (w : World) (hT : Tabs w) (h : SrcR w a n c l) (hz : n * 48 ≤ 140737488351232) (had : ad.ok) (hw : (Lit.int .i64 pt).wf = true) : Calls Tryd.prog 5 #[.slice a n c, adV ad, .int .i64 pt] w fun e w' => e = .returned (.bool true) ∧ Below w.heap.size w w' := by
  obtain ⟨a0, a1, a2, a3⟩ := ad
  simp only [adV]
  obtain ⟨w0, hw0⟩ : ∃ w0, w0 = w.alloc (.cells #[.int .u8 (a0 : Nat), .int .u8 (a1 : Nat), .int .u8 (a2 : Nat), .int .u8 (a3 : Nat)] 24) := ⟨_, rfl⟩
  have B0 : Hid (Below w.heap.size w w0) := by rw [hw0]; exact (Below.refl _ _).alloc (Nat.le_refl _) _
  have r0 : Hid (w0.heap[w.heap.size]? = some (.cells #[.int .u8 (a0 : Nat), .int .u8 (a1 : Nat), .int .u8 (a2 : Nat), .int .u8 (a3 : Nat)] 24)) := by rw [hw0]; exact alloc_new _ _
  have HW0 := hide hw0
  have T0 := hide (hT.below B0.out)
  have S0 := hide (h.below B0.out)
  have HAD := hide had
  have HSRC := hide h
  have HTAB := hide hT
  have HLEN := hide h.hlen
  have hc := h.hcap
  have hm := h.hmax
  unfold maxLen at hm
  clear hw0 hT h had hw
  go_enter Tryd.func5, Tryd.ntmps5
  go_wp2_with fail
  rw [← HW0.out]
  refine (works_at _ T0.out).mono ?_
  rintro e w1 ⟨rfl, hb⟩
  have B1 := hide (B0.out.trans (hb.mono B0.out.size))
  have r1 := hide (keepB hb r0.out)
  have T1 := hide (T0.out.below hb)
  have S1 := hide (S0.out.below hb)
  clear hb
  have s1 := r1.out
  have e0 : w1.cell? ⟨w.heap.size, 0, none⟩ = some (.int .u8 (a0 : Nat)) := by simp [World.cell?, s1]
  have e1 : w1.cell? ⟨w.heap.size, 1, none⟩ = some (.int .u8 (a1 : Nat)) := by simp [World.cell?, s1]
  have e2 : w1.cell? ⟨w.heap.size, 2, none⟩ = some (.int .u8 (a2 : Nat)) := by simp [World.cell?, s1]
  have e3 : w1.cell? ⟨w.heap.size, 3, none⟩ = some (.int .u8 (a3 : Nat)) := by simp [World.cell?, s1]
  clear s1
  go_wp2_with fail
  go_region_held3 (fun w' => w'.cell? ⟨w.heap.size, 0, none⟩ = some (.int .u8 (a0 : Nat)) ∧ w'.cell? ⟨w.heap.size, 1, none⟩ = some (.int .u8 (a1 : Nat)) ∧ w'.cell? ⟨w.heap.size, 2, none⟩ = some (.int .u8 (a2 : Nat)) ∧ w'.cell? ⟨w.heap.size, 3, none⟩ = some (.int .u8 (a3 : Nat))) (go_keep) (first
    | (go_at_call 12; refine (among_at pt _).mono ?_; rintro e wp ⟨m, hm1, rfl, rfl⟩))
  all_goals go_wp2_with fail
  all_goals (
    obtain ⟨w4, hw4⟩ : ∃ w4, w4 = (((w1.alloc (.cells #[.int .u8 (a0 : Nat), .int .u8 (a1 : Nat), .int .u8 (a2 : Nat), .int .u8 (a3 : Nat), .string ⟨#[]⟩, .int .i64 (1 + (m : Int))] 28)).alloc (.cells #[.bool false, .int .u8 0, .int .u8 0, .int .u8 0, .int .u8 0, .int .i64 0, .string ⟨#[]⟩, .int .i64 1, .int .i64 65535] 33)).alloc (.cells #[.bool false, .int .u8 0, .int .u8 0, .int .u8 0, .int .u8 0, .int .i64 0, .string ⟨#[]⟩, .int .i64 1, .int .i64 65535] 33)).drew := ⟨_, rfl⟩
    have k4 : Below w1.heap.size w1 w4 := by rw [hw4]; exact ((((Below.refl _ _).alloc (Nat.le_refl _) _).alloc (by simp) _).alloc (by simp; omega) _).drew
    have d4 : w4.heap[w1.heap.size]? = some (.cells #[.int .u8 (a0 : Nat), .int .u8 (a1 : Nat), .int .u8 (a2 : Nat), .int .u8 (a3 : Nat), .string ⟨#[]⟩, .int .i64 (1 + (m : Int))] 28) := by rw [hw4]; exact alloc_old _ (alloc_old _ (alloc_new _ _))
    have u4 : w4.heap[w1.heap.size + 1]? = some (.cells (ruC allD).toArray 33) := by rw [hw4]; exact alloc_old _ (alloc_new2 _ _ _)
    have x4 : w4.heap[w1.heap.size + 1 + 1]? = some (.cells (ruC allD).toArray 33) := by
      rw [hw4]
      have := alloc_new ((w1.alloc (.cells #[.int .u8 (a0 : Nat), .int .u8 (a1 : Nat), .int .u8 (a2 : Nat), .int .u8 (a3 : Nat), .string ⟨#[]⟩, .int .i64 (1 + (m : Int))] 28)).alloc (.cells #[.bool false, .int .u8 0, .int .u8 0, .int .u8 0, .int .u8 0, .int .i64 0, .string ⟨#[]⟩, .int .i64 1, .int .i64 65535] 33)) (.cells #[.bool false, .int .u8 0, .int .u8 0, .int .u8 0, .int .u8 0, .int .i64 0, .string ⟨#[]⟩, .int .i64 1, .int .i64 65535] 33)
      rw [show ((w1.alloc (.cells #[.int .u8 (a0 : Nat), .int .u8 (a1 : Nat), .int .u8 (a2 : Nat), .int .u8 (a3 : Nat), .string ⟨#[]⟩, .int .i64 (1 + (m : Int))] 28)).alloc (.cells #[.bool false, .int .u8 0, .int .u8 0, .int .u8 0, .int .u8 0, .int .i64 0, .string ⟨#[]⟩, .int .i64 1, .int .i64 65535] 33)).heap.size = w1.heap.size + 1 + 1 by simp] at this
      exact this
    have q4 : w4.heap.size = w1.heap.size + 1 + 1 + 1 := by rw [hw4]; simp
    simp only [show (((w1.alloc (.cells #[.int .u8 (a0 : Nat), .int .u8 (a1 : Nat), .int .u8 (a2 : Nat), .int .u8 (a3 : Nat), .string ⟨#[]⟩, .int .i64 (1 + (m : Int))] 28)).alloc (.cells #[.bool false, .int .u8 0, .int .u8 0, .int .u8 0, .int .u8 0, .int .i64 0, .string ⟨#[]⟩, .int .i64 1, .int .i64 65535] 33)).alloc (.cells #[.bool false, .int .u8 0, .int .u8 0, .int .u8 0, .int .u8 0, .int .i64 0, .string ⟨#[]⟩, .int .i64 1, .int .i64 65535] 33)).drew = w4 from hw4.symm]
    have D4 := hide d4
    have U4 := hide u4
    have X4 : Hid (SrcR w4 (some ⟨w1.heap.size + 1 + 1, 0, none⟩) 1 1 [allD]) := srcR_one x4 allD_ok
    have B4 := hide (B1.out.trans (k4.mono B1.out.size))
    have T4 := hide (T1.out.below k4)
    have S4 := hide (S1.out.below k4)
    have Q4 := hide q4
    have hp1 : 1 ≤ 1 + (m : Int) := by omega
    have hp2 : 1 + (m : Int) ≤ 65535 := by omega
    obtain ⟨p, hp⟩ : ∃ p : Int, p = 1 + (m : Int) := ⟨_, rfl⟩
    rw [← hp] at hp1 hp2 D4
    clear hw4 k4 d4 u4 x4 q4 hp
    refine (put_at a n c l 0 (some ⟨w1.heap.size + 1 + 1, 0, none⟩) 1 1 [allD] w4 S4.out X4.out T4.out.v).mono ?_
    rintro e w5 ⟨v, rfl, hown, hb⟩
    have B5 := hide (B4.out.trans (hb.mono B4.out.size))
    have T5 := hide (T4.out.below hb)
    have S5 := hide (S4.out.below hb)
    have D5 := hide (keepB hb D4.out)
    have U5 := hide (keepB hb U4.out)
    have HLT5 : Hid (w1.heap.size + 1 < w5.heap.size) := lt_of_some U5.out
    obtain ⟨ax, cx, rfl, sx, hx0⟩ := hown.src (putL_ok S4.out.ok (fun r hr => by simp at hr; subst hr; exact allD_ok) 0)
    have X5 := hide sx
    have HXB : Hid (∀ b o, ax = some ⟨b, o, none⟩ → w1.heap.size + 1 < b) := fun b o e => by have := (hx0 b o e).1; have := Q4.out; omega
    clear hown hb sx hx0
    by_cases hE : putE l 0 [allD] = 0
    · have HE := hide hE
      rw [hE]
      clear hE
      have s5 := U5.out
      have c50 : w5.cell? ⟨w1.heap.size + 1, 0, none⟩ = some (.bool false) := by simp [World.cell?, s5, ruC, allD]
      have f50 : w5.frozen? ⟨w1.heap.size + 1, 0, none⟩ = false := frozen_row s5 0
      obtain ⟨w6, hw6⟩ : ∃ w6, w6 = w5.setCell ⟨w1.heap.size + 1, 0, none⟩ (.bool true) := ⟨_, rfl⟩
      have k6 : Below (w1.heap.size + 1) w5 w6 := by rw [hw6]; exact (Below.refl _ _).setCell (p := ⟨w1.heap.size + 1, 0, none⟩) (Nat.le_refl _) _
      have u6 : w6.heap[w1.heap.size + 1]? = some (.cells #[.bool true, .int .u8 0, .int .u8 0, .int .u8 0, .int .u8 0, .int .i64 0, .string ⟨#[]⟩, .int .i64 1, .int .i64 65535] 33) := by
        rw [hw6]
        have := heap_setCell_same s5 0 (.bool true)
        simpa [ruC, allD] using this
      have U6 := hide u6
      have HW1 : Hid (w.heap.size < w1.heap.size) := lt_of_some r1.out
      have B6 : Hid (Below w.heap.size w w6) := B5.out.trans (k6.mono (by have := HW1.out; omega))
      have D6 : Hid (w6.heap[w1.heap.size]? = some (.cells #[.int .u8 (a0 : Nat), .int .u8 (a1 : Nat), .int .u8 (a2 : Nat), .int .u8 (a3 : Nat), .string ⟨#[]⟩, .int .i64 p] 28)) := (k6.block _ (by omega)).trans D5.out
      have Q6 : Hid (w6.heap.size = w5.heap.size) := by show _ = _; rw [hw6]; simp [World.setCell]
      have X6 : Hid (SrcR w6 ax (putL l 0 [allD]).length cx (putL l 0 [allD])) := X5.out.keep (fun h0 b o e => by
        have hb := HXB.out b o e
        rw [hw6]
        exact Below.heap_setCell _ _ _ _ (by simp only; omega)) (by rw [Q6.out]; exact Nat.le_refl _)
      have HW6 := hide hw6
      clear hw6 k6 u6 s5
      go_wp2_with (first | (rw [← HW6.out]; refine wpList_load_row rfl 33 _ rfl (w1.heap.size + 1) rfl 33 _ (0, 0) _ U6.out Tryd.underlying33 rfl infoRu ?_))
      obtain ⟨w7, hw7⟩ : ∃ w7, w7 = w6.alloc (.cells #[.bool true, .int .u8 0, .int .u8 0, .int .u8 0, .int .u8 0, .int .i64 0, .string ⟨#[]⟩, .int .i64 1, .int .i64 65535] 33) := ⟨_, rfl⟩
      have k7 : Below w6.heap.size w6 w7 := by rw [hw7]; exact (Below.refl _ _).alloc (Nat.le_refl _) _
      have x7 : w7.heap[w6.heap.size]? = some (.cells (ruC allA).toArray 33) := by rw [hw7]; exact alloc_new _ _
      simp only [show w6.alloc (.cells #[.bool true, .int .u8 0, .int .u8 0, .int .u8 0, .int .u8 0, .int .i64 0, .string ⟨#[]⟩, .int .i64 1, .int .i64 65535] 33) = w7 from hw7.symm]
      have B7 := hide (B6.out.trans (k7.mono B6.out.size))
      have X7 := hide (X6.out.below k7)
      have D7 := hide (keepB k7 D6.out)
      have A7 := hide (srcR_one x7 allA_ok)
      clear hw7 k7 x7
      refine (put_at a n c l (n : Int) (some ⟨w6.heap.size, 0, none⟩) 1 1 [allA] w7 (HSRC.out.below B7.out) A7.out (HTAB.out.below B7.out).v).mono ?_
      rintro e w8 ⟨v2, rfl, hown, hb⟩
      have B8 := hide (B7.out.trans (hb.mono B7.out.size))
      have X8 := hide (X7.out.below hb)
      have D8 := hide (keepB hb D7.out)
      obtain ⟨hal, hmy⟩ := all_last (l := l) (a := (a0, a1, a2, a3)) (p := p) HAD.out hp1 hp2 HE.out
      obtain ⟨hwx, hmx⟩ := all_first (l := l) (a := (a0, a1, a2, a3)) (p := p) HAD.out hp1 hp2 HE.out
      rw [HLEN.out] at hal hmy
      rw [hal]
      obtain ⟨ay, cy, rfl, sy, hy0⟩ := hown.src (putL_ok HSRC.out.ok (fun r hr => by simp at hr; subst hr; exact allA_ok) (n : Int))
      have Y8 := hide sy
      have HMX := hide hmx
      have HWX := hide hwx
      have HMY := hide hmy
      obtain ⟨LX, hLX⟩ : ∃ LX, LX = putL l 0 [allD] := ⟨_, rfl⟩
      obtain ⟨LY, hLY⟩ : ∃ LY, LY = putL l (n : Int) [allA] := ⟨_, rfl⟩
      rw [← hLX] at X8 HMX HWX
      rw [← hLY] at Y8 HMY
      obtain ⟨nx, hnx⟩ : ∃ nx, nx = LX.length := ⟨_, rfl⟩
      obtain ⟨ny, hny⟩ : ∃ ny, ny = LY.length := ⟨_, rfl⟩
      rw [← hnx] at X8
      rw [← hny] at Y8
      simp only [← hLX, ← hLY, ← hnx, ← hny]
      have MX : Hid (∀ W, Tabs W → SrcR W ax nx cx LX → Calls Tryd.prog 8 #[.slice ax nx cx, .agg #[.int .u8 (a0 : Nat), .int .u8 (a1 : Nat), .int .u8 (a2 : Nat), .int .u8 (a3 : Nat), .string ⟨#[]⟩, .int .i64 p]] W fun e w' => e = .returned (.bool false) ∧ Below W.heap.size W w') := fun W ht hs => by
        have := may_at ax nx cx LX (a0, a1, a2, a3) ⟨#[]⟩ p W hs HAD.out (by unfold maxLen; decide) ht.v
        rw [show byt (⟨#[]⟩ : ByteArray) = [] from rfl, HMX.out] at this
        exact this
      have WX : Hid (∀ W, Tabs W → SrcR W ax nx cx LX → Calls Tryd.prog 7 #[.slice ax nx cx, .agg #[.int .u8 (a0 : Nat), .int .u8 (a1 : Nat), .int .u8 (a2 : Nat), .int .u8 (a3 : Nat), .string ⟨#[]⟩, .int .i64 p]] W fun e w' => e = .returned (.int .i64 0) ∧ Below W.heap.size W w') := fun W ht hs => by
        have := which_at ax nx cx LX (a0, a1, a2, a3) ⟨#[]⟩ p W hs HAD.out (by unfold maxLen; decide) ht.v
        rw [show byt (⟨#[]⟩ : ByteArray) = [] from rfl, HWX.out] at this
        exact this
      obtain ⟨RY, hRY⟩ : ∃ RY, RY = may LY (a0, a1, a2, a3) [] p := ⟨_, rfl⟩
      have MY : Hid (∀ W, Tabs W → SrcR W ay ny cy LY → Calls Tryd.prog 8 #[.slice ay ny cy, .agg #[.int .u8 (a0 : Nat), .int .u8 (a1 : Nat), .int .u8 (a2 : Nat), .int .u8 (a3 : Nat), .string ⟨#[]⟩, .int .i64 p]] W fun e w' => e = .returned (.bool RY) ∧ Below W.heap.size W w') := fun W ht hs => by
        have := may_at ay ny cy LY (a0, a1, a2, a3) ⟨#[]⟩ p W hs HAD.out (by unfold maxLen; decide) ht.v
        rw [show byt (⟨#[]⟩ : ByteArray) = [] from rfl, ← hRY] at this
        exact this
      rw [← hRY] at HMY
      obtain ⟨K, hK⟩ : ∃ K, K = which l (a0, a1, a2, a3) [] p := ⟨_, rfl⟩
      have WL : Hid (∀ W, Tabs W → SrcR W a n c l → Calls Tryd.prog 7 #[.slice a n c, .agg #[.int .u8 (a0 : Nat), .int .u8 (a1 : Nat), .int .u8 (a2 : Nat), .int .u8 (a3 : Nat), .string ⟨#[]⟩, .int .i64 p]] W fun e w' => e = .returned (.int .i64 K) ∧ Below W.heap.size W w') := fun W ht hs => by
        have := which_at a n c l (a0, a1, a2, a3) ⟨#[]⟩ p W hs HAD.out (by unfold maxLen; decide) ht.v
        rw [show byt (⟨#[]⟩ : ByteArray) = [] from rfl, ← hK] at this
        exact this
      have hkb := which_bound l (a0, a1, a2, a3) [] p
      rw [← hK] at HMY hkb
      have s8 := D8.out
      have c80 : w8.cell? ⟨w1.heap.size, 0, none⟩ = some (.int .u8 (a0 : Nat)) := by simp [World.cell?, s8]
      have c81 : w8.cell? ⟨w1.heap.size, 1, none⟩ = some (.int .u8 (a1 : Nat)) := by simp [World.cell?, s8]
      have c82 : w8.cell? ⟨w1.heap.size, 2, none⟩ = some (.int .u8 (a2 : Nat)) := by simp [World.cell?, s8]
      have c83 : w8.cell? ⟨w1.heap.size, 3, none⟩ = some (.int .u8 (a3 : Nat)) := by simp [World.cell?, s8]
      have c84 : w8.cell? ⟨w1.heap.size, 4, none⟩ = some (.string ⟨#[]⟩) := by simp [World.cell?, s8]
      have c85 : w8.cell? ⟨w1.heap.size, 5, none⟩ = some (.int .i64 p) := by simp [World.cell?, s8]
      clear hal hmy hwx hmx hown hb sy hy0 hLX hLY hnx hny hRY hK s8
      go_wp2_with fail
      refine (WL.out _ (HTAB.out.below B8.out) (HSRC.out.below B8.out)).mono ?_
      rintro e w9 ⟨rfl, hb⟩
      have B9 := hide (B8.out.trans (hb.mono B8.out.size))
      have X9 := hide (X8.out.below hb)
      have Y9 := hide (Y8.out.below hb)
      have D9 := hide (keepB hb D8.out)
      clear hb
      go_wp2_with (first | (refine wpList_load_rowG (by rfl) 28 _ rfl w1.heap.size rfl 28 _ (0, 0) _ D9.out Tryd.underlying28 rfl infoDe ?_))
      refine (MX.out _ (HTAB.out.below B9.out) X9.out).mono ?_
      rintro e wa ⟨rfl, hb⟩
      have BA := hide (B9.out.trans (hb.mono B9.out.size))
      have XA := hide (X9.out.below hb)
      have YA := hide (Y9.out.below hb)
      have DA := hide (keepB hb D9.out)
      clear hb
      go_wp2_with (first | (refine wpList_load_rowG (by rfl) 28 _ rfl w1.heap.size rfl 28 _ (0, 0) _ DA.out Tryd.underlying28 rfl infoDe ?_))
      refine (WX.out _ (HTAB.out.below BA.out) XA.out).mono ?_
      rintro e wb ⟨rfl, hb⟩
      have BB := hide (BA.out.trans (hb.mono BA.out.size))
      have YB := hide (YA.out.below hb)
      have DB := hide (keepB hb DA.out)
      clear hb
      go_wp2_with (first | (refine wpList_load_rowG (by rfl) 28 _ rfl w1.heap.size rfl 28 _ (0, 0) _ DB.out Tryd.underlying28 rfl infoDe ?_))
      refine (MY.out _ (HTAB.out.below BB.out) YB.out).mono ?_
      rintro e wc ⟨rfl, hb⟩
      have BC := hide (BB.out.trans (hb.mono BB.out.size))
      have SC := hide (HSRC.out.below BC.out)
      clear hb
      rcases hkb with rfl | ⟨k, hk, rfl⟩
      · have hRY : RY = true := by rw [HMY.out]; rfl
        subst hRY
        go_wp2_with fail
        go_ret
        exact ⟨rfl, BC.out⟩
      · have hkn : k < n := by rw [← HLEN.out]; exact hk
        obtain ⟨xb, xo, rfl, hxb, hrg⟩ := SC.out.at_ hkn
        have c0 := hrg 0 (.bool (l.getD k noRu).al) rfl
        rw [Nat.add_zero] at c0
        have HZ : Hid (RY = (l.getD k noRu).al) := by
          show _ = _
          rw [HMY.out, if_neg (by omega), show ((k : Int)).toNat = k by omega]
        obtain ⟨A, hA⟩ : ∃ A, A = (l.getD k noRu).al := ⟨_, rfl⟩
        rw [← hA] at c0 HZ
        have hRY : RY = A := HZ.out
        subst hRY
        have hq : decide ((k : Int) < 0) = false := decide_eq_false (by omega)
        clear hA hrg hk HMY
        go_wp2_with fail
        go_ret
        exact ⟨by first | rfl | simp, BC.out⟩
    · have HL : Hid (putL l 0 [allD] = []) := by show _ = _; unfold putL; rw [if_neg hE]
      rw [HL.out]
      obtain ⟨E, hEE⟩ : ∃ E, E = putE l 0 [allD] := ⟨_, rfl⟩
      rw [← hEE] at hE ⊢
      have hq : ((E : Int) == 0) = false := by simp; omega
      have hq2 : ((E : Int) != 0) = true := by simp; omega
      clear hE hEE
      go_wp2_with fail
      go_ret
      exact ⟨rfl, B5.out⟩)

end Go.Proofs.YtiejandeoopiiaaDoor
