/-
  Own answers: Own of package proxy; Tell, Out, Clone, Sends; Out, Clone, Sends, Wants of package proxy, Clone of package slices at fields; Wants of package proxy; conditions as each theorem has them.
-/
import Derived.Test.YtccoddmdlbdfjaaGreatDoorJoinedCH
set_option linter.unusedSimpArgs false
set_option linter.unusedVariables false
namespace Go.Proofs.YtccoddmdlbdfjaaGreatDoor
open Go.RowKit

theorem ownFd_src (w : World) : SrcF (w.alloc (.cells #[.string ⟨#[67, 111, 110, 116, 101, 110, 116, 45, 76, 101, 110, 103, 116, 104]⟩, .string ⟨#[48]⟩, .string ⟨#[67, 111, 110, 110, 101, 99, 116, 105, 111, 110]⟩, .string ⟨#[99, 108, 111, 115, 101]⟩] 68)) (some ⟨w.heap.size, 0, none⟩) 2 2 [(clN, [48]), (connN, endV)] := by
  refine ⟨rfl, Nat.le_refl _, by unfold maxLen; omega, (fun e => by cases e), fun _ => ⟨w.heap.size, 0, rfl, by simp, fun j u hu => ?_⟩, ?_⟩
  · rw [Nat.zero_add]
    simp only [World.cell?, alloc_new]
    have : (fcs [(clN, [48]), (connN, endV)]) = [.string ⟨#[67, 111, 110, 116, 101, 110, 116, 45, 76, 101, 110, 103, 116, 104]⟩, .string ⟨#[48]⟩, .string ⟨#[67, 111, 110, 110, 101, 99, 116, 105, 111, 110]⟩, .string ⟨#[99, 108, 111, 115, 101]⟩] := rfl
    rw [this] at hu
    simpa using hu
  · intro f hf
    rcases List.mem_cons.1 hf with rfl | hf
    · exact ⟨(by decide : ∀ x ∈ clN, x < 256), (by decide : ∀ x ∈ [48], x < 256)⟩
    · obtain rfl : f = (connN, endV) := by simpa using hf
      exact ⟨(by decide : ∀ x ∈ connN, x < 256), (by decide : ∀ x ∈ endV, x < 256)⟩
set_option maxRecDepth 100000 in
set_option maxHeartbeats 1000000 in
theorem own_at (c : Int) (w : World) (hP : Pow w) : Calls Tryz.prog 21 #[.int .i64 c] w fun e w' => ∃ a d, e = .returned (.slice a (own c).length d) ∧ Src w' a (own c).length d (own c) ∧ Below w.heap.size w w' := by
  have HR := hide (fun W => reasonOf_at c W)
  have HBY : Hid (byt (strN (rsn c)) = rsn c) := byt_strN _ (rsn_lt c)
  have HE : Hid (((strN (rsn c)).toList == []) = decide (rsn c = [])) := by
    have := eq_byt (strN (rsn c)) ⟨#[]⟩
    rwa [show (⟨#[]⟩ : ByteArray).toList = [] from by decide +kernel, HBY.out, show byt (⟨#[]⟩ : ByteArray) = [] from rfl] at this
  by_cases hk : known c
  · have hne := rsn_ne.2 hk
    have q : ((strN (rsn c)).toList == []) = false := by rw [HE.out]; exact decide_eq_false hne
    have HY := hide (own_reply hk).2.2.2
    obtain ⟨R, hR⟩ : ∃ R, R = strN (rsn c) := ⟨_, rfl⟩
    rw [← hR] at HR HBY q
    have HPR : Hid (∀ (W : World) (x : Option Addr) (n d : Nat), Below w.heap.size w W → SrcF W x n d (ownF c) → Calls Tryz.prog 47 #[.agg #[.int .i64 c, .string R, .slice x n d]] W (Wrote (own c, 0) W)) := fun W x n d k hs => by
      have := putReply_at c R x n d (ownF c) W hs (fun f hf => by
        unfold ownF at hf
        split at hf
        · simp at hf
        · rcases List.mem_cons.1 hf with rfl | hf
          · exact ⟨(by decide : clN.length ≤ 9223372036854775807), (by decide : ([48] : List Nat).length ≤ 9223372036854775807)⟩
          · obtain rfl : f = (connN, endV) := by simpa using hf
            exact ⟨(by decide : connN.length ≤ 9223372036854775807), (by decide : endV.length ≤ 9223372036854775807)⟩) (hP.below k)
      rw [HBY.out, HY.out] at this
      exact this
    by_cases h2 : c = 200
    · have q2 : (c != 200) = false := by simp [h2]
      have q2' : (c == 200) = true := by simp [h2]
      have HO : Hid (ownF c = []) := by show _ = _; unfold ownF; rw [if_pos h2]
      rw [HO.out] at HPR
      obtain ⟨X, hX⟩ : ∃ X, X = own c := ⟨_, rfl⟩
      rw [← hX] at HPR ⊢
      clear hk hne hR HE HY HBY h2 hX hP HO
      go_enter Tryz.func21, Tryz.ntmps21
      go_wp2_with fail
      refine (HR.out _).mono ?_
      rintro e w1 ⟨rfl, rfl⟩
      obtain ⟨W1, hW1⟩ : ∃ W1, W1 = w.alloc (.cells #[.int .i64 c, .string R, .slice none 0 0] 73) := ⟨_, rfl⟩
      have b1 : Below w.heap.size w W1 := by rw [hW1]; exact (Below.refl _ _).alloc (Nat.le_refl _) _
      have HC := hide (HPR.out W1 none 0 0 b1 (SrcF.nilS W1))
      have B1 := hide b1
      have HW1 := hide hW1.symm
      clear hW1 b1 HR HPR
      go_wp2_with fail
      rw [HW1.out]
      refine HC.out.mono ?_
      rintro e w2 ⟨a, d, rfl, s2, k2⟩
      have S2 := hide s2
      have K2 := hide (B1.out.trans (k2.mono B1.out.size))
      clear s2 k2 HC
      go_wp2_with fail
      go_ret
      exact ⟨_, _, rfl, S2.out, K2.out⟩
    · have q2 : (c != 200) = true := by simp [h2]
      have q2' : (c == 200) = false := by simp [h2]
      have HO : Hid (ownF c = [(clN, [48]), (connN, endV)]) := by show _ = _; unfold ownF; rw [if_neg h2]
      rw [HO.out] at HPR
      obtain ⟨X, hX⟩ : ∃ X, X = own c := ⟨_, rfl⟩
      rw [← hX] at HPR ⊢
      clear hk hne hR HE HY HBY h2 hX hP HO
      go_enter Tryz.func21, Tryz.ntmps21
      go_wp2_with fail
      refine (HR.out _).mono ?_
      rintro e w1 ⟨rfl, rfl⟩
      obtain ⟨W1, hW1⟩ : ∃ W1, W1 = w.alloc (.cells #[.int .i64 c, .string R, .slice (some ⟨w.heap.size + 1, 0, none⟩) 2 2] 73) := ⟨_, rfl⟩
      have hs1 : W1.heap.size = w.heap.size + 1 := by rw [hW1]; simp
      obtain ⟨W2, hW2⟩ : ∃ W2, W2 = W1.alloc (.cells #[.string ⟨#[67, 111, 110, 116, 101, 110, 116, 45, 76, 101, 110, 103, 116, 104]⟩, .string ⟨#[48]⟩, .string ⟨#[67, 111, 110, 110, 101, 99, 116, 105, 111, 110]⟩, .string ⟨#[99, 108, 111, 115, 101]⟩] 68) := ⟨_, rfl⟩
      have s2 : SrcF W2 (some ⟨w.heap.size + 1, 0, none⟩) 2 2 [(clN, [48]), (connN, endV)] := by rw [hW2, ← hs1]; exact ownFd_src W1
      have b2 : Below w.heap.size w W2 := by rw [hW2, hW1]; exact ((Below.refl _ _).alloc (Nat.le_refl _) _).alloc (by simp) _
      have HC := hide (HPR.out W2 _ 2 2 b2 s2)
      have B2 := hide b2
      have HW2 : Hid ((w.alloc (.cells #[.int .i64 c, .string R, .slice (some ⟨w.heap.size + 1, 0, none⟩) 2 2] 73)).alloc (.cells #[.string ⟨#[67, 111, 110, 116, 101, 110, 116, 45, 76, 101, 110, 103, 116, 104]⟩, .string ⟨#[48]⟩, .string ⟨#[67, 111, 110, 110, 101, 99, 116, 105, 111, 110]⟩, .string ⟨#[99, 108, 111, 115, 101]⟩] 68) = W2) := by show _ = _; rw [hW2, hW1]
      clear hW1 hW2 hs1 s2 b2 HR HPR
      go_wp2_with fail
      rw [HW2.out]
      refine HC.out.mono ?_
      rintro e w2 ⟨a, d, rfl, s2, k2⟩
      have S2 := hide s2
      have K2 := hide (B2.out.trans (k2.mono B2.out.size))
      clear s2 k2 HC
      go_wp2_with fail
      go_ret
      exact ⟨_, _, rfl, S2.out, K2.out⟩
  · have he : rsn c = [] := Classical.not_not.1 fun x => hk (rsn_ne.1 x)
    have q : ((strN (rsn c)).toList == []) = true := by rw [HE.out]; exact decide_eq_true he
    have HO : Hid (own c = []) := own_no hk
    obtain ⟨R, hR⟩ : ∃ R, R = strN (rsn c) := ⟨_, rfl⟩
    rw [← hR] at HR q
    rw [HO.out]
    clear hk he hR HE HBY hP
    go_enter Tryz.func21, Tryz.ntmps21
    go_wp2_with fail
    refine (HR.out _).mono ?_
    rintro e w1 ⟨rfl, rfl⟩
    go_wp2_with fail
    go_ret
    exact ⟨none, 0, rfl, Src.nilS _, Below.refl _ _⟩
theorem tell_at (b x : Nat) (C : Cn) (c : Int) (w : World) (h : PC w b x C) : Calls Tryz.prog 14 #[.pointer (some ⟨b, 0, none⟩), .int .i64 c] w fun e w' => e = .returned (.int .i64 ((tellC C c).2 : Nat)) ∧ PC w' b x (tellC C c).1 ∧ Kept b b w w' := by
  have H := hide h
  obtain ⟨r, a, n, d, h1, _⟩ := h
  have HM := hide (isMade_at b w (h1.cell 0))
  have HAS := hide (isAsking_at b C.st w (h1.cell 1))
  have c1 : w.cell? ⟨b, 1, none⟩ = some (.int .i64 (C.st : Nat)) := h1.cell 1
  have HAN := hide (answer_at b x _ c w h1 (by simp [cnA]))
  have HR := hide (fun W => reasonOf_at c W)
  have HBY : Hid (byt (strN (rsn c)) = rsn c) := byt_strN _ (rsn_lt c)
  have HE : Hid (((strN (rsn c)).toList == []) = decide (rsn c = [])) := by
    have := eq_byt (strN (rsn c)) ⟨#[]⟩
    rwa [show (⟨#[]⟩ : ByteArray).toList = [] from by decide +kernel, HBY.out, show byt (⟨#[]⟩ : ByteArray) = [] from rfl] at this
  obtain ⟨R, hR⟩ : ∃ R, R = strN (rsn c) := ⟨_, rfl⟩
  rw [← hR] at HR HE
  have HT : Hid (tellC C c = if rsn c = [] ∨ (c = 200 ∧ C.st = 2) then (C, 2) else if asks C = false then (C, 150) else (ansC c, 0)) := rfl
  have HAK : Hid ((decide (C.st = 1) || decide (C.st = 2)) = asks C) := rfl
  rw [HAK.out] at HAS
  obtain ⟨T, hT⟩ : ∃ T, T = tellC C c := ⟨_, rfl⟩
  rw [← hT] at HT ⊢
  obtain ⟨st, hst⟩ : ∃ st, st = C.st := ⟨_, rfl⟩
  rw [← hst] at c1 HT
  clear hR hT h1
  by_cases he : rsn c = []
  · have q : (R.toList == []) = true := by rw [HE.out]; exact decide_eq_true he
    have HT2 : Hid (T = (C, 2)) := by have := HT.out; rwa [if_pos (Or.inl he)] at this
    clear he hst HE HT
    go_enter Tryz.func14, Tryz.ntmps14
    go_wp2_with fail
    refine HM.out.mono ?_
    rintro e w1 ⟨rfl, rfl⟩
    go_wp2_with fail
    refine (HR.out _).mono ?_
    rintro e w1 ⟨rfl, rfl⟩
    go_wp2_with fail
    go_ret
    rw [HT2.out]
    exact ⟨rfl, H.out, Kept.refl _ _ _⟩
  · have q : (R.toList == []) = false := by rw [HE.out]; exact decide_eq_false he
    by_cases h2 : c = 200 ∧ st = 2
    · obtain ⟨rfl, rfl⟩ := h2
      have HT2 : Hid (T = (C, 2)) := by have := HT.out; rwa [if_pos (Or.inr ⟨rfl, rfl⟩)] at this
      clear he hst HE HT
      go_enter Tryz.func14, Tryz.ntmps14
      go_wp2_with fail
      refine HM.out.mono ?_
      rintro e w1 ⟨rfl, rfl⟩
      go_wp2_with fail
      refine (HR.out _).mono ?_
      rintro e w1 ⟨rfl, rfl⟩
      go_wp2_with fail
      go_ret
      rw [HT2.out]
      exact ⟨rfl, H.out, Kept.refl _ _ _⟩
    · have HT2 : Hid (T = if asks C = false then (C, 150) else (ansC c, 0)) := by have := HT.out; rwa [if_neg (by rintro (h | h); exact he h; exact h2 h)] at this
      obtain ⟨ak, hak⟩ : ∃ ak, ak = asks C := ⟨_, rfl⟩
      rw [← hak] at HAS HT2
      have HTW : Hid ((c = 200 ∧ (st : Int) ≠ 2) ∨ c ≠ 200) := by
        by_cases h : c = 200
        · exact Or.inl ⟨h, fun e => h2 ⟨h, by omega⟩⟩
        · exact Or.inr h
      clear he h2 hst hak HE HT HAK
      have fin : ∀ K : (c = 200 → ((st : Int) == 2) = false), Calls Tryz.prog 14 #[.pointer (some ⟨b, 0, none⟩), .int .i64 c] w fun e w' => e = .returned (.int .i64 (T.2 : Nat)) ∧ PC w' b x T.1 ∧ Kept b b w w' := fun K => by
        by_cases hc : c = 200
        · have K2 := K hc
          have q2 : (c == 200) = true := by simp [hc]
          clear K hc
          cases ak with
          | true =>
            rw [if_neg (by simp)] at HT2
            go_enter Tryz.func14, Tryz.ntmps14
            go_wp2_with fail
            refine HM.out.mono ?_
            rintro e w1 ⟨rfl, rfl⟩
            go_wp2_with fail
            refine (HR.out _).mono ?_
            rintro e w1 ⟨rfl, rfl⟩
            go_wp2_with fail
            refine HAS.out.mono ?_
            rintro e w1 ⟨rfl, rfl⟩
            go_wp2_with fail
            refine HAN.out.mono ?_
            rintro e w1 ⟨rfl, p1, k1⟩
            go_wp2_with fail
            go_ret
            rw [HT2.out]
            exact ⟨rfl, p1, k1⟩
          | false =>
            rw [if_pos rfl] at HT2
            go_enter Tryz.func14, Tryz.ntmps14
            go_wp2_with fail
            refine HM.out.mono ?_
            rintro e w1 ⟨rfl, rfl⟩
            go_wp2_with fail
            refine (HR.out _).mono ?_
            rintro e w1 ⟨rfl, rfl⟩
            go_wp2_with fail
            refine HAS.out.mono ?_
            rintro e w1 ⟨rfl, rfl⟩
            go_wp2_with fail
            go_ret
            rw [HT2.out]
            exact ⟨rfl, H.out, Kept.refl _ _ _⟩
        · have q2 : (c == 200) = false := by simp [hc]
          clear K hc
          cases ak with
          | true =>
            rw [if_neg (by simp)] at HT2
            go_enter Tryz.func14, Tryz.ntmps14
            go_wp2_with fail
            refine HM.out.mono ?_
            rintro e w1 ⟨rfl, rfl⟩
            go_wp2_with fail
            refine (HR.out _).mono ?_
            rintro e w1 ⟨rfl, rfl⟩
            go_wp2_with fail
            refine HAS.out.mono ?_
            rintro e w1 ⟨rfl, rfl⟩
            go_wp2_with fail
            refine HAN.out.mono ?_
            rintro e w1 ⟨rfl, p1, k1⟩
            go_wp2_with fail
            go_ret
            rw [HT2.out]
            exact ⟨rfl, p1, k1⟩
          | false =>
            rw [if_pos rfl] at HT2
            go_enter Tryz.func14, Tryz.ntmps14
            go_wp2_with fail
            refine HM.out.mono ?_
            rintro e w1 ⟨rfl, rfl⟩
            go_wp2_with fail
            refine (HR.out _).mono ?_
            rintro e w1 ⟨rfl, rfl⟩
            go_wp2_with fail
            refine HAS.out.mono ?_
            rintro e w1 ⟨rfl, rfl⟩
            go_wp2_with fail
            go_ret
            rw [HT2.out]
            exact ⟨rfl, H.out, Kept.refl _ _ _⟩
      exact fin (fun hc => by
        rcases HTW.out with h | h
        · simp; have := h.2; omega
        · exact absurd hc h)
end Go.Proofs.YtccoddmdlbdfjaaGreatDoor

set_option linter.unusedSimpArgs false
set_option linter.unusedVariables false
namespace Go.Proofs.YtccoddmdlbdfjaaGreatDoor
open Go.RowKit

/-- Where a connection was made: the world ahead of it, whose listed tables are as they were. -/
structure Env (w0 w : World) (b : Nat) : Prop where
  be : Below w0.heap.size w0 w
  hb : w0.heap.size ≤ b
  v : Vars w0
  p : Pow w0
  e : VarE w0
theorem Env.kept {w0 w w' : World} {b : Nat} (h : Env w0 w b) (k : Kept b b w w') : Env w0 w' b := ⟨h.be.trans (k.below h.hb h.hb h.be.size), h.hb, h.v, h.p, h.e⟩
theorem Env.below {w0 w w' : World} {b : Nat} (h : Env w0 w b) (k : Below w.heap.size w w') : Env w0 w' b := ⟨h.be.trans (k.mono h.be.size), h.hb, h.v, h.p, h.e⟩
theorem Env.V {w0 w : World} {b : Nat} (h : Env w0 w b) : Vars w := h.v.below h.be
theorem Env.P {w0 w : World} {b : Nat} (h : Env w0 w b) : Pow w := h.p.below h.be
theorem Env.E {w0 w : World} {b : Nat} (h : Env w0 w b) : VarE w := h.e.below h.be
theorem Env.to {w0 w : World} {b b' : Nat} (h : Env w0 w b) (hb : w0.heap.size ≤ b') : Env w0 w b' := ⟨h.be, hb, h.v, h.p, h.e⟩
theorem PC.setSaid {w : World} {b x : Nat} {C : Cn} (h : PC w b x C) (s : Int) : PC (w.setCell ⟨b, 11, none⟩ (.int .i64 s)) b x { C with said := s } := by
  obtain ⟨r, a, n, c, h1, h2, h3, h4, h5⟩ := h
  have k := (Kept.refl b b w).set 11 (.int .i64 s)
  exact ⟨r, a, n, c, h1.set 11 _, h2, h3.keep (fun h0 g o e => k.block g (h3.lt h0 e) (h4 h0 g o e) (h4 h0 g o e)) k.size, h4, h5⟩
theorem out_at (w0 : World) (b x : Nat) (C : Cn) (w : World) (h : PC w b x C) (he : Env w0 w b) : Calls Tryz.prog 18 #[.pointer (some ⟨b, 0, none⟩)] w fun e w' => ∃ a d, e = .returned (.slice a (own C.said).length d) ∧ Src w' a (own C.said).length d (own C.said) ∧ PC w' b x (outC C) ∧ Kept b b w w' := by
  have H0 := hide (h.setSaid 0)
  obtain ⟨r, a, n, c, h1, _⟩ := h
  have HM := hide (isMade_at b w (h1.cell 0))
  have c11 : w.cell? ⟨b, 11, none⟩ = some (.int .i64 C.said) := h1.cell 11
  have f11 := h1.frozen 11
  have k0 : Kept b b w (w.setCell ⟨b, 11, none⟩ (.int .i64 0)) := (Kept.refl b b w).set 11 _
  have HO := hide (own_at C.said _ (he.kept k0).P)
  have K0 := hide k0
  have HC : Hid ({ C with said := 0 } = outC C) := rfl
  rw [HC.out] at H0
  obtain ⟨D, hD⟩ : ∃ D, D = outC C := ⟨_, rfl⟩
  rw [← hD] at H0 ⊢
  obtain ⟨S, hS⟩ : ∃ S, S = C.said := ⟨_, rfl⟩
  rw [← hS] at HO c11 ⊢
  obtain ⟨X, hX⟩ : ∃ X, X = own S := ⟨_, rfl⟩
  rw [← hX] at HO ⊢
  clear h1 k0 he HC hD hS hX
  go_enter Tryz.func18, Tryz.ntmps18
  go_wp2_with fail
  refine HM.out.mono ?_
  rintro e w1 ⟨rfl, rfl⟩
  go_wp2_with fail
  refine HO.out.mono ?_
  rintro e w1 ⟨a1, d1, rfl, s1, k1⟩
  have S1 := hide s1
  have P1 := hide (H0.out.below k1)
  have K1 := hide (K0.out.trans2 k1)
  clear s1 k1 HO H0 K0
  go_wp2_with fail
  go_ret
  exact ⟨_, _, rfl, S1.out, P1.out, K1.out⟩
set_option maxRecDepth 100000 in
theorem cloneX_at (a : Option Addr) (n c : Nat) (fs : List Fd) (w : World) (h : SrcF w a n c fs) (hn : n ≤ 1000) : Calls Tryz.prog 49 #[.slice a n c] w fun e w' => ∃ a' c', e = .returned (.slice a' n c') ∧ SrcF w' a' n c' fs ∧ Below w.heap.size w w' ∧ (∀ g o, a' = some ⟨g, o, none⟩ → w.heap.size ≤ g) := by
  have hl := h.hlen
  cases a with
  | none =>
    have hc := h.nil rfl
    have := h.hcap
    obtain rfl : n = 0 := by omega
    obtain rfl : c = 0 := hc
    have H := hide h
    have hq : ∀ w, (binOp .eql 32 (.slice none 0 0) (.slice none 0 0)).run Tryz.prog w = .ok (.bool true) w := fun w => by kernel_rfl
    clear h
    go_enter Tryz.func49, Tryz.ntmps49
    go_wp2_with fail
    go_ret
    exact ⟨none, 0, rfl, H.out, Below.refl _ _, fun g o e => by cases e⟩
  | some p =>
    obtain ⟨W, hW⟩ : ∃ W, W = w.alloc (.cells #[] 68) := ⟨_, rfl⟩
    have o1 : OwnF W w.heap.size (.slice (some ⟨w.heap.size, 0, none⟩) 0 0) [] := by rw [hW]; exact own_new76 w
    have b1 : Below w.heap.size w W := by rw [hW]; exact (Below.refl _ _).alloc (Nat.le_refl _) _
    obtain ⟨v', w', hap, o2, k2⟩ := run_appF o1 (h.below b1) (by simp; omega) b1.size
    rw [List.nil_append] at o2
    obtain ⟨a', c', rfl, s2, f2⟩ := o2.src h.byte
    have F2 := hide f2
    rw [hl] at s2 hap
    have HAP := hide hap
    have HW := hide hW.symm
    have S2 := hide s2
    have K2 := hide (b1.trans k2)
    have hq : ∀ w, (binOp .eql 32 (.slice (some p) n c) (.slice none 0 0)).run Tryz.prog w = .ok (.bool false) w := fun w => by kernel_rfl
    clear hW o1 b1 hap o2 k2 s2 h hl f2
    go_enter Tryz.func49, Tryz.ntmps49
    go_wp2_with (first | (at_builtin; rw [HW.out]; refine wpList_app_run _ rfl _ _ 32 32 rfl _ _ rfl rfl HAP.out ?_))
    go_ret
    exact ⟨_, _, rfl, S2.out, K2.out, F2.out⟩
/-- What a connection keeps is as a head that was read has it. -/
def Cn.Ok (C : Cn) : Prop := Fit C.fs ∧ ∃ r : Rc, Rc.of C.q r ∧ r.Ok
theorem Rc.inj {q : Rq} {r r' : Rc} (h : Rc.of q r) (h' : Rc.of q r') : r = r' := by
  unfold Rc.of at h h'
  rw [h] at h'
  obtain ⟨m, x0, x1, x2, x3, s, p, t⟩ := r
  obtain ⟨m', x0', x1', x2', x3', s', p', t'⟩ := r'
  simp only [Prod.mk.injEq, List.cons.injEq, and_true] at h'
  obtain ⟨hm, ⟨⟨⟨rfl, rfl, rfl, rfl⟩, hs⟩, rfl⟩, ht⟩ := h'
  have e1 := byt_inj hm
  have e2 := byt_inj hs
  have e3 := byt_inj ht
  subst e1 e2 e3
  rfl
theorem Rc.Ok.zero : Rc.Ok Rc.zero := ⟨by decide, by decide, by decide, by decide, by decide, by decide, by decide, by decide⟩
set_option maxRecDepth 100000 in
set_option maxHeartbeats 1000000 in
theorem sends_at (w0 : World) (b x : Nat) (C : Cn) (w : World) (h : PC w b x C) (hok : C.Ok) (he : Env w0 w b) : Calls Tryz.prog 27 #[.pointer (some ⟨b, 0, none⟩)] w fun e w' => ∃ a d, e = .returned (.slice a (sendsC C).length d) ∧ Src w' a (sendsC C).length d (sendsC C) ∧ Below w.heap.size w w' := by
  obtain ⟨r, a, n, c, h1, h2, h3, _⟩ := h
  obtain ⟨hfit, r', h2', hr⟩ := hok
  obtain rfl := Rc.inj h2 h2'
  have HM := hide (isMade_at b w (h1.cell 0))
  have c1 : w.cell? ⟨b, 1, none⟩ = some (.int .i64 (C.st : Nat)) := h1.cell 1
  have c2 : w.cell? ⟨b, 2, none⟩ = some (.string r.m) := h1.cell 2
  have c3 : w.cell? ⟨b, 3, none⟩ = some (.int .u8 (r.x0 : Nat)) := h1.cell 3
  have c4 : w.cell? ⟨b, 4, none⟩ = some (.int .u8 (r.x1 : Nat)) := h1.cell 4
  have c5 : w.cell? ⟨b, 5, none⟩ = some (.int .u8 (r.x2 : Nat)) := h1.cell 5
  have c6 : w.cell? ⟨b, 6, none⟩ = some (.int .u8 (r.x3 : Nat)) := h1.cell 6
  have c7 : w.cell? ⟨b, 7, none⟩ = some (.string r.s) := h1.cell 7
  have c8 : w.cell? ⟨b, 8, none⟩ = some (.int .i64 (r.p : Nat)) := h1.cell 8
  have c9 : w.cell? ⟨b, 9, none⟩ = some (.string r.t) := h1.cell 9
  have c10 : w.cell? ⟨b, 10, none⟩ = some (.slice a n c) := h1.cell 10
  have HS := hide (sentOn_at r a n c C.fs w hr h3 hfit he.V he.P)
  have HX : Hid (sent r.to (byt r.t) C.fs = sentQ C.q C.fs) := by
    show _ = _
    unfold Rc.of at h2
    unfold sentQ
    rw [h2]
    rfl
  rw [HX.out] at HS
  have HD : Hid (sendsC C = if C.st = 2 ∨ C.st = 4 then sentQ C.q C.fs else []) := rfl
  obtain ⟨X, hX⟩ : ∃ X, X = sentQ C.q C.fs := ⟨_, rfl⟩
  obtain ⟨D, hDD⟩ : ∃ D, D = sendsC C := ⟨_, rfl⟩
  obtain ⟨st, hst⟩ : ∃ st, st = C.st := ⟨_, rfl⟩
  rw [← hX] at HS HD
  rw [← hDD] at HD ⊢
  rw [← hst] at c1 HD
  obtain ⟨m, x0, x1, x2, x3, s, p, t⟩ := r
  unfold Rc.arr at HS
  simp only at c2 c3 c4 c5 c6 c7 c8 c9 HS
  clear h1 h2 h2' h3 hfit hr he hX hDD hst HX
  by_cases h2 : st = 2
  · have HD2 : Hid (D = X) := by have := HD.out; rwa [if_pos (Or.inl h2)] at this
    subst h2
    rw [HD2.out]
    clear HD HD2
    go_enter Tryz.func27, Tryz.ntmps27
    go_wp2_with fail
    refine HM.out.mono ?_
    rintro e w1 ⟨rfl, rfl⟩
    go_wp2_with fail
    refine HS.out.mono ?_
    rintro e w1 ⟨a1, d1, rfl, s1, k1⟩
    go_wp2_with fail
    go_ret
    exact ⟨_, _, rfl, s1, k1⟩
  · have q2 : ((st : Int) != 2) = true := by simp; omega
    have q2' : ((st : Int) == 2) = false := by simp; omega
    by_cases h4 : st = 4
    · have HD2 : Hid (D = X) := by have := HD.out; rwa [if_pos (Or.inr h4)] at this
      subst h4
      rw [HD2.out]
      clear HD HD2 h2
      go_enter Tryz.func27, Tryz.ntmps27
      go_wp2_with fail
      refine HM.out.mono ?_
      rintro e w1 ⟨rfl, rfl⟩
      go_wp2_with fail
      refine HS.out.mono ?_
      rintro e w1 ⟨a1, d1, rfl, s1, k1⟩
      go_wp2_with fail
      go_ret
      exact ⟨_, _, rfl, s1, k1⟩
    · have q4 : ((st : Int) != 4) = true := by simp; omega
      have q4' : ((st : Int) == 4) = false := by simp; omega
      have HD2 : Hid (D = []) := by have := HD.out; rwa [if_neg (by omega)] at this
      rw [HD2.out]
      clear HD HD2 h2 h4 HS
      go_enter Tryz.func27, Tryz.ntmps27
      go_wp2_with fail
      refine HM.out.mono ?_
      rintro e w1 ⟨rfl, rfl⟩
      go_wp2_with fail
      go_ret
      exact ⟨none, 0, rfl, Src.nilS _, Below.refl _ _⟩
end Go.Proofs.YtccoddmdlbdfjaaGreatDoor

set_option linter.unusedSimpArgs false
set_option linter.unusedVariables false
namespace Go.Proofs.YtccoddmdlbdfjaaGreatDoor
open Go.RowKit
attribute [local go_sem ↓] run_opLd run_opst44 Go.wp_at_zero Go.wp_at_succ
attribute [local go_sem] arrAt_ptr isAt_ptr putAt_ptr

def wantsC (C : Cn) : Rq × List Fd := if asks C = true then (C.q, C.fs) else (noR, [])
set_option maxRecDepth 100000 in
set_option maxHeartbeats 1000000 in
theorem wants_at (b x : Nat) (C : Cn) (w : World) (h : PC w b x C) (hok : C.Ok) : Calls Tryz.prog 24 #[.pointer (some ⟨b, 0, none⟩)] w fun e w' => ∃ (r : Rc) (a : Option Addr) (c : Nat), e = .returned (.tuple #[.agg (r.arr (.slice a (wantsC C).2.length c)), .bool (asks C)]) ∧ Rc.of (wantsC C).1 r ∧ SrcF w' a (wantsC C).2.length c (wantsC C).2 ∧ Below w.heap.size w w' := by
  obtain ⟨r, a, n, c, h1, h2, h3, _⟩ := h
  have hn : C.fs.length = n := h3.hlen
  have HM : Hid (∀ W, W.heap[b]? = w.heap[b]? → Calls Tryz.prog 36 #[.pointer (some ⟨b, 0, none⟩)] W fun e w' => e = .returned (.bool true) ∧ W = w') := fun W e => isMade_at b W ((h1.keep e).cell 0)
  have HA : Hid (∀ W, W.heap[b]? = w.heap[b]? → Calls Tryz.prog 46 #[.pointer (some ⟨b, 0, none⟩)] W fun e w' => e = .returned (.bool (asks C)) ∧ W = w') := fun W e => isAsking_at b C.st W ((h1.keep e).cell 1)
  have HCL : Hid (∀ W, Below w.heap.size w W → Calls Tryz.prog 49 #[.slice a n c] W fun e w' => ∃ a' c', e = .returned (.slice a' n c') ∧ SrcF w' a' n c' C.fs ∧ Below W.heap.size W w' ∧ (∀ g o, a' = some ⟨g, o, none⟩ → W.heap.size ≤ g)) := fun W k => cloneX_at a n c C.fs W (h3.below k) (by have := hok.1.2; omega)
  have HWC : Hid (wantsC C = if asks C = true then (C.q, C.fs) else (noR, [])) := rfl
  have R := hide h1
  have HN := hide hn
  have HQ := hide h2
  obtain ⟨ak, hak⟩ : ∃ ak, ak = asks C := ⟨_, rfl⟩
  rw [← hak] at HA HWC ⊢
  obtain ⟨G, hG⟩ : ∃ G, G = w.heap.size := ⟨_, rfl⟩
  obtain ⟨Z, hZ⟩ : ∃ Z : Array Value, Z = #[.string ⟨#[]⟩, .int .u8 0, .int .u8 0, .int .u8 0, .int .u8 0, .string ⟨#[]⟩, .int .i64 0, .string ⟨#[]⟩, .slice none 0 0] := ⟨_, rfl⟩
  obtain ⟨W1, hW1⟩ : ∃ W1, W1 = w.alloc (.cells Z 34) := ⟨_, rfl⟩
  have b1 : Below w.heap.size w W1 := by rw [hW1]; exact (Below.refl _ _).alloc (Nat.le_refl _) _
  have g1 : W1.heap[G]? = some (.cells Z 34) := by rw [hW1, hG]; exact alloc_new _ _
  have e1 : W1.heap[b]? = w.heap[b]? := b1.block b h1.lt
  have HM1 := hide (HM.out W1 e1)
  have HA1 := hide (HA.out W1 e1)
  have B1 := hide b1
  have HW1 : Hid (w.alloc (.cells #[.string ⟨#[]⟩, .int .u8 0, .int .u8 0, .int .u8 0, .int .u8 0, .string ⟨#[]⟩, .int .i64 0, .string ⟨#[]⟩, .slice none 0 0] 34) = W1) := by show _ = _; rw [hW1, hZ]
  have HG := hide hG.symm
  have G1 := hide g1
  have hz : ∀ w, (zeroValue 34).run Tryz.prog w = .ok (.agg #[.string ⟨#[]⟩, .int .u8 0, .int .u8 0, .int .u8 0, .int .u8 0, .string ⟨#[]⟩, .int .i64 0, .string ⟨#[]⟩, .slice none 0 0]) w := fun w => by kernel_rfl
  have hZs : Z.size = 9 := by rw [hZ]; rfl
  have hZ1 : Z.all (·.oneCell') = true := by rw [hZ]; simp [Value.oneCell']
  cases ak with
  | false =>
    have HW2 : Hid (wantsC C = (noR, [])) := HWC.out
    rw [HW2.out]
    have y1 : canPut 9 34 W1 (.pointer (some ⟨G, 0, none⟩)) (.agg #[.string ⟨#[]⟩, .int .u8 0, .int .u8 0, .int .u8 0, .int .u8 0, .string ⟨#[]⟩, .int .i64 0, .string ⟨#[]⟩, .slice none 0 0]) = true := by rw [← hZ]; exact canPut_row g1 hZs hZs hZ1
    have y2 : W1.setRow G #[.string ⟨#[]⟩, .int .u8 0, .int .u8 0, .int .u8 0, .int .u8 0, .string ⟨#[]⟩, .int .i64 0, .string ⟨#[]⟩, .slice none 0 0] = W1 := by rw [← hZ]; exact setRow_self W1 G Z _ _ g1
    have HZ := hide hZ
    clear hn h1 h2 h3 hak hW1 b1 e1 hok HM HA HCL HWC R HN HQ hZ hZs hZ1 hG g1
    go_enter Tryz.func24, Tryz.ntmps24
    go_wp2_with fail
    rw [HW1.out, HG.out]
    refine HM1.out.mono ?_
    rintro e w2 ⟨rfl, rfl⟩
    go_wp2_with fail
    refine HA1.out.mono ?_
    rintro e w2 ⟨rfl, rfl⟩
    go_wp2_with fail
    refine bodyPost_ret (res_cell_tmp rfl _ _ G 34 Z (0, 0) _ rfl G1.out Tryz.underlying34 rfl (by rw [HZ.out]; exact info44c)) rfl ⟨Rc.zero, none, 0, ?_, Rc.of_zero, SrcF.nilS _, B1.out⟩
    rw [HZ.out]
    rfl
  | true =>
    have HW2 : Hid (wantsC C = (C.q, C.fs)) := HWC.out
    rw [HW2.out]
    have r1 : Row W1 b 80 (cnA C.st r (.slice a n c) C.said) := h1.below b1 h1.lt
    have c2 : W1.cell? ⟨b, 2, none⟩ = some (.string r.m) := r1.cell 2
    have c3 : W1.cell? ⟨b, 3, none⟩ = some (.int .u8 (r.x0 : Nat)) := r1.cell 3
    have c4 : W1.cell? ⟨b, 4, none⟩ = some (.int .u8 (r.x1 : Nat)) := r1.cell 4
    have c5 : W1.cell? ⟨b, 5, none⟩ = some (.int .u8 (r.x2 : Nat)) := r1.cell 5
    have c6 : W1.cell? ⟨b, 6, none⟩ = some (.int .u8 (r.x3 : Nat)) := r1.cell 6
    have c7 : W1.cell? ⟨b, 7, none⟩ = some (.string r.s) := r1.cell 7
    have c8 : W1.cell? ⟨b, 8, none⟩ = some (.int .i64 (r.p : Nat)) := r1.cell 8
    have c9 : W1.cell? ⟨b, 9, none⟩ = some (.string r.t) := r1.cell 9
    have c10 : W1.cell? ⟨b, 10, none⟩ = some (.slice a n c) := r1.cell 10
    obtain ⟨W2, hW2⟩ : ∃ W2, W2 = W1.alloc (.cells (r.arr (.slice a n c)) 34) := ⟨_, rfl⟩
    obtain ⟨H4, hH4⟩ : ∃ H4, H4 = W1.heap.size := ⟨_, rfl⟩
    have b2 : Below w.heap.size w W2 := by rw [hW2]; exact b1.alloc b1.size _
    have g2 : W2.heap[H4]? = some (.cells (r.arr (.slice a n c)) 34) := by rw [hW2, hH4]; exact alloc_new _ _
    have g2G : W2.heap[G]? = some (.cells Z 34) := by rw [hW2]; exact alloc_old _ g1
    have hne : G ≠ H4 := by have := lt_of_some g1; omega
    have e8 : W2.cell? ⟨H4, 8, none⟩ = some (.slice a n c) := by simp [World.cell?, g2, Rc.arr]
    have HC2 := hide (HCL.out W2 b2)
    have HWW : Hid (W1.alloc (.cells #[.string r.m, .int .u8 (r.x0 : Nat), .int .u8 (r.x1 : Nat), .int .u8 (r.x2 : Nat), .int .u8 (r.x3 : Nat), .string r.s, .int .i64 (r.p : Nat), .string r.t, .slice a n c] 34) = W2) := hW2.symm
    have HH4 := hide hH4.symm
    have B2 := hide b2
    have G2 := hide g2
    have GG := hide g2G
    have HZs := hide hZs
    have HNE := hide hne
    have HLO : Hid (w.heap.size ≤ H4 ∧ w.heap.size ≤ G) := ⟨by rw [hH4]; exact b1.size, by rw [hG]; exact Nat.le_refl _⟩
    clear hn h1 h2 h3 hak hW1 b1 e1 hok HM HA HCL HWC R hZ hZs hZ1 hG g1 r1 hW2 hH4 b2 g2 g2G hne B1 G1
    go_enter Tryz.func24, Tryz.ntmps24
    go_wp2_with fail
    rw [HW1.out, HG.out]
    refine HM1.out.mono ?_
    rintro e w2 ⟨rfl, rfl⟩
    go_wp2_with fail
    refine HA1.out.mono ?_
    rintro e w2 ⟨rfl, rfl⟩
    go_wp2_with (first | (rw [HWW.out, HH4.out]))
    try (rw [HWW.out, HH4.out]; go_wp2_with fail)
    refine HC2.out.mono ?_
    rintro e w3 ⟨a', c', rfl, s3, k3, f3⟩
    have g3 := keepB k3 G2.out
    have g3G := keepB k3 GG.out
    have f8 : w3.frozen? ⟨H4, 8, none⟩ = false := by simp [World.frozen?, g3]
    have e8' : w3.cell? ⟨H4, 8, none⟩ = some (.slice a n c) := by simp [World.cell?, g3, Rc.arr]
    obtain ⟨A, hA⟩ : ∃ A, A = r.arr (.slice a' n c') := ⟨_, rfl⟩
    obtain ⟨W4, hW4⟩ : ∃ W4, W4 = w3.setCell ⟨H4, 8, none⟩ (.slice a' n c') := ⟨_, rfl⟩
    have g4 : W4.heap[H4]? = some (.cells A 34) := by
      rw [hW4, heap_setCell_same g3, hA]; rfl
    have g4G : W4.heap[G]? = some (.cells Z 34) := by
      rw [hW4, show (w3.setCell ⟨H4, 8, none⟩ (.slice a' n c')).heap[G]? = w3.heap[G]? from Below.heap_setCell _ _ _ _ HNE.out]; exact g3G
    have hAs : A.size = 9 := by rw [hA]; rfl
    have hA1 : A.all (·.oneCell') = true := by rw [hA]; exact arr_one r a' n c'
    have y1 : isRow W4 H4 9 = true := isRow_of g4 hAs
    have y2 : rowOf W4 H4 = A := rowOf_of g4
    have y3 : canPut 9 34 W4 (.pointer (some ⟨G, 0, none⟩)) (.agg A) = true := canPut_row g4G HZs.out hAs hA1
    obtain ⟨W5, hW5⟩ : ∃ W5, W5 = W4.setRow G A := ⟨_, rfl⟩
    have HG5 : Hid (W5.heap[G]? = some (.cells A 34)) := by show _ = _; rw [hW5]; exact setRow_heap W4 G A Z 34 g4G
    have k4 : Kept H4 G w3 W5 := by rw [hW5, hW4]; exact ((Kept.refl H4 G w3).setCell (p := ⟨H4, 8, none⟩) (Or.inl rfl) _).setRow (Or.inr rfl) _
    have hH4 : H4 < W2.heap.size := lt_of_some G2.out
    have hGW : G < W2.heap.size := lt_of_some GG.out
    have S5 : Hid (SrcF W5 a' n c' C.fs) := s3.keep (fun h0 g o e => k4.block g (s3.lt h0 e) (by have := f3 g o e; omega) (by have := f3 g o e; omega)) k4.size
    have B5 : Hid (Below w.heap.size w W5) := (B2.out.trans (k3.mono B2.out.size)).trans (k4.below HLO.out.1 HLO.out.2 (Nat.le_trans B2.out.size k3.size))
    have HAA := hide hA
    have HW5 := hide hW5.symm
    rw [hW4] at y1 y2 y3 HW5
    clear s3 k3 g3 g3G hW4 g4 g4G hW5 k4 HC2 hAs hA1 hA f3 hH4 hGW
    go_wp2_with fail
    rw [HW5.out]
    refine bodyPost_ret (res_cell_tmp rfl _ _ G 34 A (0, 0) _ rfl HG5.out Tryz.underlying34 rfl (by rw [HAA.out]; exact info44c)) rfl ⟨r, a', c', ?_, HQ.out, ?_, B5.out⟩
    · rw [HAA.out, HN.out]; rfl
    · rw [HN.out]; exact S5.out
end Go.Proofs.YtccoddmdlbdfjaaGreatDoor
