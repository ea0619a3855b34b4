/-
  What the reference writes: plain, Begins, put; What the reference writes: plain, Begins, PutRequest, PutReply; conditions as each theorem has them.
-/
import Derived.Test.YtffjhhacegnhmaaGreatDoorV
import Derived.Test.YtffjhhacegnhmaaGreatDoorHN
import Derived.Test.YtffjhhacegnhmaaGreatDoorPR
set_option linter.unusedSimpArgs false
set_option linter.unusedVariables false
namespace Go.Proofs.YtffjhhacegnhmaaGreatDoor
open Go.RowKit

set_option maxRecDepth 100000 in
set_option maxHeartbeats 4000000 in
theorem rput_at (x : ByteArray) (a : Option Addr) (n c : Nat) (fs : List Fd) (w : World) (h : SrcF w a n c fs) (hfm : ∀ f ∈ fs, f.1.length ≤ 140737488351232 ∧ f.2.length ≤ 140737488351232) (hx : x.size ≤ 100000) : Calls Tryz.prog 32 #[.string x, .slice a n c] w (Wrote (put (byt x) fs) w) := by
  have hcl := h.hcap
  have hmx := h.hmax
  unfold maxLen at hmx
  have H := hide h
  have HFM := hide hfm
  have HNL := hide h.hlen
  have n1 : ¬ (9223372036854775807 < x.size + 2) := by omega
  clear h hfm
  go_enter Tryz.func32, Tryz.ntmps32
  go_wp2_with fail
  go_loopw [6, 7] (fun v i wr => ∃ k : Nat, k ≤ n ∧ i = .int .i64 k ∧ ∃ V : ByteArray, v = .string V ∧ V.size ≤ 110000 ∧ Hid ((fs.take k).all okF = true ∧ Below w.heap.size w wr ∧ (byt V = fla (byt x :: (fs.take k).map fline) ∨ (8192 < V.size ∧ 8192 < (fla (byt x :: (fs.take k).map fline)).length)))) (fun _ i _ => n - (intOf i).toNat)
  case atStart => exact ⟨0, by omega, rfl, _, rfl, by show (x ++ (⟨#[13, 10]⟩ : ByteArray)).size ≤ _; rw [ByteArray.size_append]; show _ + 2 ≤ _; omega, rfl, Below.refl _ _, Or.inl (by rw [byt_app]; simp [fla, byt])⟩
  case round =>
    obtain ⟨k, hk, rfl, V, rfl, hVs, HI⟩ := hrel
    by_cases hkn : k < n
    · have hdk : decide ((k : Int) < (n : Int)) = true := decide_eq_true (by omega)
      have s1 := H.out.keep (w' := wr) (fun h0 b o e => HI.out.2.1.block b (H.out.lt h0 e)) HI.out.2.1.size
      have hkl : k < fs.length := by rw [HNL.out]; exact hkn
      obtain ⟨b, o, hbo, c0, c1⟩ := s1.at_ hkn
      subst hbo
      rw [Nat.mul_comm 2 k] at c0 c1
      have hblt : b < wr.heap.size := s1.lt (by omega) rfl
      have hmem : fs.getD k ([], []) ∈ fs := getD_mem hkl
      have hby := H.out.byte _ hmem
      have hfl := HFM.out _ hmem
      have HSN : Hid (okF (fs.getD k ([], [])) = true → (fs.take (k + 1)).all okF = true) := fun h => all_snoc fs k hkl HI.out.1 h
      have HNO : Hid (okF (fs.getD k ([], [])) = false → put (byt x) fs = ([], 2)) := fun h => by unfold put; rw [if_pos (all_nokF fs k hkl h)]
      have HFS := hide (fla_snoc (byt x) fs k hkl)
      obtain ⟨f, hf⟩ : ∃ f, f = fs.getD k ([], []) := ⟨_, rfl⟩
      rw [← hf] at c0 c1 hby hfl HSN HNO HFS
      obtain ⟨p, q⟩ := f
      simp only at c0 c1 hby hfl HFS
      have HTK : Hid (∀ W, Calls Tryz.prog 14 #[.string (strN p)] W fun e w' => e = .returned (.bool (tok p)) ∧ Below W.heap.size W w') := fun W => by
        have := rtoken_at (strN p) W (by rw [strN_size]; omega)
        rw [byt_strN p hby.1] at this; exact this
      have HVL : Hid (∀ W, Calls Tryz.prog 15 #[.string (strN q)] W fun e w' => e = .returned (.bool (value q)) ∧ Below W.heap.size W w') := fun W => by
        have := rvalue_at (strN q) W (by rw [strN_size]; omega)
        rw [byt_strN q hby.2] at this; exact this
      have HOK : Hid (okF (p, q) = (tok p && value q)) := rfl
      have HPL : Hid (tok p = true → p.length ≤ 64) := fun h => (tok_parts h).2.1
      have HQL : Hid (value q = true → q.length ≤ 4096) := fun h => (value_parts h).1
      have hpb := byt_strN p hby.1
      have hqb := byt_strN q hby.2
      have hps := strN_size p
      have hqs := strN_size q
      obtain ⟨P, hP⟩ : ∃ x, x = strN p := ⟨_, rfl⟩
      obtain ⟨R, hR⟩ : ∃ x, x = strN q := ⟨_, rfl⟩
      obtain ⟨tp, htp⟩ : ∃ x, x = tok p := ⟨_, rfl⟩
      obtain ⟨vq, hvq⟩ : ∃ x, x = value q := ⟨_, rfl⟩
      rw [← hP] at c0 HTK hpb hps
      rw [← hR] at c1 HVL hqb hqs
      rw [← htp] at HTK HOK HPL
      rw [← hvq] at HVL HOK HQL
      have HC0 := hide c0
      have HC1 := hide c1
      clear hkl hmem hby hfl hf hP hR htp hvq s1
      go_wp2_with fail
      refine (HTK.out _).mono ?_
      rintro e w2 ⟨rfl, hb2⟩
      have B2 := hide (HI.out.2.1.trans (hb2.mono HI.out.2.1.size))
      have d0 : w2.cell? ⟨b, o + k * 2, none⟩ = some (.string P) := (hb2.cell (p := ⟨b, o + k * 2, none⟩) hblt).trans HC0.out
      have d1 : w2.cell? ⟨b, o + k * 2 + 1, none⟩ = some (.string R) := (hb2.cell (p := ⟨b, o + k * 2 + 1, none⟩) hblt).trans HC1.out
      have hblt2 : b < w2.heap.size := Nat.lt_of_lt_of_le hblt hb2.size
      have HD0 := hide d0
      have HD1 := hide d1
      clear hb2 HTK c0 c1 HC0 HC1
      cases tp with
      | false =>
        have HR := hide (HNO.out (by rw [HOK.out]; rfl))
        clear HNO HSN HOK
        go_wp2_with fail
        go_ret2
        rw [HR.out]
        exact ⟨none, 0, rfl, Src.nilS _, B2.out⟩
      | true =>
        go_wp2_with fail
        refine (HVL.out _).mono ?_
        rintro e w3 ⟨rfl, hb3⟩
        have B3 := hide (B2.out.trans (hb3.mono B2.out.size))
        have e0 : w3.cell? ⟨b, o + k * 2, none⟩ = some (.string P) := (hb3.cell (p := ⟨b, o + k * 2, none⟩) hblt2).trans HD0.out
        have e1 : w3.cell? ⟨b, o + k * 2 + 1, none⟩ = some (.string R) := (hb3.cell (p := ⟨b, o + k * 2 + 1, none⟩) hblt2).trans HD1.out
        clear hb3 B2 d0 d1 HD0 HD1 hblt hblt2
        cases vq with
        | false =>
          have HR := hide (HNO.out (by rw [HOK.out]; rfl))
          clear HNO HSN HOK
          go_wp2_with fail
          go_ret2
          rw [HR.out]
          exact ⟨none, 0, rfl, Src.nilS _, B3.out⟩
        | true =>
          have HR := hide (HSN.out (by rw [HOK.out]; rfl))
          have hpl := HPL.out (by simp)
          have hql := HQL.out (by simp)
          have HAC := hide HI.out.2.2
          clear HNO HSN HOK HPL HQL HI HVL
          by_cases hv8 : V.size ≤ 8192
          · have qv : decide ((V.size : Int) ≤ 8192) = true := decide_eq_true (by omega)
            have qv' : decide (V.size ≤ 8192) = true := decide_eq_true hv8
            have m1 : ¬ (9223372036854775807 < P.size + 2) := by omega
            have m2 : ¬ (9223372036854775807 < P.size + 2 + R.size) := by omega
            have m3 : ¬ (9223372036854775807 < P.size + 2 + R.size + 2) := by omega
            have m4 : ¬ (9223372036854775807 < V.size + (P.size + 2 + R.size + 2)) := by omega
            have HNB : Hid (byt (V ++ (P ++ ⟨#[58, 32]⟩ ++ R ++ ⟨#[13, 10]⟩)) = fla (byt x :: (fs.take (k + 1)).map fline)) := by
              show _ = _
              rcases HAC.out with h | h
              · rw [HFS.out, byt_app, byt_app, byt_app, byt_app, hpb, hqb, h]
                simp [byt]
              · omega
            have HNS : Hid ((V ++ (P ++ ⟨#[58, 32]⟩ ++ R ++ ⟨#[13, 10]⟩)).size ≤ 110000) := by
              show _ ≤ _
              simp only [ByteArray.size_append]
              show _ + (_ + 2 + _ + 2) ≤ _
              omega
            clear HFS HAC hpb hqb
            go_wp2_with fail
            go_region
            all_goals go_wp2_with fail
            all_goals go_roundw
            case rel => exact ⟨k + 1, by omega, by go_num, _, rfl, HNS.out, HR.out, B3.out.drew, Or.inl HNB.out⟩
            case measure => simp [intOf]; omega
          · have qv : decide ((V.size : Int) ≤ 8192) = false := decide_eq_false (by omega)
            have qv' : decide (V.size ≤ 8192) = false := decide_eq_false hv8
            have HNB : Hid (8192 < V.size ∧ 8192 < (fla (byt x :: (fs.take (k + 1)).map fline)).length) := by
              refine ⟨by omega, ?_⟩
              rw [HFS.out, List.length_append]
              rcases HAC.out with h | h
              · rw [← h, byt_length]; omega
              · omega
            clear HFS HAC hpb hqb
            go_wp2_with fail
            go_roundw
            case rel => exact ⟨k + 1, by omega, by go_num, V, rfl, hVs, HR.out, B3.out, Or.inr HNB.out⟩
            case measure => simp [intOf]; omega
    · have hdk : decide ((k : Int) < (n : Int)) = false := decide_eq_false (by omega)
      obtain ⟨hall, hB, hacc⟩ := HI.out
      rw [List.take_of_length_le (by rw [HNL.out]; omega)] at hall hacc
      have n2 : ¬ (9223372036854775807 < V.size + 2) := by omega
      obtain ⟨X, hX⟩ : ∃ X, X = V ++ ⟨#[13, 10]⟩ := ⟨_, rfl⟩
      have hXs : X.size = V.size + 2 := by rw [hX]; exact ByteArray.size_append
      have HX : Hid (V ++ ⟨#[13, 10]⟩ = X) := hX.symm
      have hXb : byt X = byt V ++ [13, 10] := by rw [hX, byt_app]; rfl
      have htot : tot (byt x :: fs.map fline) = (fla (byt x :: fs.map fline)).length + 2 := by unfold tot fl; simp
      have BB := hide hB
      by_cases hbad : 8192 < X.size ∨ 64 < n
      · have HP : Hid (put (byt x) fs = ([], 3)) := by
          show _ = _
          unfold put
          rw [if_neg (by rw [hall]; simp), if_pos]
          rcases hbad with h | h
          · right
            rw [htot]
            rcases hacc with h2 | h2
            · rw [← h2, byt_length]; omega
            · omega
          · left; rw [HNL.out]; exact h
        clear hall hB hacc htot hXb HI hX
        by_cases h8 : 8192 < X.size
        · have q8 : decide ((8192 : Int) < (X.size : Int)) = true := decide_eq_true (by omega)
          have q8' : decide (8192 < X.size) = true := decide_eq_true h8
          clear hXs
          go_wp2_with (first | (rw [HX.out]))
          try (rw [HX.out]; go_wp2_with fail)
          go_ret2
          rw [HP.out]
          exact ⟨none, 0, rfl, Src.nilS _, BB.out⟩
        · have q8 : decide ((8192 : Int) < (X.size : Int)) = false := decide_eq_false (by omega)
          have q8' : decide (8192 < X.size) = false := decide_eq_false h8
          have q9 : decide ((64 : Int) < (n : Int)) = true := decide_eq_true (by omega)
          have q9' : decide (64 < n) = true := decide_eq_true (by omega)
          clear hXs
          go_wp2_with (first | (rw [HX.out]))
          try (rw [HX.out]; go_wp2_with fail)
          go_ret2
          rw [HP.out]
          exact ⟨none, 0, rfl, Src.nilS _, BB.out⟩
      · have hex : byt V = fla (byt x :: fs.map fline) := by
          rcases hacc with h | h
          · exact h
          · omega
        have HP : Hid (put (byt x) fs = (byt X, 0)) := by
          show _ = _
          unfold put
          have h1 : ¬ (64 < fs.length ∨ 8192 < tot (byt x :: fs.map fline)) := by
            rw [HNL.out, htot, ← hex, byt_length]; omega
          rw [if_neg (by rw [hall]; simp), if_neg h1, hXb, hex]
          rfl
        have q8 : decide ((8192 : Int) < (X.size : Int)) = false := decide_eq_false (by omega)
        have q8' : decide (8192 < X.size) = false := decide_eq_false (by omega)
        have q9 : decide ((64 : Int) < (n : Int)) = false := decide_eq_false (by omega)
        have q9' : decide (64 < n) = false := decide_eq_false (by omega)
        obtain ⟨cap, W6, hcv, hs6, hb6⟩ := conv_src X wr (by unfold maxLen; omega)
        have HCV := hide hcv
        have S6 := hide hs6
        have B6 := hide (BB.out.trans (hb6.mono BB.out.size))
        have HBL : Hid ((byt X).length = X.size) := byt_length X
        clear hall hB hacc htot hXb HI hX hex hbad hs6 hb6 hXs HCV
        go_wp2_with (first | (rw [HX.out]))
        try (rw [HX.out]; go_wp2_with fail)
        go_ret2
        rw [HP.out]
        refine ⟨some ⟨wr.heap.size, 0, none⟩, cap, ?_, ?_, B6.out⟩
        · rw [show ((byt X, 0) : List Nat × Nat).1.length = X.size from HBL.out]; rfl
        · rw [show ((byt X, 0) : List Nat × Nat).1.length = X.size from HBL.out]; exact S6.out
end Go.Proofs.YtffjhhacegnhmaaGreatDoor

set_option linter.unusedSimpArgs false
set_option linter.unusedVariables false
namespace Go.Proofs.YtffjhhacegnhmaaGreatDoor
open Go.RowKit

set_option maxRecDepth 100000 in
set_option maxHeartbeats 2000000 in
theorem rplain_at (t : ByteArray) (a m : Nat) (w : World) (hm : t.size ≤ maxLen) : Calls Tryz.prog 34 #[.string t, .int .u8 a, .int .i64 m] w fun e w' => e = .returned (.bool (decide ((byt t).length ≤ m) && within a 126 (byt t))) ∧ w = w' := by
  have hix : ∀ i, i < t.size → ∀ w, (Instr.index 9 (.string t) (.int .i64 (i : Nat))).run Tryz.prog w = .ok (.int .u8 ((byt t).getD i 0 : Nat)) w := fun i hi w => run_ixstr t i hi w
  obtain ⟨l, hl⟩ : ∃ l, l = byt t := ⟨_, rfl⟩
  rw [← hl] at hix ⊢
  obtain ⟨N, hN⟩ : ∃ N, N = t.size := ⟨_, rfl⟩
  have hNI : (t.size : Int) = (N : Int) := by rw [hN]
  have HNL : Hid (N = l.length) := by show _ = _; rw [hN, hl, byt_length]
  rw [← hN] at hix hm
  unfold maxLen at hm
  have HIX := hide hix
  clear hl hix hN
  go_enter Tryz.func34, Tryz.ntmps34
  go_wp2_with fail
  go_loop [7] (fun i => ∃ k : Nat, k ≤ N ∧ i = .int .i64 k ∧ Hid (within a 126 (l.take k) = true)) (fun i => N - (intOf i).toNat)
  case atStart => exact ⟨0, by omega, rfl, by show within a 126 (l.take 0) = true; rfl⟩
  case round =>
    obtain ⟨k, hk, rfl, HR⟩ := hrel
    by_cases hkN : k < N
    · have hdk : decide ((k : Int) < (N : Int)) = true := decide_eq_true (by omega)
      have hkl : k < l.length := by rw [← HNL.out]; exact hkN
      have hcl := HIX.out k hkN
      have HA : Hid ((decide (a ≤ l.getD k 0) && decide (l.getD k 0 ≤ 126)) = true → within a 126 (l.take (k + 1)) = true) := fun h => all_take _ l k hkl HR.out h
      have HF : Hid ((decide (a ≤ l.getD k 0) && decide (l.getD k 0 ≤ 126)) = false → within a 126 l = false) := fun h => all_not _ l k hkl h
      obtain ⟨c, hcc⟩ : ∃ c, c = l.getD k 0 := ⟨_, rfl⟩
      rw [← hcc] at hcl HA HF
      clear hcc hkl
      by_cases h1 : c < a
      · have q1 : decide ((c : Int) < (a : Int)) = true := decide_eq_true (by omega)
        have q1' : decide (c < a) = true := decide_eq_true h1
        have hf := hide (HF.out (by simp; omega))
        clear HA HF
        go_wp2_with fail
        go_ret
        refine ⟨?_, rfl⟩
        rw [hf.out, Bool.and_false]; rfl
      · have q1 : decide ((c : Int) < (a : Int)) = false := decide_eq_false (by omega)
        have q1' : decide (c < a) = false := decide_eq_false h1
        by_cases h2 : 126 < c
        · have q2 : decide ((126 : Int) < (c : Int)) = true := decide_eq_true (by omega)
          have q2' : decide (126 < c) = true := decide_eq_true h2
          have hf := hide (HF.out (by simp; omega))
          clear HA HF
          go_wp2_with fail
          go_ret
          refine ⟨?_, rfl⟩
          rw [hf.out, Bool.and_false]; rfl
        · have q2 : decide ((126 : Int) < (c : Int)) = false := decide_eq_false (by omega)
          have q2' : decide (126 < c) = false := decide_eq_false h2
          have ha := hide (HA.out (by simp; omega))
          clear HA HF
          go_wp2_with fail
          go_round
          case rel => exact ⟨k + 1, by omega, by go_num, ha.out⟩
          case measure => simp [intOf]; omega
    · have hdk : decide ((k : Int) < (N : Int)) = false := decide_eq_false (by omega)
      have hr := HR.out
      rw [List.take_of_length_le (by rw [← HNL.out]; omega)] at hr
      have HW := hide hr
      by_cases hle : N ≤ m
      · have q : decide ((N : Int) ≤ (m : Int)) = true := decide_eq_true (by omega)
        have q' : decide (N ≤ m) = true := decide_eq_true hle
        clear hr HR
        go_wp2_with fail
        go_ret
        refine ⟨?_, rfl⟩
        rw [HW.out, ← HNL.out, q']; rfl
      · have q : decide ((N : Int) ≤ (m : Int)) = false := decide_eq_false (by omega)
        have q' : decide (N ≤ m) = false := decide_eq_false hle
        clear hr HR
        go_wp2_with fail
        go_ret
        refine ⟨?_, rfl⟩
        rw [HW.out, ← HNL.out, q']; rfl
set_option maxHeartbeats 2000000 in
theorem rbegins_at (t d : ByteArray) (w : World) (hm : t.size ≤ maxLen) (hd : d.size ≤ 100) : Calls Tryz.prog 33 #[.string t, .string d] w fun e w' => e = .returned (.bool (decide ((byt t).take d.size = byt d))) ∧ w = w' := by
  unfold maxLen at hm
  have heq : ((t.extract 0 d.size).toList == d.toList) = decide ((byt t).take d.size = byt d) := by
    rw [eq_byt, byt_take]
  by_cases h : d.size ≤ t.size
  · have q : decide ((d.size : Int) ≤ (t.size : Int)) = true := decide_eq_true (by omega)
    have q' : decide (d.size ≤ t.size) = true := decide_eq_true h
    have HQ := hide heq
    go_enter Tryz.func33, Tryz.ntmps33
    go_wp2_with fail
    go_ret
    exact ⟨rfl, rfl⟩
  · have q : decide ((d.size : Int) ≤ (t.size : Int)) = false := decide_eq_false (by omega)
    have q' : decide (d.size ≤ t.size) = false := decide_eq_false h
    have HR : Hid (decide ((byt t).take d.size = byt d) = false) := by
      apply decide_eq_false
      intro e
      have := congrArg List.length e
      rw [List.length_take, byt_length, byt_length] at this
      omega
    clear heq
    go_enter Tryz.func33, Tryz.ntmps33
    go_wp2_with fail
    go_ret
    exact ⟨by rw [HR.out]; rfl, rfl⟩
theorem head_take (l : List Nat) : decide (l.take 1 = [47]) = decide (l.head? = some 47) := by
  cases l with
  | nil => rfl
  | cons c r => simp
theorem putQ_tok {m D p : List Nat} {fs : List Fd} (h : tok m = false) : putQ m D p fs = ([], 2) := by
  unfold putQ
  split
  · rfl
  · rw [if_neg (by rw [h]; simp)]
theorem putQ_none {m D p : List Nat} {fs : List Fd} (h : tgt m D p = none) : putQ m D p fs = ([], 2) := by
  unfold putQ; rw [h]
theorem putQ_some {m D p t : List Nat} {fs : List Fd} (h : tgt m D p = some t) (hm : tok m = true) : putQ m D p fs = put (m ++ 32 :: (t ++ 32 :: v11)) fs := by
  unfold putQ; rw [h]; simp only [hm, if_true]
set_option maxRecDepth 100000 in
set_option maxHeartbeats 4000000 in
theorem rputRequest_at (m : ByteArray) (a : Ad) (h : ByteArray) (p : Int) (t : ByteArray) (x : Option Addr) (n c : Nat) (fs : List Fd) (w : World) (ha : a.ok) (hm : m.size ≤ 140737488351232) (hh : h.size ≤ maxLen) (ht : t.size ≤ 140737488351232) (hs : SrcF w x n c fs) (hfm : ∀ f ∈ fs, f.1.length ≤ 140737488351232 ∧ f.2.length ≤ 140737488351232) :
    Calls Tryz.prog 19 #[.agg #[.string m, .int .u8 (a.1 : Nat), .int .u8 (a.2.1 : Nat), .int .u8 (a.2.2.1 : Nat), .int .u8 (a.2.2.2 : Nat), .string h, .int .i64 p, .string t, .slice x n c]] w (Wrote (putQ (byt m) (det a (byt h) p) (byt t) fs) w) := by
  have hdl := det_lt a (byt h) p (byt_lt h)
  have hdn := det_len a (byt h) p ha
  obtain ⟨a0, a1, a2, a3⟩ := a
  obtain ⟨G, hG⟩ : ∃ G, G = w.heap.size := ⟨_, rfl⟩
  obtain ⟨W1, hW1⟩ : ∃ W, W = w.alloc (.cells #[.string m, .int .u8 (a0 : Nat), .int .u8 (a1 : Nat), .int .u8 (a2 : Nat), .int .u8 (a3 : Nat), .string h, .int .i64 p, .string t, .slice x n c] 30) := ⟨_, rfl⟩
  have b1 : Below w.heap.size w W1 := by rw [hW1]; exact (Below.refl _ _).alloc (Nat.le_refl _) _
  have g1 : W1.heap[G]? = some (.cells #[.string m, .int .u8 (a0 : Nat), .int .u8 (a1 : Nat), .int .u8 (a2 : Nat), .int .u8 (a3 : Nat), .string h, .int .i64 p, .string t, .slice x n c] 30) := by rw [hW1, hG]; exact alloc_new _ _
  have HW1 : Hid (w.alloc (.cells #[.string m, .int .u8 (a0 : Nat), .int .u8 (a1 : Nat), .int .u8 (a2 : Nat), .int .u8 (a3 : Nat), .string h, .int .i64 p, .string t, .slice x n c] 30) = W1) := hW1.symm
  have HG := hide hG.symm
  have G1 := hide g1
  have B1 := hide b1
  have HS := hide hs
  have HFM := hide hfm
  have HPD := hide (rprintDest_at (a0, a1, a2, a3) h p W1 ha hh)
  simp only [deV] at HPD
  obtain ⟨D, hD⟩ : ∃ D, D = det (a0, a1, a2, a3) (byt h) p := ⟨_, rfl⟩
  simp only
  rw [← hD] at HPD hdl hdn ⊢
  have c1 : W1.cell? ⟨G, 1, none⟩ = some (.int .u8 (a0 : Nat)) := by simp [World.cell?, g1]
  have c2 : W1.cell? ⟨G, 2, none⟩ = some (.int .u8 (a1 : Nat)) := by simp [World.cell?, g1]
  have c3 : W1.cell? ⟨G, 3, none⟩ = some (.int .u8 (a2 : Nat)) := by simp [World.cell?, g1]
  have c4 : W1.cell? ⟨G, 4, none⟩ = some (.int .u8 (a3 : Nat)) := by simp [World.cell?, g1]
  have c5 : W1.cell? ⟨G, 5, none⟩ = some (.string h) := by simp [World.cell?, g1]
  have c6 : W1.cell? ⟨G, 6, none⟩ = some (.int .i64 p) := by simp [World.cell?, g1]
  have HTK : Hid (∀ W, Calls Tryz.prog 14 #[.string m] W fun e w' => e = .returned (.bool (tok (byt m))) ∧ Below W.heap.size W w') := fun W => rtoken_at m W (by omega)
  clear hW1 hG g1 b1 ha hh hs hfm hD
  go_enter Tryz.func19, Tryz.ntmps19
  go_wp2_with (first | (rw [HW1.out, HG.out]))
  try (rw [HW1.out, HG.out]; go_wp2_with fail)
  refine HPD.out.mono ?_
  rintro e w2 ⟨rfl, k2⟩
  have B2 := hide (B1.out.trans (k2.mono B1.out.size))
  have g2 := keepB k2 G1.out
  have d0 : w2.cell? ⟨G, 0, none⟩ = some (.string m) := by simp [World.cell?, g2]
  have G2 := hide g2
  clear g2 k2 c1 c2 c3 c4 c5 c6 HPD B1 G1
  have hDs := strN_size D
  have hDb := byt_strN D hdl
  obtain ⟨T, hT⟩ : ∃ T, T = strN D := ⟨_, rfl⟩
  rw [← hT] at hDs hDb ⊢
  clear hT
  go_wp2_with fail
  refine (HTK.out _).mono ?_
  rintro e w3 ⟨rfl, k3⟩
  have B3 := hide (B2.out.trans (k3.mono B2.out.size))
  have g3 := keepB k3 G2.out
  have e0 : w3.cell? ⟨G, 0, none⟩ = some (.string m) := by simp [World.cell?, g3]
  have e7 : w3.cell? ⟨G, 7, none⟩ = some (.string t) := by simp [World.cell?, g3]
  have e8 : w3.cell? ⟨G, 8, none⟩ = some (.slice x n c) := by simp [World.cell?, g3]
  have G3 := hide g3
  have hs3 : SrcF w3 x n c fs := HS.out.keep (fun h0 i o ei => B3.out.block i (HS.out.lt h0 ei)) B3.out.size
  have HS3 := hide hs3
  clear g3 k3 d0 HTK B2 G2 hs3
  cases htk : tok (byt m) with
  | false =>
    have HR := hide (putQ_tok (D := D) (p := byt t) (fs := fs) htk)
    clear htk
    go_wp2_with fail
    go_ret2
    rw [HR.out]
    exact ⟨none, 0, rfl, Src.nilS _, B3.out⟩
  | true =>
    have hml := (tok_parts htk).2.1
    rw [byt_length] at hml
    by_cases hD0 : D = []
    · obtain ⟨t1, t2⟩ := toList_nil T (by rw [hDb]; exact hD0)
      have HR : Hid (putQ (byt m) D (byt t) fs = ([], 2)) := putQ_none (by unfold tgt; rw [if_pos hD0])
      clear htk hD0 hDb
      go_wp2_with fail
      go_ret2
      rw [HR.out]
      exact ⟨none, 0, rfl, Src.nilS _, B3.out⟩
    · obtain ⟨t1, t2⟩ := toList_ne T (by rw [hDb]; exact hD0)
      have hcm : (m.toList == [67, 79, 78, 78, 69, 67, 84]) = decide (byt m = conn) := toList_byt m _
      have HT1 : Hid (tgt (byt m) D (byt t) = if byt m = conn then (if byt t = [] then some D else none) else if path (byt t) = true then some (sch ++ (D ++ byt t)) else none) := by show _ = _; unfold tgt; rw [if_neg hD0]
      have HTK := hide htk
      clear htk hD0
      by_cases hc : byt m = conn
      · rw [decide_eq_true hc] at hcm
        rw [if_pos hc] at HT1
        by_cases htn : byt t = []
        · obtain ⟨u1, u2⟩ := toList_nil t htn
          have u3 : (t.toList != []) = false := by simp [bne, u2]
          rw [if_pos htn] at HT1
          have HR := hide (putQ_some (fs := fs) HT1.out HTK.out)
          have n1 : ¬ (9223372036854775807 < 8 + T.size) := by omega
          have n2 : ¬ (9223372036854775807 < 8 + T.size + 9) := by omega
          obtain ⟨X, hX⟩ : ∃ X, X = (⟨#[67, 79, 78, 78, 69, 67, 84, 32]⟩ : ByteArray) ++ T ++ ⟨#[32, 72, 84, 84, 80, 47, 49, 46, 49]⟩ := ⟨_, rfl⟩
          have hXb : byt X = byt m ++ 32 :: (D ++ 32 :: v11) := by
            rw [hX, byt_app, byt_app, hDb, hc]
            simp [byt, v11, conn]
          have hXs : X.size ≤ 100000 := by rw [← byt_length, hXb]; simp [v11]; rw [byt_length]; omega
          have HPU := hide (rput_at X x n c fs w3 HS3.out HFM.out hXs)
          rw [hXb] at HPU
          have HX : Hid ((⟨#[67, 79, 78, 78, 69, 67, 84, 32]⟩ : ByteArray) ++ T ++ ⟨#[32, 72, 84, 84, 80, 47, 49, 46, 49]⟩ = X) := hX.symm
          clear htn hc hX hXb hXs hDb
          go_wp2_with fail
          rw [HX.out]
          refine HPU.out.mono ?_
          rintro e w4 ⟨ra, rc, rfl, hsr, k4⟩
          have S4 := hide hsr
          have B4 := hide (B3.out.trans (k4.mono B3.out.size))
          clear hsr k4 HPU B3
          go_wp2_with fail
          go_ret2
          rw [HR.out]
          exact ⟨_, _, rfl, S4.out, B4.out⟩
        · obtain ⟨u1, u2⟩ := toList_ne t htn
          have u3 : (t.toList != []) = true := by simp [bne, u2]
          rw [if_neg htn] at HT1
          have HR := hide (putQ_none (fs := fs) HT1.out)
          clear htn hc hDb
          go_wp2_with fail
          go_ret2
          rw [HR.out]
          exact ⟨none, 0, rfl, Src.nilS _, B3.out⟩
      · rw [decide_eq_false hc] at hcm
        rw [if_neg hc] at HT1
        have HBG := hide (rbegins_at t ⟨#[47]⟩ w3 (by unfold maxLen; omega) (by decide))
        have hbd : decide ((byt t).take (ByteArray.size ⟨#[47]⟩) = byt ⟨#[47]⟩) = decide ((byt t).head? = some 47) := head_take (byt t)
        rw [hbd] at HBG
        have HPA : Hid (path (byt t) = (decide ((byt t).head? = some 47) && (decide ((byt t).length ≤ 2048) && within 33 126 (byt t)))) := by show _ = _; unfold path; rw [Bool.and_assoc]
        have HPL := hide (rplain_at t 33 2048 w3 (by unfold maxLen; omega))
        obtain ⟨z1, hz1⟩ : ∃ z, z = decide ((byt t).head? = some 47) := ⟨_, rfl⟩
        obtain ⟨z2, hz2⟩ : ∃ z, z = (decide ((byt t).length ≤ 2048) && within 33 126 (byt t)) := ⟨_, rfl⟩
        rw [← hz1] at HBG HPA
        rw [← hz2] at HPL HPA
        clear hbd hz1 hz2 hc
        go_wp2_with fail
        refine HBG.out.mono ?_
        rintro e w4 ⟨rfl, rfl⟩
        cases z1 with
        | false =>
          rw [if_neg (by rw [HPA.out]; simp)] at HT1
          have HR := hide (putQ_none (fs := fs) HT1.out)
          clear hDb
          go_wp2_with fail
          go_ret2
          rw [HR.out]
          exact ⟨none, 0, rfl, Src.nilS _, B3.out⟩
        | true =>
          go_wp2_with fail
          refine HPL.out.mono ?_
          rintro e w4 ⟨rfl, rfl⟩
          cases z2 with
          | false =>
            rw [if_neg (by rw [HPA.out]; simp)] at HT1
            have HR := hide (putQ_none (fs := fs) HT1.out)
            clear hDb
            go_wp2_with fail
            go_ret2
            rw [HR.out]
            exact ⟨none, 0, rfl, Src.nilS _, B3.out⟩
          | true =>
            have hpp : path (byt t) = true := by rw [HPA.out]; rfl
            rw [if_pos hpp] at HT1
            have hpl := (path_parts hpp).2.1
            rw [byt_length] at hpl
            have HR := hide (putQ_some (fs := fs) HT1.out HTK.out)
            have n1 : ¬ (9223372036854775807 < m.size + 8) := by omega
            have n2 : ¬ (9223372036854775807 < m.size + 8 + T.size) := by omega
            have n3 : ¬ (9223372036854775807 < m.size + 8 + T.size + t.size) := by omega
            have n4 : ¬ (9223372036854775807 < m.size + 8 + T.size + t.size + 9) := by omega
            obtain ⟨X, hX⟩ : ∃ X, X = m ++ ⟨#[32, 104, 116, 116, 112, 58, 47, 47]⟩ ++ T ++ t ++ ⟨#[32, 72, 84, 84, 80, 47, 49, 46, 49]⟩ := ⟨_, rfl⟩
            have hXb : byt X = byt m ++ 32 :: ((sch ++ (D ++ byt t)) ++ 32 :: v11) := by
              rw [hX, byt_app, byt_app, byt_app, byt_app, hDb]
              simp [byt, v11, sch]
            have hXs : X.size ≤ 100000 := by rw [← byt_length, hXb]; simp [v11, sch, byt_length]; omega
            have HPU := hide (rput_at X x n c fs w3 HS3.out HFM.out hXs)
            rw [hXb] at HPU
            have HX : Hid (m ++ ⟨#[32, 104, 116, 116, 112, 58, 47, 47]⟩ ++ T ++ t ++ ⟨#[32, 72, 84, 84, 80, 47, 49, 46, 49]⟩ = X) := hX.symm
            generalize byt m ++ 32 :: ((sch ++ (D ++ byt t)) ++ 32 :: v11) = Z at HR HPU
            clear hX hXb hXs hDb hpp
            go_wp2_with fail
            rw [HX.out]
            refine HPU.out.mono ?_
            rintro e w4 ⟨ra, rc, rfl, hsr, k4⟩
            have S4 := hide hsr
            have B4 := hide (B3.out.trans (k4.mono B3.out.size))
            clear hsr k4 HPU B3
            go_wp2_with fail
            go_ret2
            rw [HR.out]
            exact ⟨_, _, rfl, S4.out, B4.out⟩
end Go.Proofs.YtffjhhacegnhmaaGreatDoor
