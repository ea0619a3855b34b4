/-
  PortApart's walk; conditions as each theorem has them.
-/
import Derived.Test.YtjojhnkibgkleaaJoinedZK
set_option linter.unusedSimpArgs false
set_option linter.unusedVariables false
set_option maxRecDepth 8000
namespace Go.Proofs.Ytjojhnkibgkleaa
open Go.RowKit Go.Lib

/-- An event turns nothing of another endpoint. -/
theorem ev_other {P : Pt} (hP : P.Ok) (k e N : Int) (d : ByteArray) (j : Int) (h : j ≠ e) (hj : 0 ≤ j) : stN (evP P k e N d) j = stN P j ∧ roomN (evP P k e N d) j = roomN P j ∧ qN (evP P k e N d) j = qN P j ∧ lastN (evP P k e N d) j = lastN P j := by
  obtain ⟨h1, h2, h3, h4⟩ := evP_sz P k e N d
  have hs : str_ (evP P k e N d) j = str_ P j := by unfold str_; rw [h3]
  have ha : str_ P j = true → at0 (evP P k e N d).L j.toNat = at0 P.L j.toNat := fun hs => by
    unfold evP
    split
    · rfl
    · rename_i hf
      have hf : isF P k e N d = true := by simpa using hf
      split
      · split <;> rfl
      · rename_i h8
        split
        · rfl
        · obtain ⟨i1, i2⟩ := isF_lt hP hf h8
          simp only []
          rw [at0_set _ i1, if_neg (by omega)]
  unfold stN roomN qN lastN
  rw [hs]
  cases hq : str_ P j
  · simp
  · rw [ha hq]; simp
theorem pstate {S : Nat → Prop} {w : World} {b : Nat} {P : Pt} (h : Port w S b P) (e : Int) : Calls Try.prog 30 #[.pointer (some ⟨b, 0, none⟩), .int .i64 e] w fun x w' => x = .returned (.tuple #[.int .i64 (stN P e), .int .i64 (codeN P e)]) ∧ Below w.heap.size w w' := by
  obtain ⟨eb, gv, ov, R, G, h⟩ := h
  exact state_at h e
theorem proom {S : Nat → Prop} {w : World} {b : Nat} {P : Pt} (h : Port w S b P) (e : Int) : Calls Try.prog 32 #[.pointer (some ⟨b, 0, none⟩), .int .i64 e] w fun x w' => x = .returned (.int .i64 (roomN P e)) ∧ Below w.heap.size w w' := by
  obtain ⟨eb, gv, ov, R, G, h⟩ := h
  exact room_at h e
theorem pended {S : Nat → Prop} {w : World} {b : Nat} {P : Pt} (h : Port w S b P) (e : Int) : Calls Try.prog 27 #[.pointer (some ⟨b, 0, none⟩), .int .i64 e] w fun x w' => x = .returned (.bool (endN P e)) ∧ Below w.heap.size w w' := by
  obtain ⟨eb, gv, ov, R, G, h⟩ := h
  exact ended_at h e
theorem ppeek {S : Nat → Prop} {w : World} {b : Nat} {P : Pt} (h : Port w S b P) (e n : Int) : Calls Try.prog 26 #[.pointer (some ⟨b, 0, none⟩), .int .i64 e, .int .i64 n] w fun x w' => ∃ a c, x = .returned (.slice a (takeL P e n).length c) ∧ Src w' a (takeL P e n).length c (takeL P e n) ∧ Below w.heap.size w w' := by
  obtain ⟨eb, gv, ov, R, G, h⟩ := h
  have hl := takeL_len h e n
  refine (peek_at h e n).mono fun x w' ⟨v, e0, e1, e2⟩ => ?_
  obtain ⟨a, c, rfl, hs, _⟩ := e1.src (by unfold maxLen; omega) hl.2
  exact ⟨a, c, e0, hs, e2⟩
/-- Two ports, each in memory of its own. -/
def Duo (B : Nat) (w : World) (b c : Nat) (P Q : Pt) : Prop := ∃ S T, Port w S b P ∧ Port w T c Q ∧ (∀ k, S k → ¬ T k) ∧ (∀ k, S k → B ≤ k) ∧ ∀ k, T k → B ≤ k
theorem Duo.below {B : Nat} {w w' : World} {b c : Nat} {P Q : Pt} (h : Duo B w b c P Q) (k : Below w.heap.size w w') : Duo B w' b c P Q := by
  obtain ⟨S, T, h1, h2, h3⟩ := h
  exact ⟨S, T, h1.below k, h2.below k, h3⟩
theorem Duo.event {B : Nat} {w : World} {b c : Nat} {P Q : Pt} (h : Duo B w b c P Q) (hB : B ≤ w.heap.size) (k e N : Int) (d : ByteArray) (hNm : N ≤ 9223372036854775807) (hd : d.size ≤ maxLen) (ra : Option Addr) (rn rc : Nat) : Calls Try.prog 13 #[.pointer (some ⟨b, 0, none⟩), .agg #[.int .i64 k, .int .i64 e, .int .i64 N, .string d, .slice ra rn rc]] w fun x w' => x = .returned (.tuple #[.int .i64 (evN P k e N d : Nat), .int .i64 (evC P k e N d)]) ∧ Duo B w' b c (evP P k e N d) Q ∧ Below B w w' := by
  obtain ⟨S, T, ⟨eb, gv, ov, R, G, h1⟩, h2, h3, h4, h5⟩ := h
  have hl := h2.lt
  refine (event_at h1 k e N d hNm hd ra rn rc).mono fun x w' ⟨e1, e2, e3⟩ => ⟨e1, ⟨grow S w w', T, e2, h2.off e3 (fun i hi hs => h3 i hs hi), fun i hi ht => hi.elim (fun s => h3 i s ht) (fun g => by have := hl i ht; omega), fun i hi => hi.elim (h4 i) (fun g => Nat.le_trans hB g.1), h5⟩, e3.below hB h4⟩
theorem Duo.outs {B : Nat} {w : World} {b c : Nat} {P Q : Pt} (h : Duo B w b c P Q) (hB : B ≤ w.heap.size) : Calls Try.prog 22 #[.pointer (some ⟨b, 0, none⟩)] w fun x w' => ∃ a n, x = .returned (.slice a P.ou.length n) ∧ SrcO w' a P.ou.length n P.ou ∧ Below B w w' ∧ ∃ T, Port w' T c Q ∧ (∀ k, T k → B ≤ k) ∧ ∀ bl o, a = some ⟨bl, o, none⟩ → ¬ T bl := by
  obtain ⟨S, T, ⟨eb, gv, ov, R, G, h1⟩, h2, h3, h4, h5⟩ := h
  have hso := h1.so
  refine (outs_at h1).mono ?_
  rintro x w' ⟨rfl, ho, e2, e3⟩
  obtain ⟨a, n, rfl, hs⟩ := own_srcO ho
  exact ⟨a, n, rfl, hs, e3.below hB h4, T, h2.off e3 (fun i hi hs => h3 i hs hi), h5, fun bl o e ht => h3 bl (hso bl (by subst e; rfl)) ht⟩
theorem outs_T {B : Nat} {T : Nat → Prop} {w : World} {c : Nat} {Q : Pt} (h : Port w T c Q) (hB : B ≤ w.heap.size) (hT : ∀ k, T k → B ≤ k) : Calls Try.prog 22 #[.pointer (some ⟨c, 0, none⟩)] w fun x w' => ∃ a n, x = .returned (.slice a Q.ou.length n) ∧ SrcO w' a Q.ou.length n Q.ou ∧ Below B w w' ∧ KeptS T w w' := by
  obtain ⟨eb, gv, ov, R, G, h1⟩ := h
  refine (outs_at h1).mono ?_
  rintro x w' ⟨rfl, ho, e2, e3⟩
  obtain ⟨a, n, rfl, hs⟩ := own_srcO ho
  exact ⟨a, n, rfl, hs, e3.below hB hT, e3⟩
theorem Two.cloned {B : Nat} {w : World} {b y : Nat} {P : Pt} (h : Two nob nob B w b y P P) (hB : B ≤ w.heap.size) (hlen : P.ou.length ≤ 1900000000000) : Calls Try.prog 12 #[.pointer (some ⟨b, 0, none⟩)] w fun x w' => ∃ c, x = .returned (.pointer (some ⟨c, 0, none⟩)) ∧ Below w.heap.size w w' ∧ Duo B w' b c P P := by
  obtain ⟨S, T, ⟨eb, gv, ov, R, G, h1⟩, h2, h3, h4, h5⟩ := h
  refine (clone_P h1 hlen).mono ?_
  rintro x w' ⟨c, rfl, hc, hb⟩
  have hlt := h1.lt
  exact ⟨c, rfl, hb, S, _, (Port.of h1).below hb, hc, fun k hk q => by have := hlt k hk; have := q.1; omega, fun k hk => (h4 k hk).1, fun k hk => Nat.le_trans hB hk.1⟩
set_option maxRecDepth 100000 in
set_option maxHeartbeats 4000000 in
theorem apart_walk (a : Option Addr) (len cap : Nat) (f : Nat → Ac) (E : Ev) (w : World) (hA : IsActs w a len cap f) (hE0 : E.Ok) : Calls Try.prog 7 #[.slice a len cap, .agg (evV E)] w fun e w' => e = .returned (.bool true) ∧ Below w.heap.size w w' := by
  obtain ⟨hlc, hcm, hI⟩ := hA
  obtain ⟨ek, ee, eN, ed, ea, en, ec⟩ := E
  obtain ⟨hkb, heb, hNb, hdb⟩ := hE0
  simp only [] at *
  have HA := hide hI
  have HN := fun w' => hide (pnew_at 3 2 8 w' (by omega) (by omega) (by omega) (by omega))
  have HR := fun w' => hide (rnew_at 3 2 8 w' (by omega) (by omega) (by omega) (by omega))
  have HNB := hide hNb
  have HDB := hide hdb
  clear hI hdb hNb
  unfold evV
  obtain ⟨W0, hW0⟩ : ∃ W0, W0 = w.alloc (.cells #[.int .i64 ek, .int .i64 ee, .int .i64 eN, .string ed, .slice ea en ec] 33) := ⟨_, rfl⟩
  have bl0 : Below w.heap.size w W0 := by rw [hW0]; exact (Below.refl _ _).alloc (Nat.le_refl _) _
  have x0 : W0.heap[w.heap.size]? = some (.cells #[.int .i64 ek, .int .i64 ee, .int .i64 eN, .string ed, .slice ea en ec] 33) := by rw [hW0]; exact alloc_new _ _
  have hlt0 := lt_of_some x0
  have HW0 : Hid ((w.alloc (.cells #[.int .i64 ek, .int .i64 ee, .int .i64 eN, .string ed, .slice ea en ec] 33)) = W0) := hW0.symm
  have BL0 := hide bl0
  have HBX : Hid (∀ W, Below W0.heap.size W0 W → W.cell? ⟨w.heap.size, 0, none⟩ = some (.int .i64 ek) ∧ W.cell? ⟨w.heap.size, 1, none⟩ = some (.int .i64 ee) ∧ W.cell? ⟨w.heap.size, 2, none⟩ = some (.int .i64 eN) ∧ W.cell? ⟨w.heap.size, 3, none⟩ = some (.string ed) ∧ W.cell? ⟨w.heap.size, 4, none⟩ = some (.slice ea en ec)) := fun W k => by
    have e := (k.block w.heap.size hlt0).trans x0
    refine ⟨?_, ?_, ?_, ?_, ?_⟩ <;> simp [World.cell?, e]
  clear hW0 bl0 x0
  go_enter Try.func7, Try.ntmps7
  go_wp2_with fail
  rw [HW0.out]
  refine (works_at _).mono ?_
  rintro x w1 ⟨rfl, hb⟩
  have C1 := hide hb
  have B1 := hide (BL0.out.trans (hb.mono BL0.out.size))
  clear hb
  go_wp2_with fail
  refine (HN _).out.mono ?_
  rintro e w2 ⟨b, rfl, h1, k1⟩
  have H1 := hide h1
  have K1 := hide k1
  clear h1 k1
  go_wp2_with fail
  refine (HR _).out.mono ?_
  rintro e w3 ⟨y, rfl, h2, k2⟩
  have HT := hide (Two.made H1.out K1.out h2 k2)
  have HB := hide (K1.out.trans (k2.mono K1.out.size))
  have h0 : (newP 3 2 8).ou.length ≤ 0 := Nat.le_refl 0
  generalize newP 3 2 8 = P0 at HT h0
  clear h2 k2 H1 K1 HN HR
  go_wp2_with fail
  go_loopw [9] (fun vi wr => ∃ (k : Nat) (P : Pt), k ≤ len ∧ vi = .int .i64 k ∧ Hid (Two nob nob w1.heap.size wr b y P P) ∧ P.ou.length ≤ k ∧ Hid (Below w1.heap.size w1 wr)) (fun vi _ => len - (RowKit.intOf vi).toNat)
  case atStart => exact ⟨0, P0, Nat.zero_le _, rfl, HT, h0, HB⟩
  case round =>
    clear HT HB
    obtain ⟨k, P, hk, rfl, HT, hou, HB⟩ := hrel
    have hlen : P.ou.length ≤ 1900000000000 := by omega
    by_cases hkl : k < len
    · obtain ⟨ab, ao, rfl, hab, hat⟩ := HA.out (by omega)
      have hd : decide ((k : Int) < (len : Int)) = true := decide_eq_true (by omega)
      have hW := (hat k hkl).below (B1.out.trans (HB.out.mono B1.out.size)) hab
      generalize f k = X at hW
      have RNG := hide (act_mid hW)
      have HIN := hide hW.inn
      clear hat hW
      go_wp2_with (first | (refine wpList_load_mid rfl 41 _ rfl ab (ao + k * 12) rfl X.cs _ RNG.out Try.underlying41 rfl infoAct ?_))
      refine (play_at HT.out HB.out.size X HIN.out hlen).mono ?_
      rintro e v1 ⟨rfl, Q, t1, n1, k1⟩
      have HT5 := hide t1
      have HB5 := hide (HB.out.trans k1)
      have hou2 : Q.ou.length ≤ k + 1 := by unfold Next at n1; omega
      clear t1 n1 k1 RNG HT HB
      go_wp2_with fail
      go_roundw
      case rel => exact ⟨k + 1, Q, by omega, by go_num, HT5, hou2, HB5⟩
      case measure => simp [RowKit.intOf]; omega
    · have hd : decide ((k : Int) < (len : Int)) = false := decide_eq_false (by omega)
      have hok := HT.out.ok
      go_wp2_with fail
      refine (HT.out.cloned HB.out.size hlen).mono ?_
      rintro e v1 ⟨cb, rfl, kb1, hD⟩
      have D1 := hide hD
      have G1 := hide (HB.out.trans (kb1.mono HB.out.size))
      obtain ⟨f0, f1, f2, f3, f4⟩ := HBX.out _ (C1.out.trans (G1.out.mono C1.out.size))
      have HEV := hide (fun j => ev_other hok ek ee eN ed j)
      have HSZ := hide (evP_sz P ek ee eN ed).2.2.2
      clear kb1 hD HT HB hok
      go_wp2_with fail
      refine (D1.out.event G1.out.size ek ee eN ed HNB.out.2 HDB.out ea en ec).mono ?_
      rintro e v2 ⟨rfl, d2, k2⟩
      have D2 := hide d2
      have G2 := hide (G1.out.trans k2)
      generalize evP P ek ee eN ed = P2 at D2 HEV HSZ
      clear d2 k2 f0 f1 f2 f3 f4 D1 G1
      go_wp2_with fail
      go_loopw [11] (fun vi wr => ∃ m : Nat, m ≤ 5 ∧ vi = .int .i64 m ∧ Hid (Duo w1.heap.size wr b cb P2 P) ∧ Hid (Below w1.heap.size w1 wr)) (fun vi _ => 5 - (RowKit.intOf vi).toNat)
      case atStart => exact ⟨0, Nat.zero_le _, rfl, D2, G2⟩
      case round =>
        clear D2 G2
        obtain ⟨m, hm, rfl, D2, G2⟩ := hrel
        by_cases hm5 : m < 5
        · have hd5 : decide ((m : Int) < 5) = true := decide_eq_true (by omega)
          have CS1 : Hid (∀ W, Duo w1.heap.size W b cb P2 P → Calls Try.prog 30 #[.pointer (some ⟨b, 0, none⟩), .int .i64 m] W fun x w' => x = .returned (.tuple #[.int .i64 (stN P2 m), .int .i64 (codeN P2 m)]) ∧ Below W.heap.size W w') := fun W ⟨S, T, q1, q2, _⟩ => pstate q1 m
          have CS2 : Hid (∀ W, Duo w1.heap.size W b cb P2 P → Calls Try.prog 30 #[.pointer (some ⟨cb, 0, none⟩), .int .i64 m] W fun x w' => x = .returned (.tuple #[.int .i64 (stN P m), .int .i64 (codeN P m)]) ∧ Below W.heap.size W w') := fun W ⟨S, T, q1, q2, _⟩ => pstate q2 m
          go_wp2_with fail
          refine (CS1.out _ D2.out).mono ?_
          rintro e v3 ⟨rfl, k3⟩
          have D3 := hide (D2.out.below k3)
          have G3 := hide (G2.out.trans (k3.mono G2.out.size))
          clear k3
          go_wp2_with fail
          refine (CS2.out _ D3.out).mono ?_
          rintro e v4 ⟨rfl, k4⟩
          have D4 := hide (D3.out.below k4)
          have G4 := hide (G3.out.trans (k4.mono G3.out.size))
          clear k4 D3 G3 CS1 CS2 D2 G2
          obtain ⟨f0, f1, f2, f3, f4⟩ := HBX.out _ (C1.out.trans (G4.out.mono C1.out.size))
          clear f0 f2 f3 f4
          by_cases hme : (m : Int) = ee
          · have q0 : ((m : Int) != ee) = false := by simp [hme]
            clear hme
            go_wp2_with fail
            go_roundw
            case rel => exact ⟨m + 1, by omega, by go_num, D4, G4⟩
            case measure => simp [RowKit.intOf]; omega
          · have q0 : ((m : Int) != ee) = true := by simp [hme]
            obtain ⟨n1, n2, n3, n4⟩ := HEV.out m hme (by omega)
            have n5 : endN P2 m = endN P m := by unfold endN; rw [n4, n3]
            have n6 : takeL P2 m 9 = takeL P m 9 := by unfold takeL; rw [n3]
            have R1 : Hid (∀ W, Duo w1.heap.size W b cb P2 P → Calls Try.prog 32 #[.pointer (some ⟨b, 0, none⟩), .int .i64 m] W fun x w' => x = .returned (.int .i64 (roomN P m)) ∧ Below W.heap.size W w') := fun W ⟨S, T, q1, q2, _⟩ => by rw [← n2]; exact proom q1 m
            have R2 : Hid (∀ W, Duo w1.heap.size W b cb P2 P → Calls Try.prog 32 #[.pointer (some ⟨cb, 0, none⟩), .int .i64 m] W fun x w' => x = .returned (.int .i64 (roomN P m)) ∧ Below W.heap.size W w') := fun W ⟨S, T, q1, q2, _⟩ => proom q2 m
            have E1 : Hid (∀ W, Duo w1.heap.size W b cb P2 P → Calls Try.prog 27 #[.pointer (some ⟨b, 0, none⟩), .int .i64 m] W fun x w' => x = .returned (.bool (endN P m)) ∧ Below W.heap.size W w') := fun W ⟨S, T, q1, q2, _⟩ => by rw [← n5]; exact pended q1 m
            have E2 : Hid (∀ W, Duo w1.heap.size W b cb P2 P → Calls Try.prog 27 #[.pointer (some ⟨cb, 0, none⟩), .int .i64 m] W fun x w' => x = .returned (.bool (endN P m)) ∧ Below W.heap.size W w') := fun W ⟨S, T, q1, q2, _⟩ => pended q2 m
            obtain ⟨L, hL⟩ : ∃ L, L = takeL P m 9 := ⟨_, rfl⟩
            have Q1 : Hid (∀ W, Duo w1.heap.size W b cb P2 P → Calls Try.prog 26 #[.pointer (some ⟨b, 0, none⟩), .int .i64 m, .int .i64 9] W fun x w' => ∃ a c, x = .returned (.slice a L.length c) ∧ Src w' a L.length c L ∧ Below W.heap.size W w') := fun W ⟨S, T, q1, q2, _⟩ => by rw [hL, ← n6]; exact ppeek q1 m 9
            have Q2 : Hid (∀ W, Duo w1.heap.size W b cb P2 P → Calls Try.prog 26 #[.pointer (some ⟨cb, 0, none⟩), .int .i64 m, .int .i64 9] W fun x w' => ∃ a c, x = .returned (.slice a L.length c) ∧ Src w' a L.length c L ∧ Below W.heap.size W w') := fun W ⟨S, T, q1, q2, _⟩ => by rw [hL]; exact ppeek q2 m 9
            clear hme n2 n3 n4 n5 n6 hL
            generalize roomN P m = ro at R1 R2
            generalize endN P m = ed at E1 E2
            go_wp2_with fail
            refine (R1.out _ D4.out).mono ?_
            rintro e v5 ⟨rfl, k5⟩
            have D5 := hide (D4.out.below k5)
            have G5 := hide (G4.out.trans (k5.mono G4.out.size))
            clear k5
            go_wp2_with fail
            refine (R2.out _ D5.out).mono ?_
            rintro e v6 ⟨rfl, k6⟩
            have D6 := hide (D5.out.below k6)
            have G6 := hide (G5.out.trans (k6.mono G5.out.size))
            clear k6 D5 G5
            go_wp2_with fail
            refine (E1.out _ D6.out).mono ?_
            rintro e v7 ⟨rfl, k7⟩
            have D7 := hide (D6.out.below k7)
            have G7 := hide (G6.out.trans (k7.mono G6.out.size))
            clear k7 D6 G6
            go_wp2_with fail
            refine (E2.out _ D7.out).mono ?_
            rintro e v8 ⟨rfl, k8⟩
            have D8 := hide (D7.out.below k8)
            have G8 := hide (G7.out.trans (k8.mono G7.out.size))
            clear k8 D7 G7
            go_wp2_with fail
            refine (Q1.out _ D8.out).mono ?_
            rintro e v9 ⟨pa, pc, rfl, s9, k9⟩
            have D9 := hide (D8.out.below k9)
            have G9 := hide (G8.out.trans (k9.mono G8.out.size))
            have S9 := hide s9
            clear k9 s9 D8 G8
            go_wp2_with fail
            refine (Q2.out _ D9.out).mono ?_
            rintro e v10 ⟨pa', pc', rfl, s10, k10⟩
            have D10 := hide (D9.out.below k10)
            have G10 := hide (G9.out.trans (k10.mono G9.out.size))
            have S9' := hide (S9.out.keep (fun q o e h0 => k10.block q (S9.out.lt h0 e)))
            have S10 := hide s10
            clear k10 s10 D9 G9
            go_wp2_with fail
            refine (same_bytes _ _ _ _ _ _ _ _ S9'.out S10.out).mono ?_
            rintro e v11 ⟨rfl, rfl⟩
            go_wp2_with fail
            go_roundw
            case rel => exact ⟨m + 1, by omega, by go_num, D10, G10⟩
            case measure => simp [RowKit.intOf]; omega
        · have hd5 : decide ((m : Int) < 5) = false := decide_eq_false (by omega)
          go_wp2_with fail
          refine (D2.out.outs G2.out.size).mono ?_
          rintro e v3 ⟨oa, oc, rfl, s3, k3, T, t3, tB, ta⟩
          rw [HSZ.out] at s3 ⊢
          have S3 := hide s3
          have G3 := hide (G2.out.trans k3)
          have T3 := hide t3
          have TB := hide tB
          have TA := hide ta
          clear s3 k3 t3 tB ta
          go_wp2_with fail
          refine (outs_T T3.out G3.out.size TB.out).mono ?_
          rintro e v4 ⟨oa', oc', rfl, s4, k4, kt⟩
          have S3' := hide (S3.out.keepS kt (fun g o _ e => TA.out g o e))
          have S4 := hide s4
          have G4 := hide (G3.out.trans k4)
          clear s4 k4 kt
          go_wp2_with fail
          refine (same_outs _ _ _ _ _ _ _ _ S3'.out S4.out).mono ?_
          rintro e v5 ⟨rfl, k5⟩
          have G5 := hide (G4.out.trans (k5.mono G4.out.size))
          clear k5
          go_wp2_with fail
          go_ret
          exact ⟨rfl, B1.out.trans (G5.out.mono B1.out.size)⟩
end Go.Proofs.Ytjojhnkibgkleaa
