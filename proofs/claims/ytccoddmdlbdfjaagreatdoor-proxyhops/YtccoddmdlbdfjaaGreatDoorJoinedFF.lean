/-
  sortedOut, Hops and Keep of package fields; What is sent on: hostOf, sentFields, sentOn of package proxy; readNumber, readAge, forbids of package fields; The reference's Age and Length, Length of package fields, texts compared; conditions as each theorem has them.
-/
import Derived.Test.YtccoddmdlbdfjaaGreatDoorFE
import Derived.Test.YtccoddmdlbdfjaaGreatDoorCC
import Derived.Test.YtccoddmdlbdfjaaGreatDoorPA
import Derived.Test.YtccoddmdlbdfjaaGreatDoorJoinedFN
import Derived.Test.YtccoddmdlbdfjaaGreatDoorK
import Derived.Test.YtccoddmdlbdfjaaGreatDoorHM
import Derived.Test.YtccoddmdlbdfjaaGreatDoorHN
import Derived.Test.YtccoddmdlbdfjaaGreatDoorFC
set_option linter.unusedSimpArgs false
set_option linter.unusedVariables false
namespace Go.Proofs.YtccoddmdlbdfjaaGreatDoor
open Go.RowKit Go.Maps

theorem push_fld {wr : World} {B : Nat} {v : Value} {fs : List Fd} (f : Fd) (hown : OwnF wr B v fs) (hlen : fs.length ≤ 4000000) (hB : B ≤ wr.heap.size) :
    ∃ v' w', (Builtin.append_ #[32, 32] 32 #[v, .slice (some ⟨wr.heap.size, 0, none⟩) 1 1]).run Tryz.prog (wr.alloc (.cells #[.string (strN f.1), .string (strN f.2)] 68)) = .ok v' w' ∧ OwnF w' B v' (fs ++ [f]) ∧ Below B wr w' ∧ (∀ k, k < wr.heap.size → v.ownBlock ≠ some k → w'.heap[k]? = wr.heap[k]?) := by
  obtain ⟨o1, w1, hap1, ow1, bw1, kw1⟩ := own_appF (hown.below ((Below.refl _ _).alloc (Nat.le_refl _) (.cells #[.string (strN f.1), .string (strN f.2)] 68))) ⟨wr.heap.size, 0, none⟩ 1 1 [f] rfl
    (fun j u hu => by
      have hj := (List.getElem?_eq_some_iff.1 hu).1
      have hj2 : j < 2 := by simpa [fcs] using hj
      rw [add_none]
      have : j = 0 ∨ j = 1 := by omega
      rcases this with rfl | rfl
      · simp [fcs] at hu
        rw [← hu]; simp
      · simp [fcs] at hu
        rw [← hu]; simp) (by omega) (by simp; omega)
  exact ⟨o1, w1, hap1, ow1, ((Below.refl B wr).alloc hB _).trans bw1, fun k hk hne => (kw1 k (by simp; omega) hne).trans (Below.heap_alloc _ _ _ hk)⟩
theorem filter_snoc {α : Type} (p : α → Bool) (l : List α) (x : α) : (l ++ [x]).filter p = l.filter p ++ if p x = true then [x] else [] := by
  rw [List.filter_append]
  congr 1
  by_cases h : p x = true
  · simp [h]
  · simp [h]
set_option maxRecDepth 100000 in
set_option maxHeartbeats 8000000 in
theorem sortedOut_at (a : Option Addr) (n c : Nat) (fs : List Fd) (want : Bool) (w : World) (hV : Vars w) (h : SrcF w a n c fs) (hfew : Few fs) (hn : n ≤ 4000000) :
    Calls Tryz.prog 57 #[.slice a n c, .bool want] w fun e w' => ∃ v, e = .returned v ∧ OwnF w' w.heap.size v (fs.filter fun f => hopB fs f.1 == want) ∧ Below w.heap.size w w' := by
  have hcl := h.hcap
  have hmx := h.hmax
  unfold maxLen at hmx
  have H := hide h
  have HFEW := hide hfew
  have HH := hide (hopNames_at a n c fs w hV h hfew)
  clear h hV hfew
  go_enter Tryz.func57, Tryz.ntmps57
  go_wp2_with fail
  refine HH.out.mono ?_
  rintro e w0 ⟨b, m, rfl, hs, hb0⟩
  have S0 := hide hs
  have B0 := hide hb0
  have H0 := hide (H.out.below hb0)
  clear hs hb0 HH
  go_wp2_with fail
  go_loopw [6, 15] (fun v i wr => ∃ k : Nat, k ≤ n ∧ i = .int .i64 k ∧ Hid (OwnF wr w.heap.size v ((fs.take k).filter fun f => hopB fs f.1 == want) ∧ IsSet wr b m (hopN fs) ∧ Below w.heap.size w wr)) (fun _ i _ => n - (intOf i).toNat)
  case atStart => exact ⟨0, by omega, rfl, OwnF.nilS _ _, S0.out, B0.out⟩
  case round =>
    obtain ⟨k, hk, rfl, HI⟩ := hrel
    obtain ⟨j1, j2, j3⟩ := HI.out
    by_cases hkn : k < n
    · have hdk : decide ((k : Int) < (n : Int)) = true := decide_eq_true (by omega)
      have s1 := H.out.keep (w' := wr) (fun h0 b o e => j3.block b (H.out.lt h0 e)) j3.size
      obtain ⟨b', o, rfl, c0, c1⟩ := s1.at_ hkn
      rw [Nat.mul_comm 2 k] at c0 c1
      have hkl : k < fs.length := by rw [H.out.hlen]; exact hkn
      have hmem : fs.getD k ([], []) ∈ fs := getD_mem hkl
      have hby := H.out.byte _ hmem
      have hfl := HFEW.out.name _ hmem
      have HSN := hide (filter_snoc (fun f : Fd => hopB fs f.1 == want) (fs.take k) (fs.getD k ([], [])))
      rw [← ftake_snoc fs k hkl] at HSN
      have hfl2 : ((fs.take k).filter fun f => hopB fs f.1 == want).length ≤ 4000000 := by
        have h1 := List.length_filter_le (fun f : Fd => hopB fs f.1 == want) (fs.take k)
        have h2 := List.length_take_le k fs
        omega
      obtain ⟨fd, hf0⟩ : ∃ f, f = fs.getD k ([], []) := ⟨_, rfl⟩
      rw [← hf0] at c0 c1 hby hfl HSN
      obtain ⟨p, q⟩ := fd
      simp only at c0 c1 hby hfl HSN
      have HSA : Hid (∀ W, Calls Tryz.prog 99 #[.string (strN p)] W fun e w' => e = .returned (.string (strN (low p))) ∧ Below W.heap.size W w') := fun W => by
        have := fsmall_at (strN p) W (by rw [strN_size]; have := hfl.1; omega)
        rw [byt_strN p hby.1] at this; exact this
      have HLK : Hid (∀ W, IsSet W b m (hopN fs) → (Instr.lookup 158 (.map (some b)) (.string (strN (low p))) true).run Tryz.prog W = .ok (.tuple #[.agg #[], .bool (hopB fs p)]) W) := fun W hW => by
        have := hW.look (strN (low p)) (by rw [strN_size, low_length]; have := hfl.1; unfold maxLen; omega)
        rw [byt_strN _ (low_lt hby.1)] at this
        exact this
      obtain ⟨hp, hhp⟩ : ∃ x, x = hopB fs p := ⟨_, rfl⟩
      rw [← hhp] at HLK HSN
      obtain ⟨P, hP⟩ : ∃ x, x = strN p := ⟨_, rfl⟩
      obtain ⟨R, hR⟩ : ∃ x, x = strN q := ⟨_, rfl⟩
      obtain ⟨LP, hLP⟩ : ∃ x, x = strN (low p) := ⟨_, rfl⟩
      rw [← hP] at c0 HSA
      rw [← hR] at c1
      rw [← hLP] at HLK HSA
      have HPR : Hid (P = strN p ∧ R = strN q) := ⟨hP, hR⟩
      obtain ⟨G, hG⟩ : ∃ G, G = wr.heap.size := ⟨_, rfl⟩
      obtain ⟨W1, hW1⟩ : ∃ W, W = wr.alloc (.cells #[.string P, .string R] 68) := ⟨_, rfl⟩
      have b1 : Below wr.heap.size wr W1 := by rw [hW1]; exact (Below.refl _ _).alloc (Nat.le_refl _) _
      have g1 : W1.heap[G]? = some (.cells #[.string P, .string R] 68) := by rw [hW1, hG]; exact alloc_new _ _
      have B1 := hide (j3.trans (b1.mono j3.size))
      have O1 := hide (j1.below b1)
      have S1 := hide (j2.below b1)
      have G1 := hide g1
      have HW1 : Hid (wr.alloc (.cells #[.string P, .string R] 68) = W1) := hW1.symm
      have HG := hide hG.symm
      have e0 : W1.cell? ⟨G, 0, none⟩ = some (.string P) := by simp [World.cell?, g1]
      clear hkl hmem hby hfl hf0 hP hR hLP s1 hG hW1 b1 g1 hhp j1 j2 j3 HI
      go_wp2_with (first | (rw [HW1.out, HG.out]))
      try (rw [HW1.out, HG.out]; go_wp2_with fail)
      refine (HSA.out _).mono ?_
      rintro e w2 ⟨rfl, hb2⟩
      have hg2 := keepB hb2 G1.out
      have hGl : G < w2.heap.size := lt_of_some hg2
      have d0 : w2.cell? ⟨G, 0, none⟩ = some (.string P) := by simp [World.cell?, hg2]
      have d1 : w2.cell? ⟨G, 1, none⟩ = some (.string R) := by simp [World.cell?, hg2]
      have B2 := hide (B1.out.trans (hb2.mono B1.out.size))
      have S2 := hide (S1.out.below hb2)
      have hlk := HLK.out w2 S2.out
      have ba : Below w2.heap.size w2 (w2.alloc (.cells #[] 160)) := (Below.refl _ _).alloc (Nat.le_refl _) _
      have B3 := hide (B2.out.trans (ba.mono B2.out.size))
      have S3 := hide (S2.out.below ba)
      have O3 := hide ((O1.out.below hb2).below ba)
      obtain ⟨v4, w4, hap, ho4, hb4, hk4⟩ := push_fld (p, q) O3.out hfl2 B3.out.size
      rw [show (strN (p, q).1) = P from HPR.out.1.symm, show (strN (p, q).2) = R from HPR.out.2.symm, show (w2.alloc (.cells #[] 160)).heap.size = w2.heap.size + 1 by simp] at hap
      have HAP := hide hap
      have O4 := hide ho4
      have B4 := hide (B3.out.trans hb4)
      have S4 : Hid (IsSet w4 b m (hopN fs)) := by
        have s3 := S3.out
        refine ⟨?_, s3.byte⟩
        obtain ⟨es, clock, hb, F, hs, e⟩ := s3.own
        refine ⟨es, clock, (hk4 b (lt_of_some hb) (fun ho => ?_)).trans hb, F, hs, e⟩
        obtain ⟨_, cur, hcur⟩ := O3.out.block ho
        rw [hb] at hcur
        cases hcur
      clear hb2 hg2 HSA HLK e0 c0 c1 B1 O1 S1 ba hap ho4 hb4 hk4 B2 S2
      cases hp with
      | true =>
        cases want with
        | true =>
          have HR : Hid ((fs.take (k + 1)).filter (fun f => hopB fs f.1 == true) = (fs.take k).filter (fun f => hopB fs f.1 == true) ++ [(p, q)]) := HSN.out
          go_wp2_with (refine wpList_app_run _ rfl _ _ 32 32 rfl _ _ rfl rfl HAP.out ?_)
          go_roundw
          case rel => exact ⟨k + 1, by omega, by go_num, by rw [HR.out]; exact O4.out, S4.out, B4.out⟩
          case measure => simp [intOf]; omega
        | false =>
          have HR : Hid ((fs.take (k + 1)).filter (fun f => hopB fs f.1 == false) = (fs.take k).filter (fun f => hopB fs f.1 == false)) := by
            show _ = _
            rw [HSN.out]; exact List.append_nil _
          go_wp2_with fail
          go_roundw
          case rel => exact ⟨k + 1, by omega, by go_num, by rw [HR.out]; exact O3.out, S3.out, B3.out⟩
          case measure => simp [intOf]; omega
      | false =>
        cases want with
        | true =>
          have HR : Hid ((fs.take (k + 1)).filter (fun f => hopB fs f.1 == true) = (fs.take k).filter (fun f => hopB fs f.1 == true)) := by
            show _ = _
            rw [HSN.out]; exact List.append_nil _
          go_wp2_with fail
          go_roundw
          case rel => exact ⟨k + 1, by omega, by go_num, by rw [HR.out]; exact O3.out, S3.out, B3.out⟩
          case measure => simp [intOf]; omega
        | false =>
          have HR : Hid ((fs.take (k + 1)).filter (fun f => hopB fs f.1 == false) = (fs.take k).filter (fun f => hopB fs f.1 == false) ++ [(p, q)]) := HSN.out
          go_wp2_with (refine wpList_app_run _ rfl _ _ 32 32 rfl _ _ rfl rfl HAP.out ?_)
          go_roundw
          case rel => exact ⟨k + 1, by omega, by go_num, by rw [HR.out]; exact O4.out, S4.out, B4.out⟩
          case measure => simp [intOf]; omega
    · have hdk : decide ((k : Int) < (n : Int)) = false := decide_eq_false (by omega)
      have HF : Hid (fs.take k = fs) := by show _ = _; exact List.take_of_length_le (by rw [H.out.hlen]; omega)
      rw [HF.out] at j1
      have J1 := hide j1
      have J3 := hide j3
      clear j1 j2 j3 HI
      go_wp2_with fail
      go_ret
      exact ⟨_, rfl, J1.out, J3.out⟩
theorem keep_at (a : Option Addr) (n c : Nat) (fs : List Fd) (w : World) (hV : Vars w) (h : SrcF w a n c fs) (hfew : Few fs) :
    Calls Tryz.prog 31 #[.slice a n c] w fun e w' => ∃ v, e = .returned (.tuple #[v, .int .i64 ((somE fs false).2 : Nat)]) ∧ OwnF w' w.heap.size v (somE fs false).1 ∧ Below w.heap.size w w' := by
  have hl := h.hlen
  by_cases h64 : 64 < n
  · have q1 : decide (64 < (n : Int)) = true := decide_eq_true (by omega)
    have q2 : decide (64 < n) = true := decide_eq_true (by omega)
    have HE : Hid (somE fs false = ([], 3)) := by show _ = _; unfold somE; rw [if_pos (by omega)]
    clear hl h hfew
    go_enter Tryz.func31, Tryz.ntmps31
    go_wp2_with fail
    go_ret2
    exact ⟨_, by rw [HE.out]; rfl, by rw [HE.out]; exact OwnF.nilS _ _, Below.refl _ _⟩
  · have q1 : decide (64 < (n : Int)) = false := decide_eq_false (by omega)
    have q2 : decide (64 < n) = false := decide_eq_false (by omega)
    have HE : Hid (somE fs false = (fs.filter (fun f => hopB fs f.1 == false), 0)) := by show _ = _; unfold somE; rw [if_neg (by omega)]
    have HS := hide (sortedOut_at a n c fs false w hV h hfew (by omega))
    clear hl h hfew
    go_enter Tryz.func31, Tryz.ntmps31
    go_wp2_with fail
    refine HS.out.mono ?_
    rintro e w1 ⟨v, rfl, ho, hb⟩
    have O := hide ho
    have B := hide hb
    clear ho hb HS
    go_wp2_with fail
    go_ret2
    exact ⟨_, by rw [HE.out]; rfl, by rw [HE.out]; exact O.out, B.out⟩
end Go.Proofs.YtccoddmdlbdfjaaGreatDoor

set_option linter.unusedSimpArgs false
set_option linter.unusedVariables false
namespace Go.Proofs.YtccoddmdlbdfjaaGreatDoor
open Go.RowKit

/-- What a connection keeps of a request: four bytes, a name that is one, a port. -/
structure Rc.Ok (r : Rc) : Prop where
  a0 : r.x0 < 256
  a1 : r.x1 < 256
  a2 : r.x2 < 256
  a3 : r.x3 < 256
  hs : r.s.size ≤ 1000
  hp : r.p ≤ 65535
  ht : r.t.size ≤ 10000
  hm : r.m.size ≤ 1000
def Rc.de (r : Rc) : De := (([r.x0, r.x1, r.x2, r.x3], byt r.s), r.p)
/-- The destination's text. -/
def Rc.to (r : Rc) : List Nat := toT r.de
theorem Rc.to_eq (r : Rc) : r.to = if r.p = 80 then hot (r.x0, r.x1, r.x2, r.x3) (byt r.s) else det (r.x0, r.x1, r.x2, r.x3) (byt r.s) (r.p : Int) := rfl
theorem Rc.to_len (r : Rc) (h : r.Ok) : r.to.length ≤ 259 ∧ ∀ x ∈ r.to, x < 256 := by
  have ha : Ad.ok (r.x0, r.x1, r.x2, r.x3) := ⟨h.a0, h.a1, h.a2, h.a3⟩
  rw [Rc.to_eq]
  split
  · exact ⟨by have := hot_len (r.x0, r.x1, r.x2, r.x3) (byt r.s) ha; omega, fun x hx => by have := hot_mem _ _ x hx; omega⟩
  · exact ⟨det_len _ _ _ ha, det_lt _ _ _ (byt_lt r.s)⟩
set_option maxRecDepth 100000 in
theorem hostOf_at (r : Rc) (w : World) (h : r.Ok) (hV : Vars w) (hP : Pow w) : Calls Tryz.prog 119 #[.agg #[.int .u8 (r.x0 : Nat), .int .u8 (r.x1 : Nat), .int .u8 (r.x2 : Nat), .int .u8 (r.x3 : Nat), .string r.s, .int .i64 (r.p : Nat)]] w fun e w' => e = .returned (.string (strN r.to)) ∧ Below w.heap.size w w' := by
  have ha : Ad.ok (r.x0, r.x1, r.x2, r.x3) := ⟨h.a0, h.a1, h.a2, h.a3⟩
  have hsz : r.s.size ≤ maxLen := by have := h.hs; unfold maxLen; omega
  obtain ⟨W, hW⟩ : ∃ W, W = w.alloc (.cells #[.int .u8 (r.x0 : Nat), .int .u8 (r.x1 : Nat), .int .u8 (r.x2 : Nat), .int .u8 (r.x3 : Nat), .string r.s, .int .i64 (r.p : Nat)] 31) := ⟨_, rfl⟩
  have b1 : Below w.heap.size w W := by rw [hW]; exact (Below.refl _ _).alloc (Nat.le_refl _) _
  have HT : Hid (r.to = if r.p = 80 then hot (r.x0, r.x1, r.x2, r.x3) (byt r.s) else det (r.x0, r.x1, r.x2, r.x3) (byt r.s) (r.p : Int)) := r.to_eq
  have HH := hide (print_at (r.x0, r.x1, r.x2, r.x3) r.s W ha hsz (hV.below b1) (hP.below b1))
  have HD := hide (printDest_at (r.x0, r.x1, r.x2, r.x3) r.s (r.p : Nat) W ha hsz (hV.below b1) (hP.below b1))
  unfold hoV at HH
  unfold deV at HD
  obtain ⟨x0, x1, x2, x3, s, p, hx⟩ : ∃ x0 x1 x2 x3 s p, x0 = r.x0 ∧ x1 = r.x1 ∧ x2 = r.x2 ∧ x3 = r.x3 ∧ s = r.s ∧ p = r.p := ⟨_, _, _, _, _, _, rfl, rfl, rfl, rfl, rfl, rfl⟩
  obtain ⟨e0, e1, e2, e3, e4, e5⟩ := hx
  rw [← e0, ← e1, ← e2, ← e3, ← e4] at HH HT hW
  rw [← e0, ← e1, ← e2, ← e3, ← e4, ← e5] at HD
  rw [← e5] at HT hW
  rw [← e0, ← e1, ← e2, ← e3, ← e4, ← e5]
  obtain ⟨T, hT⟩ : ∃ T, T = r.to := ⟨_, rfl⟩
  rw [← hT] at HT ⊢
  obtain ⟨G, hG⟩ : ∃ G, G = w.heap.size := ⟨_, rfl⟩
  have hg : W.heap[G]? = some (.cells #[.int .u8 (x0 : Nat), .int .u8 (x1 : Nat), .int .u8 (x2 : Nat), .int .u8 (x3 : Nat), .string s, .int .i64 (p : Nat)] 31) := by rw [hW, hG]; exact alloc_new _ _
  have c0 : W.cell? ⟨G, 0, none⟩ = some (.int .u8 (x0 : Nat)) := by simp [World.cell?, hg]
  have c1 : W.cell? ⟨G, 1, none⟩ = some (.int .u8 (x1 : Nat)) := by simp [World.cell?, hg]
  have c2 : W.cell? ⟨G, 2, none⟩ = some (.int .u8 (x2 : Nat)) := by simp [World.cell?, hg]
  have c3 : W.cell? ⟨G, 3, none⟩ = some (.int .u8 (x3 : Nat)) := by simp [World.cell?, hg]
  have c4 : W.cell? ⟨G, 4, none⟩ = some (.string s) := by simp [World.cell?, hg]
  have c5 : W.cell? ⟨G, 5, none⟩ = some (.int .i64 (p : Nat)) := by simp [World.cell?, hg]
  have HW : Hid (w.alloc (.cells #[.int .u8 (x0 : Nat), .int .u8 (x1 : Nat), .int .u8 (x2 : Nat), .int .u8 (x3 : Nat), .string s, .int .i64 (p : Nat)] 31) = W) := hW.symm
  have HG := hide hG.symm
  have B1 := hide b1
  clear hW hG hg b1 ha hsz e0 e1 e2 e3 e4 e5 hT h hV hP
  by_cases hp : p = 80
  · have q : ((p : Int) == 80) = true := by simp; omega
    have HT2 : Hid (T = hot (x0, x1, x2, x3) (byt s)) := by have := HT.out; rwa [if_pos hp] at this
    clear HT HD hp
    go_enter Tryz.func119, Tryz.ntmps119
    go_wp2_with (first | (rw [HW.out, HG.out]))
    try (rw [HW.out, HG.out]; go_wp2_with fail)
    refine HH.out.mono ?_
    rintro e w1 ⟨rfl, k1⟩
    go_wp2_with fail
    go_ret
    exact ⟨by rw [HT2.out]; rfl, B1.out.trans (k1.mono B1.out.size)⟩
  · have q : ((p : Int) == 80) = false := by simp; omega
    have HT2 : Hid (T = det (x0, x1, x2, x3) (byt s) (p : Int)) := by have := HT.out; rwa [if_neg hp] at this
    clear HT HH hp
    go_enter Tryz.func119, Tryz.ntmps119
    go_wp2_with (first | (rw [HW.out, HG.out]))
    try (rw [HW.out, HG.out]; go_wp2_with fail)
    refine HD.out.mono ?_
    rintro e w1 ⟨rfl, k1⟩
    go_wp2_with fail
    go_ret
    exact ⟨by rw [HT2.out]; rfl, B1.out.trans (k1.mono B1.out.size)⟩
end Go.Proofs.YtccoddmdlbdfjaaGreatDoor

set_option linter.unusedSimpArgs false
set_option linter.unusedVariables false
namespace Go.Proofs.YtccoddmdlbdfjaaGreatDoor
open Go.RowKit

theorem n7_wh (l : List Nat) : n7 l = wh l 7 := rfl
set_option maxRecDepth 100000 in
set_option maxHeartbeats 4000000 in
theorem freadNumber_at (t : ByteArray) (w : World) (hm : t.size ≤ maxLen) : Calls Tryz.prog 60 #[.string t] w fun e w' => e = .returned (two (n7 (byt t))) ∧ Below w.heap.size w w' := by
  obtain ⟨l, hl⟩ : ∃ l, l = byt t := ⟨_, rfl⟩
  have hix : ∀ w, 0 < t.size → (Instr.index 9 (.string t) (.int .i64 0)).run Tryz.prog w = .ok (.int .u8 (l.getD 0 0 : Nat)) w := fun w h => by rw [hl]; exact run_ixstr t 0 h w
  have HLT : Hid (∀ k, l.getD k 0 < 256) := fun k => by rw [hl]; exact getD_lt (byt_lt t) k
  rw [← hl]
  have HL : Hid (byt t = l) := hl.symm
  obtain ⟨N, hN⟩ : ∃ N, N = t.size := ⟨_, rfl⟩
  have HN := hide hN
  unfold maxLen at hm
  have hNI : (t.size : Int) = (N : Int) := by rw [hN]
  have HNL : Hid (N = l.length) := by show _ = _; rw [hN, hl, byt_length]
  rw [← hN] at hm hix
  obtain ⟨cap, w1, hcv, hcap, hb1, hbeg⟩ := conv_bytes t w
  rw [← hN] at hcv hcap
  rw [← hl] at hbeg
  have HI0 : Hid (Beg w1 w.heap.size l ∧ Below w.heap.size w w1) := ⟨hbeg, hb1⟩
  clear hl hN hb1 hbeg
  by_cases h0 : N = 0
  · have he := toList_nil t (by rw [HL.out]; exact List.eq_nil_of_length_eq_zero (by rw [← HNL.out]; exact h0))
    obtain ⟨he1, he2⟩ := he
    have HR : Hid (n7 l = none) := by have := HNL.out; have e : l = [] := List.eq_nil_of_length_eq_zero (by omega); simp [n7, isNum, e, Hid]
    clear h0 hcv hix
    go_enter Tryz.func60, Tryz.ntmps60
    go_wp2_with fail
    go_ret2
    exact ⟨by rw [HR.out]; rfl, Below.refl _ _⟩
  have HNE : Hid (l ≠ []) := fun e => by have := HNL.out; rw [e] at this; simp at this; omega
  have he := toList_ne t (by rw [HL.out]; exact HNE.out)
  obtain ⟨he1, he2⟩ := he
  by_cases hNd : 7 < N
  · have q1 : decide (7 < (N : Int)) = true := decide_eq_true (by omega)
    have q1' : decide (7 < N) = true := decide_eq_true (by omega)
    have HR : Hid (n7 l = none) := by
      have := HNL.out
      have e : ¬ l.length ≤ 7 := by omega
      simp [n7, e, Hid]
    clear hcv hix
    go_enter Tryz.func60, Tryz.ntmps60
    go_wp2_with fail
    go_ret2
    exact ⟨by rw [HR.out]; rfl, Below.refl _ _⟩
  have q1 : decide (7 < (N : Int)) = false := decide_eq_false (by omega)
  have q1' : decide (7 < N) = false := decide_eq_false (by omega)
  have hx0 : ∀ w, (Instr.index 9 (.string t) (.int .i64 0)).run Tryz.prog w = .ok (.int .u8 (l.getD 0 0 : Nat)) w := fun w => hix w (by omega)
  have hc0 := HLT.out 0
  obtain ⟨c0, e0⟩ : ∃ c, c = l.getD 0 0 := ⟨_, rfl⟩
  rw [← e0] at hx0 hc0
  have HC0 := hide e0
  clear e0 hix
  have hN7 : N ≤ 7 := by omega
  have main : ∀ (b g : Bool), ((c0 : Int) == 48) = b → decide (1 < (N : Int)) = g → decide (1 < N) = g → (b && g) = false → (l.all dig = true → isNum l = true) →
      Calls Tryz.prog 60 #[.string t] w fun e w' => e = .returned (two (n7 l)) ∧ Below w.heap.size w w' := by
    intro b g hb g1 g1' hbg hP
    have HP := hide hP
    clear hP
    have three : (b = false ∧ g = false) ∨ (b = false ∧ g = true) ∨ (b = true ∧ g = false) := by
      cases b <;> cases g <;> simp at hbg ⊢
    clear hbg
    rcases three with ⟨rfl, rfl⟩ | ⟨rfl, rfl⟩ | ⟨rfl, rfl⟩
    all_goals
      go_enter Tryz.func60, Tryz.ntmps60
      go_wp2_with fail
      clear hb hx0 hc0 g1 g1' hcv
      go_loop [4, 27] (fun n i => ∃ k : Nat, k ≤ N ∧ i = .int .i64 k ∧ ∃ v : Nat, n = .int .i64 v ∧ v < 10000000 ∧ Hid (v = val 0 (l.take k) ∧ v < 10 ^ k ∧ (l.take k).all dig = true)) (fun _ i => N - (intOf i).toNat)
      case atStart => exact ⟨0, by omega, rfl, 0, rfl, by omega, rfl, by simp, rfl⟩
      case round =>
        obtain ⟨k, hk, rfl, v, rfl, hv5, HI⟩ := hrel
        by_cases h1 : k < N
        · have hl : k < l.length := by rw [← HNL.out]; exact h1
          have hcl := HI0.out.1.cell hl
          have hc := HLT.out k
          obtain ⟨i1, i2, i3⟩ := HI.out
          have HT : Hid (val 0 (l.take (k + 1)) = step v (l.getD k 0)) := by show _ = _; rw [take_snoc l k hl, val_snoc, ← i1]
          have HA : Hid (dig (l.getD k 0) = true → (l.take (k + 1)).all dig = true) := fun h => by rw [take_snoc l k hl, List.all_append, i3, List.all_cons, List.all_nil, h]; rfl
          have HF : Hid (dig (l.getD k 0) = false → n7 l = none) := fun h => by
            unfold n7
            rw [if_neg]
            rintro ⟨hn, _⟩
            rw [isNum_of] at hn
            simp only [Bool.and_eq_true] at hn
            have := List.all_eq_true.1 hn.1.2 (l.getD k 0) (getD_mem hl)
            rw [h] at this; cases this
          have HPW : Hid (∀ c, c ≤ 57 → step v c < 10 ^ (k + 1)) := fun c hcc => by
            unfold step; rw [Nat.pow_succ]; omega
          have HP5 : Hid (10 ^ (k + 1) ≤ 10000000) := Nat.pow_le_pow_right (n := 10) (by omega) (show k + 1 ≤ 7 by omega)
          obtain ⟨c, hcc⟩ : ∃ c, c = l.getD k 0 := ⟨_, rfl⟩
          rw [← hcc] at hcl hc HT HA HF
          clear hcc hl i1 i2 i3
          have hdd : decide ((k : Int) < (N : Int)) = true := decide_eq_true (by omega)
          by_cases h48 : c < 48
          · have q1 : decide ((c : Int) < 48) = true := decide_eq_true (by omega)
            have HR := hide (HF.out (by simp [dig]; omega))
            go_wp2_with fail
            go_ret2
            refine ⟨?_, HI0.out.2⟩
            rw [HR.out]; rfl
          · have q1 : decide ((c : Int) < 48) = false := decide_eq_false (by omega)
            by_cases h57 : 57 < c
            · have q2 : decide (57 < (c : Int)) = true := decide_eq_true (by omega)
              have HR := hide (HF.out (by simp [dig]; omega))
              go_wp2_with fail
              go_ret2
              refine ⟨?_, HI0.out.2⟩
              rw [HR.out]; rfl
            · have q2 : decide (57 < (c : Int)) = false := decide_eq_false (by omega)
              have HO := hide (HA.out (by simp [dig]; omega))
              have HW := hide (HPW.out c (by omega))
              obtain ⟨V, hV⟩ : ∃ V, V = step v c := ⟨_, rfl⟩
              rw [← hV] at HT HW
              have hVI : 10 * (v : Int) + ((c : Int) - 48) = (V : Int) := by rw [hV, step]; omega
              have hV5 : V < 10000000 := Nat.lt_of_lt_of_le HW.out HP5.out
              clear hV
              go_wp2_with fail
              go_round
              case rel => exact ⟨k + 1, by omega, by go_num, V, by first | rfl | go_num, hV5, HT.out.symm, HW.out, HO.out⟩
              case measure => simp [intOf]; omega
        · have hdd : decide ((k : Int) < (N : Int)) = false := decide_eq_false (by omega)
          have HR : Hid (n7 l = some v) := by
            obtain ⟨i1, i2, i3⟩ := HI.out
            rw [List.take_of_length_le (by rw [← HNL.out]; omega)] at i1 i3
            show n7 l = some v
            rw [n7, if_pos ⟨HP.out i3, by rw [← HNL.out]; omega⟩, i1]
          go_wp2_with fail
          go_ret2
          refine ⟨?_, HI0.out.2⟩
          rw [HR.out]; rfl
  by_cases h48 : c0 = 48
  · have hb : ((c0 : Int) == 48) = true := by simp; omega
    by_cases h1N : 1 < N
    · have g1 : decide (1 < (N : Int)) = true := decide_eq_true (by omega)
      have g1' : decide (1 < N) = true := decide_eq_true (by omega)
      have HR : Hid (n7 l = none) := by
        have : isNum l = false := by rw [isNum_of, headD_getD, ← HC0.out, h48, ← HNL.out]; simp [h1N]
        simp [n7, this, Hid]
      clear h48 main hcv
      go_enter Tryz.func60, Tryz.ntmps60
      go_wp2_with fail
      go_ret2
      exact ⟨by rw [HR.out]; rfl, Below.refl _ _⟩
    · exact main true false hb (decide_eq_false (by omega)) (decide_eq_false (by omega)) rfl (fun h => by rw [isNum_of, ← HNL.out, h]; simp [h1N, HNE.out])
  · have hb : ((c0 : Int) == 48) = false := by simp; omega
    by_cases h1N : 1 < N
    · exact main false true hb (decide_eq_true (by omega)) (decide_eq_true (by omega)) rfl (fun h => by rw [isNum_of, headD_getD, ← HC0.out, h]; simp [h48, HNE.out])
    · exact main false false hb (decide_eq_false (by omega)) (decide_eq_false (by omega)) rfl (fun h => by rw [isNum_of, headD_getD, ← HC0.out, h]; simp [h48, HNE.out])
theorem pre_take (s p : List UInt8) : Lib.hasPrefix s p = decide ((s.map UInt8.toNat).take p.length = p.map UInt8.toNat) := by
  unfold Lib.hasPrefix
  induction p generalizing s with
  | nil => simp
  | cons a p ih =>
    cases s with
    | nil => simp
    | cons b s =>
      rw [List.isPrefixOf, ih]
      simp only [List.map_cons, List.length_cons, List.take_succ_cons, List.cons.injEq]
      by_cases h : a = b
      · subst h; simp
      · have h2 : ¬ b.toNat = a.toNat := fun e => h (UInt8.toNat_inj.1 e.symm)
        simp [h, h2]
theorem n7_le (l : List Nat) : (n7 l).getD 0 < 10000000 := by
  cases h : n7 l with
  | none => simp
  | some m => simpa using n7_lt h
end Go.Proofs.YtccoddmdlbdfjaaGreatDoor

set_option linter.unusedSimpArgs false
set_option linter.unusedVariables false
namespace Go.Proofs.YtccoddmdlbdfjaaGreatDoor
open Go.RowKit

theorem get_val : ∀ (fs : List Fd) (n : List Nat), (get fs n).1 = [] ∨ ∃ f ∈ fs, (get fs n).1 = f.2
  | [], _ => Or.inl rfl
  | g :: r, n => by
    rw [get]
    split
    · exact Or.inr ⟨g, List.mem_cons_self, rfl⟩
    · rcases get_val r n with h | ⟨f, hf, e⟩
      · exact Or.inl h
      · exact Or.inr ⟨f, List.mem_cons_of_mem _ hf, e⟩
theorem get_ok {fs : List Fd} (hb : okB fs) (hf : Few fs) (n : List Nat) : (∀ x ∈ (get fs n).1, x < 256) ∧ (strN (get fs n).1).size ≤ 2000000 := by
  rw [strN_size]
  rcases get_val fs n with h | ⟨f, hm, h⟩
  · rw [h]; simp
  · rw [h]; exact ⟨(hb f hm).2, (hf.name f hm).2⟩
set_option maxRecDepth 100000 in
theorem length_at (a : Option Addr) (n c : Nat) (fs : List Fd) (w : World) (h : SrcF w a n c fs) (hfew : Few fs) :
    Calls Tryz.prog 35 #[.slice a n c] w fun e w' => e = .returned (two (lenv fs)) ∧ Below w.heap.size w w' := by
  have hfm : ∀ f ∈ fs, f.1.length ≤ maxLen := fun f hf => by have := (hfew.name f hf).1; unfold maxLen; omega
  have HG1 := hide (get_at a n c fs ⟨#[99, 111, 110, 116, 101, 110, 116, 45, 108, 101, 110, 103, 116, 104]⟩ w h hfm (by decide))
  rw [show byt (⟨#[99, 111, 110, 116, 101, 110, 116, 45, 108, 101, 110, 103, 116, 104]⟩ : ByteArray) = clS from rfl] at HG1
  have HG2 : Hid (∀ W, Below w.heap.size w W → Calls Tryz.prog 59 #[.slice a n c, .string ⟨#[116, 114, 97, 110, 115, 102, 101, 114, 45, 101, 110, 99, 111, 100, 105, 110, 103]⟩] W fun e w' => e = .returned (.tuple #[.string (strN (get fs teS).1), .int .i64 ((get fs teS).2 : Nat)]) ∧ Below W.heap.size W w') := fun W hW =>
    get_at a n c fs ⟨#[116, 114, 97, 110, 115, 102, 101, 114, 45, 101, 110, 99, 111, 100, 105, 110, 103]⟩ W (h.below hW) hfm (by decide)
  obtain ⟨ok1, ok2⟩ := get_ok h.byte hfew clS
  have HN : Hid (∀ W, Calls Tryz.prog 60 #[.string (strN (get fs clS).1)] W fun e w' => e = .returned (two (n7 (get fs clS).1)) ∧ Below W.heap.size W w') := fun W => by
    have := freadNumber_at (strN (get fs clS).1) W (by unfold maxLen; omega)
    rw [byt_strN _ ok1] at this
    exact this
  have HV : Hid (lenv fs = if (get fs clS).2 = 1 ∧ (get fs teS).2 = 0 then n7 (get fs clS).1 else none) := rfl
  obtain ⟨V, hV⟩ : ∃ x, x = strN (get fs clS).1 := ⟨_, rfl⟩
  obtain ⟨C, hC⟩ : ∃ x, x = (get fs clS).2 := ⟨_, rfl⟩
  obtain ⟨U, hU⟩ : ∃ x, x = strN (get fs teS).1 := ⟨_, rfl⟩
  obtain ⟨M, hM⟩ : ∃ x, x = (get fs teS).2 := ⟨_, rfl⟩
  obtain ⟨N, hN⟩ : ∃ x, x = n7 (get fs clS).1 := ⟨_, rfl⟩
  rw [← hV, ← hC] at HG1
  rw [← hU, ← hM] at HG2
  rw [← hV, ← hN] at HN
  rw [← hC, ← hM, ← hN] at HV
  obtain ⟨R, hR⟩ : ∃ x, x = lenv fs := ⟨_, rfl⟩
  rw [← hR] at HV ⊢
  clear hV hC hU hM hN hR ok1 ok2 h hfew hfm
  go_enter Tryz.func35, Tryz.ntmps35
  go_wp2_with fail
  refine HG1.out.mono ?_
  rintro e w1 ⟨rfl, k1⟩
  have B1 := hide k1
  clear k1 HG1
  go_wp2_with fail
  refine (HG2.out _ B1.out).mono ?_
  rintro e w2 ⟨rfl, k2⟩
  have B2 := hide (B1.out.trans (k2.mono B1.out.size))
  clear k2 HG2
  by_cases hc : C = 1
  · have q1 : ((C : Int) != 1) = false := by simp; omega
    have q1' : ((C : Int) == 1) = true := by simp; omega
    by_cases hm : M = 0
    · have q2 : decide (0 < (M : Int)) = false := decide_eq_false (by omega)
      have q2n : decide (0 < M) = false := decide_eq_false (by omega)
      rw [if_pos ⟨hc, hm⟩] at HV
      clear hc hm
      go_wp2_with fail
      refine (HN.out _).mono ?_
      rintro e w3 ⟨rfl, k3⟩
      have B3 := hide (B2.out.trans (k3.mono B2.out.size))
      clear k3 HN
      rw [← HV.out]
      clear HV
      unfold two
      go_wp2_with fail
      go_ret2
      exact ⟨rfl, B3.out⟩
    · have q2 : decide (0 < (M : Int)) = true := decide_eq_true (by omega)
      have q2n : decide (0 < M) = true := decide_eq_true (by omega)
      rw [if_neg (fun x => hm x.2)] at HV
      clear hc hm
      go_wp2_with fail
      go_ret2
      exact ⟨by rw [HV.out]; rfl, B2.out⟩
  · have q1 : ((C : Int) != 1) = true := by simp; omega
    have q1' : ((C : Int) == 1) = false := by simp; omega
    rw [if_neg (fun x => hc x.1)] at HV
    clear hc
    go_wp2_with fail
    go_ret2
    exact ⟨by rw [HV.out]; rfl, B2.out⟩
end Go.Proofs.YtccoddmdlbdfjaaGreatDoor
