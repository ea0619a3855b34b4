/-
  The end of a walk along a name, and Name; The reader of messages: names within, heads, questions; conditions as each theorem has them.
-/
import Derived.Test.YtabkelhipmijfaaGreatDoorY
set_option linter.unusedSimpArgs false
set_option linter.unusedVariables false
namespace Go.Proofs.YtabkelhipmijfaaGreatDoor
open Go.RowKit

theorem IsEr.ptr' {w : World} {e : Er} {v : Value} (h : IsEr w e v) (he : e ≠ .ok) : ∃ b, v = .iface 156 (.pointer (some ⟨b, 0, none⟩)) := by
  cases e with
  | ok => exact absurd rfl he
  | one a c => obtain ⟨b, hv, _⟩ := h; exact ⟨b, hv⟩
  | two a a2 c => obtain ⟨b, b2, hv, _⟩ := h; exact ⟨b, hv⟩
/-- What is told at the end of a walk. -/
def fnE (A p : Nat) (t : List Nat) (e : Er) : Er := if (name t).2 = .ok then e else (stp A 63 (p, e)).2
set_option maxRecDepth 100000 in
set_option maxHeartbeats 2000000 in
theorem wname_at (B g A : Nat) (a : Option Addr) (n c : Nat) (b : List Nat) (q p bh : Nat) (t : List Nat) (o : Bool) (e : Er) (w : World) (h : Wlk w B g A a n c b q p bh t o e) :
    Calls Tryz.prog 126 #[.pointer (some ⟨g, 0, none⟩)] w fun x w' => x = .returned (.string (strN (name t).1)) ∧ Wlk w' B g A a n c b q p bh t o (fnE A p t e) ∧ Below B w w' := by
  have H := hide h
  obtain ⟨v, u, h1, _, ow⟩ := h.row
  obtain ⟨ua, uc, rfl, us, ub⟩ := own_src ow h.tb
  have c6 : w.cell? ⟨g, 6, none⟩ = some (.slice ua t.length uc) := h1.cell 6
  have hgs := h1.lt
  have q1 := run_str_src us
  have htl := h.tl
  have HP := hide (parseName_at (strN t) w (by rw [strN_size]; unfold maxLen; omega) h.va)
  have hbt : byt (strN t) = t := byt_strN t h.tb
  rw [hbt] at HP
  obtain ⟨nx, hnx⟩ : ∃ nx, nx = strN (name t).1 := ⟨_, rfl⟩
  obtain ⟨ex, hex⟩ : ∃ ex, ex = (name t).2 := ⟨_, rfl⟩
  obtain ⟨fx, hfx⟩ : ∃ fx, fx = fnE A p t e := ⟨_, rfl⟩
  have HFX : Hid (fx = if ex = .ok then e else (stp A 63 (p, e)).2) := by show _ = _; rw [hfx, fnE, ← hex]
  rw [← hnx, ← hex] at HP
  rw [← hnx, ← hfx]
  clear h h1 ow us ub hbt hnx hex hfx htl
  go_enter Tryz.func126, Tryz.ntmps126
  go_wp2_with fail
  refine HP.out.mono ?_
  rintro e1 w1 ⟨v1, rfl, i1, b1⟩
  have R1 := hide (H.out.below b1)
  have B1 := hide (b1.mono H.out.hBs)
  obtain ⟨v2, u2, h2, _⟩ := (H.out.below b1).row
  have c3 : w1.cell? ⟨g, 3, none⟩ = some (.int .i64 (A : Nat)) := h2.cell 3
  have hg1 := h2.lt
  clear h2 b1 HP q1 c6
  by_cases hok : ex = .ok
  · subst hok
    obtain rfl : v1 = .nilIface := i1
    have HE : Hid (fx = e) := by show _ = _; rw [HFX.out, if_pos rfl]
    go_wp2_with fail
    go_ret
    rw [HE.out]
    exact ⟨rfl, R1.out, B1.out⟩
  · obtain ⟨bb, rfl⟩ := i1.ptr' hok
    have HE : Hid (fx = (stp A 63 (p, e)).2) := by show _ = _; rw [HFX.out, if_neg hok]
    have HST := hide (R1.out.drew.stop (A : Int) A 63 (fun _ => rfl))
    rw [show ((63 : Nat) : Int) = 63 from rfl] at HST
    clear i1 hok
    go_wp2_with fail
    go_region_with (first | (go_at_call 105; refine HST.out.mono ?_; rintro e w8 ⟨rfl, r8, b8⟩; have R8 := hide r8; have B8 := hide b8; clear r8 b8))
    all_goals (try go_wp2_with fail)
    all_goals go_ret
    all_goals (rw [HE.out])
    all_goals (exact ⟨rfl, R8.out, B1.out.trans (below_of_drew B8.out)⟩)
/-- What Name tells. -/
def namI (b : List Nat) (at_ : Int) : List Nat × Nat × Er := if at_ < 0 then ([], 0, .one b.length 6) else nam b at_.toNat
set_option maxRecDepth 100000 in
set_option maxHeartbeats 4000000 in
theorem name_at (a : Option Addr) (n c : Nat) (b : List Nat) (at_ : Int) (w : World) (h : Src w a n c b) (hV : Vars w) (hlo : -9223372036854775808 ≤ at_) (hhi : at_ ≤ 9223372036854775807) :
    Calls Tryz.prog 118 #[.slice a n c, .int .i64 at_] w fun e w' => ∃ v, e = .returned (.tuple #[.string (strN (namI b at_).1), .int .i64 ((namI b at_).2.1 : Nat), v]) ∧ IsF w' (namI b at_).2.2 v ∧ Below w.heap.size w w' := by
  have hln := h.hlen
  by_cases hneg : at_ < 0
  · have HN : Hid (namI b at_ = ([], 0, .one n 6)) := by show _ = _; rw [namI, if_pos hneg, hln]
    have HR := hide (drefuse_at n 6 w)
    rw [HN.out]
    have hd : decide (at_ < 0) = true := decide_eq_true hneg
    have hb : Below w.heap.size w (w.alloc (dflt n 6)) := (Below.refl _ _).alloc (Nat.le_refl _) _
    have hi : IsF (w.alloc (dflt n 6)) (.one n 6) (.iface 156 (.pointer (some ⟨w.heap.size, 0, none⟩))) := ⟨_, rfl, alloc_new _ _⟩
    have HB := hide hb
    have HI := hide hi
    clear h hneg hb hi
    go_enter Tryz.func118, Tryz.ntmps118
    go_wp2_with fail
    refine HR.out.mono ?_
    rintro e w1 ⟨rfl, rfl⟩
    go_wp2_with fail
    go_returns
    exact ⟨_, rfl, HI.out, HB.out⟩
  · obtain ⟨A, rfl⟩ : ∃ A : Nat, at_ = (A : Int) := ⟨at_.toNat, by omega⟩
    have HN : Hid (namI b (A : Int) = nam b A) := by show _ = _; rw [namI, if_neg hneg]; rfl
    rw [HN.out]
    have hd : decide ((A : Int) < 0) = false := decide_eq_false hneg
    obtain ⟨R, hR⟩ : ∃ R, R = nam b A := ⟨_, rfl⟩
    rw [← hR]
    have HBAD : Hid (R.2.2 ≠ .ok → R = ([], 0, R.2.2)) := by rw [hR]; exact nam_bad
    have b1 : Below w.heap.size w (w.alloc (.cells #[.slice a n c, .int .i64 (A : Nat), .nilIface, .int .i64 (A : Nat), .int .i64 (A : Nat), .int .i64 0, .slice none 0 0, .bool false] 215)) := (Below.refl _ _).alloc (Nat.le_refl _) _
    have hW : Wlk (w.alloc (.cells #[.slice a n c, .int .i64 (A : Nat), .nilIface, .int .i64 (A : Nat), .int .i64 (A : Nat), .int .i64 0, .slice none 0 0, .bool false] 215)) w.heap.size w.heap.size A a n c b A A 0 [] false .ok :=
      ⟨⟨.nilIface, .slice none 0 0, Row.new w _ 215, rfl, own_nil _ _⟩, h.below b1, Nat.le_refl _, fun h0 bl of e => h.lt h0 e, by simp, by simp, by omega, by omega, by omega, by omega, hV.below b1, by obtain ⟨m, hm⟩ := hV; exact lt_of_cell (a := ⟨0, 0, none⟩) hm⟩
    obtain ⟨w0, hw0⟩ : ∃ w0, w0 = w.alloc (.cells #[.slice a n c, .int .i64 (A : Nat), .nilIface, .int .i64 (A : Nat), .int .i64 (A : Nat), .int .i64 0, .slice none 0 0, .bool false] 215) := ⟨_, rfl⟩
    rw [← hw0] at b1 hW
    have HW0 := hide hw0.symm
    have HW := hide hW
    have B1 := hide b1
    have HRR : Hid (R = nm b A A A [] 0) := hR
    clear h hV hneg b1 hW hw0 hR HN
    go_enter Tryz.func118, Tryz.ntmps118
    go_wp2_with fail
    rw [HW0.out]
    go_loopg [] (mea n A A + 1) (fun k wr => Hid (∃ q p bh t o e, Wlk wr w.heap.size w.heap.size A a n c b q p bh t o e ∧ Below w.heap.size w wr ∧ (e ≠ .ok → R = ([], 0, e)) ∧ (e = .ok → o = true → R = if (name t).2 = .ok then ((name t).1, bh, .ok) else ([], 0, .one A 63)) ∧ (e = .ok → o = false → t.length ≤ 253 ∧ R = nm b A q p t bh ∧ mea n q p < k)))
    case atStart => exact ⟨A, A, 0, [], false, .ok, HW.out, B1.out, fun e => absurd rfl e, (fun _ e => by cases e), fun _ _ => ⟨by simp, HRR.out, by omega⟩⟩
    case round =>
      obtain ⟨q, p, bh, t, o, e, r, kb, f1, f2, f3⟩ := hrel.out
      have RR := hide r
      have KB := hide kb
      obtain ⟨v, u, h1, i1, _⟩ := r.row
      have c2 : wr.cell? ⟨w.heap.size, 2, none⟩ = some v := h1.cell 2
      have c7 : wr.cell? ⟨w.heap.size, 7, none⟩ = some (.bool o) := h1.cell 7
      have c5 : wr.cell? ⟨w.heap.size, 5, none⟩ = some (.int .i64 (bh : Nat)) := h1.cell 5
      have hgs := h1.lt
      have HQ := hide (wname_at w.heap.size w.heap.size A a n c b q p bh t o e wr r)
      have HEND : Hid (∀ w2, Wlk w2 w.heap.size w.heap.size A a n c b q p bh t o (fnE A p t e) → (e ≠ .ok ∨ o = true) → R.2.2 = fnE A p t e ∧ (fnE A p t e = .ok → (name t).1 = R.1 ∧ bh = R.2.1) ∧ (fnE A p t e ≠ .ok → R = ([], 0, fnE A p t e))) := fun w2 _ hor => by
        by_cases he : e = .ok
        · have ho : o = true := by rcases hor with h | h; exact absurd he h; exact h
          have := f2 he ho
          unfold fnE
          split at this
          · rename_i hn
            rw [if_pos hn, he, this]
            exact ⟨rfl, fun _ => ⟨rfl, rfl⟩, fun e => absurd rfl e⟩
          · rename_i hn
            rw [if_neg hn, he, this]
            exact ⟨rfl, (fun e => by cases e), fun _ => rfl⟩
        · have := f1 he
          have ef : fnE A p t e = e := by unfold fnE; split; rfl; rw [stp_bad he]
          rw [ef, this]
          exact ⟨rfl, fun e' => absurd e' he, fun _ => rfl⟩
      by_cases he : e = .ok
      · subst he
        obtain rfl : v = .nilIface := i1
        cases o with
        | false =>
          obtain ⟨g1, g2, g3⟩ := f3 rfl rfl
          have HS := hide (step_at w.heap.size w.heap.size A a n c b q p bh t wr r g1)
          have G2 := hide g2
          have G3 := hide g3
          clear r kb f1 f2 f3 h1 g1 g2 g3 hrel HQ HEND HW
          go_wp2_with fail
          refine HS.out.mono ?_
          rintro x w1 ⟨rfl, q', p', bh', t', o', e', r', kb', j1, j2, j3⟩
          have HJ : Hid (∃ q p bh t o e, Wlk w1 w.heap.size w.heap.size A a n c b q p bh t o e ∧ Below w.heap.size w w1 ∧ (e ≠ .ok → R = ([], 0, e)) ∧ (e = .ok → o = true → R = if (name t).2 = .ok then ((name t).1, bh, .ok) else ([], 0, .one A 63)) ∧ (e = .ok → o = false → t.length ≤ 253 ∧ R = nm b A q p t bh ∧ mea n q p < gk - 1)) := by
            refine ⟨q', p', bh', t', o', e', r', KB.out.trans kb', fun h => G2.out.trans (j1 h), fun h1 h2 => G2.out.trans (j2 h1 h2), fun h1 h2 => ?_⟩
            obtain ⟨y1, y2, y3⟩ := j3 h1 h2
            exact ⟨y1, G2.out.trans y2, by have := G3.out; omega⟩
          clear r' kb' j1 j2 j3
          go_wp2_with fail
          go_roundg (gk - 1)
          case measure => have := G3.out; omega
          case rel => exact HJ.out
        | true =>
          clear r kb f1 f2 f3 h1 hrel HW
          go_wp2_with fail
          refine HQ.out.mono ?_
          rintro x w1 ⟨rfl, r1, k1⟩
          obtain ⟨y1, y2, y3⟩ := HEND.out w1 r1 (by simp)
          have Y2 := hide y2
          have Y3 := hide y3
          have B1' := hide (KB.out.trans k1)
          obtain ⟨v2, u2, h2, i2, _⟩ := r1.row
          have d2 : w1.cell? ⟨w.heap.size, 2, none⟩ = some v2 := h2.cell 2
          have d5 : w1.cell? ⟨w.heap.size, 5, none⟩ = some (.int .i64 (bh : Nat)) := h2.cell 5
          have hg2 := h2.lt
          rw [← y1] at i2
          have I2 := hide i2
          by_cases hf : R.2.2 = .ok
          · obtain rfl := i2.nil hf
            obtain ⟨n1, n2⟩ := y2 (by rw [← y1]; exact hf)
            have N1 : Hid ((name t).1 = R.1) := n1
            have N2 : Hid ((bh : Nat) = R.2.1) := n2
            have HF := hide hf
            clear r1 k1 y1 y2 y3 h2 i2 n1 n2 hf c2 c5 c7
            go_wp2_with fail
            go_region
            go_wp2_with fail
            go_returns
            exact ⟨.nilIface, by rw [← N1.out, ← N2.out]; rfl, I2.out.keep fun _ _ _ => rfl, B1'.out.drew⟩
          · obtain ⟨x2, rfl⟩ := i2.ptr hf
            have HB2 := hide (HBAD.out hf)
            clear r1 k1 y1 y2 y3 h2 i2 hf c2 c5 c7
            go_wp2_with fail
            go_region
            go_wp2_with fail
            go_returns
            exact ⟨_, by rw [HB2.out]; rfl, I2.out.keep fun _ _ _ => rfl, B1'.out.drew⟩
      · obtain ⟨x1, rfl⟩ := i1.ptr he
        have HE0 := hide he
        clear r kb f1 f2 f3 h1 hrel HW he
        go_wp2_with fail
        refine HQ.out.mono ?_
        rintro x w1 ⟨rfl, r1, k1⟩
        obtain ⟨y1, y2, y3⟩ := HEND.out w1 r1 (Or.inl HE0.out)
        have Y2 := hide y2
        have Y3 := hide y3
        have B1' := hide (KB.out.trans k1)
        obtain ⟨v2, u2, h2, i2, _⟩ := r1.row
        have d2 : w1.cell? ⟨w.heap.size, 2, none⟩ = some v2 := h2.cell 2
        have d5 : w1.cell? ⟨w.heap.size, 5, none⟩ = some (.int .i64 (bh : Nat)) := h2.cell 5
        have hg2 := h2.lt
        rw [← y1] at i2
        have I2 := hide i2
        by_cases hf : R.2.2 = .ok
        · obtain rfl := i2.nil hf
          obtain ⟨n1, n2⟩ := y2 (by rw [← y1]; exact hf)
          have N1 : Hid ((name t).1 = R.1) := n1
          have N2 : Hid ((bh : Nat) = R.2.1) := n2
          have HF := hide hf
          clear r1 k1 y1 y2 y3 h2 i2 n1 n2 hf c2 c5 c7
          go_wp2_with fail
          go_region
          go_wp2_with fail
          go_returns
          exact ⟨.nilIface, by rw [← N1.out, ← N2.out]; rfl, I2.out.keep fun _ _ _ => rfl, B1'.out.drew⟩
        · obtain ⟨x2, rfl⟩ := i2.ptr hf
          have HB2 := hide (HBAD.out hf)
          clear r1 k1 y1 y2 y3 h2 i2 hf c2 c5 c7
          go_wp2_with fail
          go_region
          go_wp2_with fail
          go_returns
          exact ⟨_, by rw [HB2.out]; rfl, I2.out.keep fun _ _ _ => rfl, B1'.out.drew⟩
end Go.Proofs.YtabkelhipmijfaaGreatDoor

set_option linter.unusedSimpArgs false
set_option linter.unusedVariables false
namespace Go.Proofs.YtabkelhipmijfaaGreatDoor
open Go.RowKit
theorem and_i64 (x y : Nat) (hx : x < 65536) (hy : y < 65536) : bits .and .i64 (x : Int) (y : Int) = ((x &&& y : Nat) : Int) := by
  have h1 : (BitVec.ofInt 64 (x : Int)).toNat = x := by
    rw [BitVec.ofInt_natCast, BitVec.toNat_ofNat]; exact Nat.mod_eq_of_lt (by omega)
  have h2 : (BitVec.ofInt 64 (y : Int)).toNat = y := by
    rw [BitVec.ofInt_natCast, BitVec.toNat_ofNat]; exact Nat.mod_eq_of_lt (by omega)
  have hle : x &&& y ≤ x := Nat.and_le_left
  show IntKind.i64.wrap ((BitVec.ofInt 64 (x : Int) &&& BitVec.ofInt 64 (y : Int)).toNat : Int) = _
  rw [BitVec.toNat_and, h1, h2, IntKind.wrap_i64]
  omega
theorem Rdr.src' {w : World} {g : Nat} {ty : TypeId} {R : List Value} {a : Option Addr} {n c : Nat} {b : List Nat} {s : Sr} (h : Rdr w g ty R a n c b s) : Src w a n c b := h.src
set_option maxRecDepth 100000 in
set_option maxHeartbeats 2000000 in
theorem mname_at (g : Nat) (a : Option Addr) (n c : Nat) (b : List Nat) (s : Sr) (w : World) (h : Rdr w g 148 [] a n c b s) (hV : Vars w) (hn : n ≤ 140737488351232) (hg0 : 0 < g) :
    Calls Tryz.prog 108 #[.pointer (some ⟨g, 0, none⟩)] w fun e w' => e = .returned (.string (strN (mn b s).1)) ∧ Rdr w' g 148 [] a n c b (mn b s).2 ∧ Kept g g w w' ∧ Vars w' := by
  have H := hide h
  obtain ⟨⟨v, h1, h2⟩, h3, h4, h5, h6⟩ := h
  have hg := h1.lt
  have c0 : w.cell? ⟨g, 0, none⟩ = some (.slice a n c) := h1.cell 0
  have c1 : w.cell? ⟨g, 1, none⟩ = some (.int .i64 (s.1 : Nat)) := h1.cell 1
  have c2 : w.cell? ⟨g, 2, none⟩ = some v := h1.cell 2
  have hln := h3.hlen
  by_cases hok : s.2 = .ok
  · obtain rfl := h2.nil hok
    have HN := hide (name_at a n c b (s.1 : Nat) w.drew h3.drew hV (by omega) (by omega))
    have HM : Hid (mn b s = ((namI b (s.1 : Nat)).1, (namI b (s.1 : Nat)).2)) := by show _ = _; rw [mn, if_pos hok, namI, if_neg (by omega)]; rfl
    have HEND : Hid ((namI b (s.1 : Nat)).2.1 ≤ n) := by
      show _ ≤ _
      rw [namI, if_neg (by omega)]
      show (nam b s.1).2.1 ≤ n
      by_cases ho : (nam b s.1).2.2 = .ok
      · have := (nam_good ho).2.1; omega
      · rw [nam_bad ho]; simp
    obtain ⟨S, hS⟩ : ∃ S, S = s.1 := ⟨_, rfl⟩
    rw [← hS] at c1 HN HM HEND
    obtain ⟨R, hR⟩ : ∃ R, R = namI b (S : Nat) := ⟨_, rfl⟩
    rw [← hR] at HN HM HEND
    have HZ : Hid (∀ w2 v2, IsF w2 R.2.2 v2 → Below w.drew.heap.size w.drew w2 → w2.cell? ⟨g, 1, none⟩ = some (.int .i64 (S : Nat)) ∧ w2.cell? ⟨g, 2, none⟩ = some .nilIface ∧ w2.frozen? ⟨g, 1, none⟩ = false ∧ w2.frozen? ⟨g, 2, none⟩ = false ∧ (w2.setCell ⟨g, 1, none⟩ (.int .i64 (R.2.1 : Nat))).frozen? ⟨g, 2, none⟩ = false ∧ g < w2.heap.size ∧
        (Rdr ((w2.setCell ⟨g, 1, none⟩ (.int .i64 (R.2.1 : Nat))).setCell ⟨g, 2, none⟩ v2) g 148 [] a n c b R.2 ∧ Kept g g w ((w2.setCell ⟨g, 1, none⟩ (.int .i64 (R.2.1 : Nat))).setCell ⟨g, 2, none⟩ v2) ∧ Vars ((w2.setCell ⟨g, 1, none⟩ (.int .i64 (R.2.1 : Nat))).setCell ⟨g, 2, none⟩ v2))) := fun w2 v2 hi hb => by
      have hb' : Below w.heap.size w w2 := below_of_drew hb
      have r2 : Row w2 g 148 [.slice a n c, .int .i64 (s.1 : Nat), .nilIface] := h1.keep (hb'.block g h1.lt)
      rw [← hS] at r2
      have r3 := (r2.set 1 (.int .i64 (R.2.1 : Nat)))
      have r4 := r3.set 2 v2
      have k4 : Kept g g w2 ((w2.setCell ⟨g, 1, none⟩ (.int .i64 (R.2.1 : Nat))).setCell ⟨g, 2, none⟩ v2) := ((Kept.refl g g w2).set 1 _).set 2 v2
      have hs2 : Src w2 a n c b := h3.below hb'
      exact ⟨r2.cell 1, r2.cell 2, r2.frozen 1, r2.frozen 2, r3.frozen 2, r2.lt, ⟨⟨v2, by simpa using r4, hi.kept r2 (by decide) k4⟩, hs2.kept k4 h4, h4, h5, by have := HEND.out; omega⟩, (Kept.of_below hb').trans k4, (hV.below hb').kept k4 hg0⟩
    rw [HM.out]
    clear h1 h2 h3 h4 h5 h6 hok hS hR hV
    by_cases hE : R.2.2 = .ok
    · have HE := hide hE
      clear hE
      go_enter Tryz.func108, Tryz.ntmps108
      go_wp2_with fail
      go_region_with (first | (go_at_call 118; refine HN.out.mono ?_; rintro e w2 ⟨v2, rfl, i2, b2⟩; obtain ⟨z1, z2, z3, z4, z5, z6, z7⟩ := HZ.out w2 v2 i2 b2; have HF := hide z7; obtain rfl := i2.nil HE.out; clear i2 b2 z7 c0 c1 c2))
      all_goals (try go_wp2_with fail)
      all_goals go_ret
      all_goals exact ⟨rfl, HF.out⟩
    · have HE := hide hE
      clear hE
      go_enter Tryz.func108, Tryz.ntmps108
      go_wp2_with fail
      go_region_with (first | (go_at_call 118; refine HN.out.mono ?_; rintro e w2 ⟨v2, rfl, i2, b2⟩; obtain ⟨z1, z2, z3, z4, z5, z6, z7⟩ := HZ.out w2 v2 i2 b2; have HF := hide z7; obtain ⟨x2, rfl⟩ := i2.ptr HE.out; clear i2 b2 z7 c0 c1 c2))
      all_goals (try go_wp2_with fail)
      all_goals go_ret
      all_goals exact ⟨rfl, HF.out⟩
  · obtain ⟨x, rfl⟩ := h2.ptr hok
    have HM : Hid (mn b s = ([], s)) := mn_bad hok
    rw [HM.out]
    have HV := hide hV
    clear h1 h2 h3 h4 h5 h6 hok hV
    go_enter Tryz.func108, Tryz.ntmps108
    go_wp2_with fail
    go_ret
    exact ⟨rfl, H.out, Kept.refl _ _ _, HV.out⟩
end Go.Proofs.YtabkelhipmijfaaGreatDoor
