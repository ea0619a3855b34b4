/-
  The reader of messages: a message is opened; The reader of messages: heads; conditions as each theorem has them.
-/
import Derived.Test.YtabkelhipmijfaaGreatDoorJoined4
import Derived.Deep.DeepCutAuto
set_option linter.unusedSimpArgs false
set_option linter.unusedVariables false
namespace Go.Proofs.YtabkelhipmijfaaGreatDoor
open Go.RowKit
theorem info79 : (Tryz.prog.info? 148).map (·.size) = some 3 := by kernel_rfl
set_option maxRecDepth 100000 in
set_option maxHeartbeats 2000000 in
theorem open_at (a : Option Addr) (n c : Nat) (b : List Nat) (w : World) (h : Src w a n c b) :
    Calls Tryz.prog 82 #[.slice a n c] w fun e w' => ∃ v, e = .returned (.agg #[.slice a n c, .int .i64 0, v]) ∧ IsF w' (opn b).2 v ∧ Below w.heap.size w w' := by
  have hln := h.hlen
  obtain ⟨W0, hW0⟩ : ∃ W0, W0 = w.alloc (.cells #[.slice none 0 0, .int .i64 0, .nilIface] 148) := ⟨_, rfl⟩
  have r0 : Row W0 w.heap.size 148 [.slice none 0 0, .int .i64 0, .nilIface] := by rw [hW0]; exact Row.new w _ 148
  have b0 : Below w.heap.size w W0 := by rw [hW0]; exact (Below.refl _ _).alloc (Nat.le_refl _) _
  have hs0 : W0.heap.size = w.heap.size + 1 := by rw [hW0]; simp
  obtain ⟨W1, hW1⟩ : ∃ W1, W1 = W0.alloc (.cells #[.slice a n c, .int .i64 0, .nilIface] 148) := ⟨_, rfl⟩
  have r1 : Row W1 (w.heap.size + 1) 148 [.slice a n c, .int .i64 0, .nilIface] := by rw [hW1, ← hs0]; exact Row.new W0 _ 148
  have b1 : Below w.heap.size w W1 := by rw [hW1]; exact b0.alloc (by omega) _
  have r01 : Row W1 w.heap.size 148 [.slice none 0 0, .int .i64 0, .nilIface] := by rw [hW1]; exact r0.alloc _
  have hr : Rdr W1 (w.heap.size + 1) 148 [] a n c b (0, .ok) := ⟨⟨.nilIface, r1, rfl⟩, h.below b1, (h.off (by omega)), by decide, by decide⟩
  have HW1 : Hid ((w.alloc (.cells #[.slice none 0 0, .int .i64 0, .nilIface] 148)).alloc (.cells #[.slice a n c, .int .i64 0, .nilIface] 148) = W1) := by show _ = _; rw [hW1, hW0]
  have B1 := hide b1
  by_cases hbig : 512 < n
  · have HO : Hid (opn b = (0, .one 512 3)) := by show _ = _; rw [opn, if_pos (by omega)]
    have d1 : decide (512 < (n : Int)) = true := decide_eq_true (by omega)
    have d1' : decide (512 < n) = true := decide_eq_true hbig
    have HST := hide (stop_at (w.heap.size + 1) 148 [] a n c b (0, .ok) 512 512 3 _ hr (fun _ => by omega))
    rw [show ((3 : Nat) : Int) = 3 from rfl, show stp 512 3 (0, Er.ok) = (0, .one 512 3) by unfold stp; rw [if_pos rfl]] at HST
    rw [HO.out]
    have HG := hide r1.lt
    have R01 := hide r01
    clear h hr r1 b1 hbig hW1 hW0 r0 b0 r01
    go_enter Tryz.func82, Tryz.ntmps82
    go_wp2_with fail
    rw [HW1.out]
    refine HST.out.mono ?_
    rintro e w2 ⟨rfl, rd2, k2⟩
    obtain ⟨⟨v2, p2, i2⟩, _⟩ := rd2
    have q2 := R01.out.kept k2 (by omega) (by omega)
    have I2 := hide i2
    obtain ⟨x2, rfl⟩ := i2.ptr (by simp)
    have c0 : w2.cell? ⟨w.heap.size + 1, 0, none⟩ = some (.slice a n c) := p2.cell 0
    have c1 : w2.cell? ⟨w.heap.size + 1, 1, none⟩ = some (.int .i64 0) := p2.cell 1
    have c2 : w2.cell? ⟨w.heap.size + 1, 2, none⟩ = some (.iface 156 (.pointer (some ⟨x2, 0, none⟩))) := p2.cell 2
    have hg2 := p2.lt
    have e0 : w2.cell? ⟨w.heap.size, 0, none⟩ = some (.slice none 0 0) := q2.cell 0
    have e1 : w2.cell? ⟨w.heap.size, 1, none⟩ = some (.int .i64 0) := q2.cell 1
    have e2 : w2.cell? ⟨w.heap.size, 2, none⟩ = some .nilIface := q2.cell 2
    have f0 := q2.frozen 0
    have f1 := q2.frozen 1
    have f2 := q2.frozen 2
    have Q2 := hide q2
    have B2 : Hid (Below w.heap.size w w2) := B1.out.trans (k2.below (by omega) (by omega) (by have := HG.out; omega))
    have HSR : Hid (W1.heap.size ≤ w2.heap.size) := k2.size
    clear p2 i2 k2 HST q2
    go_wp2_with fail
    have HROW : Hid (Row (((w2.setCell ⟨w.heap.size, 0, none⟩ (.slice a n c)).setCell ⟨w.heap.size, 1, none⟩ (.int .i64 0)).setCell ⟨w.heap.size, 2, none⟩ (.iface 156 (.pointer (some ⟨x2, 0, none⟩)))) w.heap.size 148 [.slice a n c, .int .i64 0, .iface 156 (.pointer (some ⟨x2, 0, none⟩))]) := by show Row _ _ _ _; simpa using ((Q2.out.set 0 (.slice a n c)).set 1 (.int .i64 0)).set 2 (.iface 156 (.pointer (some ⟨x2, 0, none⟩)))
    refine bodyPost_ret (results_cell_row rfl _ _ w.heap.size 148 #[.slice a n c, .int .i64 0, .iface 156 (.pointer (some ⟨x2, 0, none⟩))] (0, 0) _ rfl HROW.out Tryz.underlying148 rfl info79) rfl ?_
    refine ⟨_, rfl, I2.out.kept Q2.out (by decide) ((((Kept.refl _ _ _).set 0 _).set 1 _).set 2 _), ?_⟩
    exact ((B2.out.setCell (Nat.le_refl _) _).setCell (Nat.le_refl _) _).setCell (Nat.le_refl _) _
  · have HO : Hid (opn b = (0, .ok)) := by show _ = _; rw [opn, if_neg (by omega)]
    have d1 : decide (512 < (n : Int)) = false := decide_eq_false (by omega)
    have d1' : decide (512 < n) = false := decide_eq_false hbig
    rw [HO.out]
    clear h hr r1 b1 hbig hW1 hW0 r0 b0 r01
    go_enter Tryz.func82, Tryz.ntmps82
    go_wp2_with fail
    go_returns
    exact ⟨_, rfl, rfl, ((Below.refl _ _).alloc (Nat.le_refl _) _).alloc (by simp) _⟩
end Go.Proofs.YtabkelhipmijfaaGreatDoor

set_option linter.unusedSimpArgs false
set_option linter.unusedVariables false
namespace Go.Proofs.YtabkelhipmijfaaGreatDoor
open Go.RowKit
theorem Kept.of_below' {r g : Nat} {a b : World} (h : Below a.heap.size a b) : Kept r g a b := Kept.of_below h
/-- A new block, and what stays. -/
theorem Rdr.alloc {w : World} {g : Nat} {ty : TypeId} {R : List Value} {a : Option Addr} {n c : Nat} {b : List Nat} {s : Sr} (h : Rdr w g ty R a n c b s) (o : Obj) : Rdr (w.alloc o) g ty R a n c b s := h.below ((Below.refl _ _).alloc (Nat.le_refl _) _)
theorem Rdr.row3 {w : World} {g : Nat} {ty : TypeId} {R : List Value} {a : Option Addr} {n c : Nat} {b : List Nat} {s : Sr} (h : Rdr w g ty R a n c b s) {hb : Nat} {tz : TypeId} {C : List Value} (hr : Row w hb tz C) (hne : tz ≠ 158) (hg : hb ≠ g) (hx : ∀ x o, a = some ⟨x, o, none⟩ → 0 < n → x ≠ hb) (x0 x1 x2 : Value) :
    Rdr (((w.setCell ⟨hb, 0, none⟩ x0).setCell ⟨hb, 1, none⟩ x1).setCell ⟨hb, 2, none⟩ x2) g ty R a n c b s := by
  obtain ⟨⟨v, h1, h2⟩, h3, h4, h5, h6⟩ := h
  have k : Kept hb hb w (((w.setCell ⟨hb, 0, none⟩ x0).setCell ⟨hb, 1, none⟩ x1).setCell ⟨hb, 2, none⟩ x2) := (((Kept.refl _ _ _).set 0 _).set 1 _).set 2 _
  exact ⟨⟨v, h1.kept k (fun e => hg e.symm) (fun e => hg e.symm), h2.kept hr hne k⟩, h3.kept k (fun h0 x o e => hx x o e h0), h4, h5, h6⟩
theorem Kept.trans' {r g : Nat} {a b c : World} (h : Kept r g a b) (k : Below a.heap.size b c) : Kept r g a c :=
  ⟨k.os.trans h.os, k.tape.trans h.tape, k.output.trans h.output, Nat.le_trans h.size k.size, fun i hi h1 h2 => (k.block i hi).trans (h.block i hi h1 h2)⟩
theorem Kept.newset {r g : Nat} {a b : World} (h : Kept r g a b) {x : Nat} (hx : a.heap.size ≤ x) (o : Nat) (u : Value) : Kept r g a (b.setCell ⟨x, o, none⟩ u) :=
  h.trans' ⟨rfl, rfl, rfl, by simp [World.setCell], fun k hk => Below.heap_setCell _ _ _ _ (by show k ≠ x; omega)⟩
theorem info82 : (Tryz.prog.info? 151).map (·.size) = some 3 := by kernel_rfl
theorem Rdr.other {w : World} {g : Nat} {ty : TypeId} {R : List Value} {a : Option Addr} {n c : Nat} {b : List Nat} {s : Sr} (h : Rdr w g ty R a n c b s) {hb : Nat} {tz : TypeId} {C : List Value} (hr : Row w hb tz C) (hne : tz ≠ 158) (hg : hb ≠ g) (hx : ∀ x o, a = some ⟨x, o, none⟩ → 0 < n → x ≠ hb) (i : Nat) (x0 : Value) : Rdr (w.setCell ⟨hb, i, none⟩ x0) g ty R a n c b s := by
  obtain ⟨⟨v, h1, h2⟩, h3, h4, h5, h6⟩ := h
  have k : Kept hb hb w (w.setCell ⟨hb, i, none⟩ x0) := (Kept.refl _ _ _).set i _
  exact ⟨⟨v, h1.kept k (fun e => hg e.symm) (fun e => hg e.symm), h2.kept hr hne k⟩, h3.kept k (fun h0 x o e => hx x o e h0), h4, h5, h6⟩
theorem tk_at (b : List Nat) (m : Nat) (s : Sr) : (tk b m s).1 ≤ s.1 + m := by unfold tk; split; split; exact Nat.le_refl _; exact Nat.le_add_right _ _; exact Nat.le_add_right _ _
theorem stp_at1 (p k : Nat) (s : Sr) : (stp p k s).1 = s.1 := by unfold stp; split <;> rfl
theorem chk_at1 (c : Bool) (p k : Nat) (s : Sr) : (chk1 c p k s).1 = s.1 := by unfold chk1; split; rfl; exact stp_at1 _ _ _
theorem s4_at (b : List Nat) (k : Nat) : (s4 b k).1 ≤ 8 := by
  have h0 : (opn b).1 = 0 := by unfold opn; split <;> rfl
  have h1 := tk_at b 2 (opn b)
  have h2 : (s2 b k).1 = (tk b 2 (s1 b)).1 := chk_at1 _ _ _ _
  have h3 := tk_at b 2 (s1 b)
  have h4 : (s3 b k).1 = (tk b 2 (s2 b k)).1 := chk_at1 _ _ _ _
  have h5 := tk_at b 2 (s2 b k)
  have h6 := tk_at b 2 (s3 b k)
  show (tk b 2 (s3 b k)).1 ≤ 8
  have : (s1 b).1 ≤ 2 := by show (tk b 2 (opn b)).1 ≤ 2; omega
  omega
set_option maxRecDepth 100000 in
set_option maxHeartbeats 4000000 in
theorem head_at (g : Nat) (a : Option Addr) (n c : Nat) (b : List Nat) (k : Nat) (w : World) (h : Rdr w g 148 [] a n c b (opn b)) (hk : k < 65536) :
    Calls Tryz.prog 83 #[.pointer (some ⟨g, 0, none⟩), .int .i64 (k : Nat)] w fun e w' => e = .returned (.agg #[.int .i64 (hId b : Nat), .int .i64 (hFl b : Nat), .int .i64 (hAn b k : Nat)]) ∧ Rdr w' g 148 [] a n c b (s5 b k) ∧ Kept g g w w' := by
  have HBY := hide h.src.byte
  have hgs := h.block
  have HSB : Hid (∀ x o, a = some ⟨x, o, none⟩ → 0 < n → x < w.heap.size) := fun x o e h0 => h.src.lt h0 e
  obtain ⟨W0, hW0⟩ : ∃ W0, W0 = w.alloc (.cells #[.int .i64 0, .int .i64 0, .int .i64 0] 151) := ⟨_, rfl⟩
  have R0 : Hid (Rdr W0 g 148 [] a n c b (opn b)) := by rw [hW0]; exact h.alloc _
  have K0 : Hid (Kept g g w W0) := by rw [hW0]; exact (Kept.refl _ _ _).alloc _
  have hs0 : W0.heap.size = w.heap.size + 1 := by rw [hW0]; simp
  have T0 : Hid (Row W0 w.heap.size 151 [.int .i64 0, .int .i64 0, .int .i64 0]) := by rw [hW0]; exact Row.new w _ 151
  have HW0 := hide hW0.symm
  obtain ⟨I, hI⟩ : ∃ I, I = hId b := ⟨_, rfl⟩
  obtain ⟨F, hF⟩ : ∃ F, F = hFl b := ⟨_, rfl⟩
  rw [← hI, ← hF]
  obtain ⟨N3, hN3⟩ : ∃ N3, N3 = hAn b k := ⟨_, rfl⟩
  rw [← hN3]
  have HN3 : Hid (nu b (s3 b k) = N3) := hN3.symm
  clear hN3
  have HI : Hid (nu b (opn b) = I) := hI.symm
  have HF : Hid (nu b (s1 b) = F) := hF.symm
  have hIl : I < 65536 := by rw [hI]; exact nu_lt HBY.out _
  have hFl' : F < 65536 := by rw [hF]; exact nu_lt HBY.out _
  clear h hI hF hW0
  go_enter Tryz.func83, Tryz.ntmps83
  go_wp2_with fail
  rw [HW0.out]
  go_cut [5] (fun s5 wx => ∃ hb : Nat, s5 = .pointer (some ⟨hb, 0, none⟩) ∧ w.heap.size < hb ∧ hb < wx.heap.size ∧ Hid (Row wx hb 151 [.int .i64 (I : Nat), .int .i64 (F : Nat), .int .i64 0] ∧ Rdr wx g 148 [] a n c b (tk b 2 (s1 b)) ∧ Kept g g W0 wx))
  case first =>
    go_region_with (first
      | (go_at_call 106; refine (number_at g 148 [] a n c b (s1 b) _ R1.out).mono ?_; rw [HF.out]; rintro e w2 ⟨rfl, r2, k2⟩; have R2 := hide r2; have K2 := hide (K1.out.trans k2); have t2 := Y1.out.kept k2 (by omega) (by omega); have t2a : w2.cell? ⟨w.heap.size + 1, 0, none⟩ = some (.int .i64 0) := t2.cell 0; have t2b : w2.cell? ⟨w.heap.size + 1, 1, none⟩ = some (.int .i64 0) := t2.cell 1; have t2c : w2.cell? ⟨w.heap.size + 1, 2, none⟩ = some (.int .i64 0) := t2.cell 2; have t2d := t2.frozen 0; have t2e := t2.frozen 1; have t2f := t2.frozen 2; have t2g := t2.lt; have T2 := hide t2; clear r2 k2 t2)
      | (go_at_call 106; refine (number_at g 148 [] a n c b (s1 b) _ R1.out).mono ?_; rw [HF.out]; rintro e w2 ⟨rfl, r2, k2⟩; have R2 := hide r2; have K2 := hide (K1.out.trans k2); clear r2 k2)
      | (go_at_call 106; refine (number_at g 148 [] a n c b (s1 b) _ (by exact R1.out.alloc _)).mono ?_; rw [HF.out]; rintro e w2 ⟨rfl, r2, k2⟩; have R2 := hide r2; have K2 := hide ((K1.out.alloc _).trans k2); have hs1 := K1.out.size; have hgw1 := R1.out.block; have t2 := (Row.new w1 #[.int .i64 0, .int .i64 0, .int .i64 0] 151).kept k2 (by omega) (by omega); have t2a : w2.cell? ⟨w1.heap.size, 0, none⟩ = some (.int .i64 0) := t2.cell 0; have t2b : w2.cell? ⟨w1.heap.size, 1, none⟩ = some (.int .i64 0) := t2.cell 1; have t2c : w2.cell? ⟨w1.heap.size, 2, none⟩ = some (.int .i64 0) := t2.cell 2; have t2d := t2.frozen 0; have t2e := t2.frozen 1; have t2f := t2.frozen 2; have t2g := t2.lt; have T2 := hide t2; clear r2 k2 t2)
      | (go_at_call 106; refine (number_at g 148 [] a n c b (opn b) _ (by exact (R0.out.alloc _).drew)).mono ?_; rw [HI.out]; rintro e w1 ⟨rfl, r1, k1⟩; have R1 : Hid (Rdr w1 g 148 [] a n c b (s1 b)) := r1; have K1 := hide (((Kept.refl g g W0).alloc _).trans k1.of_drew); have Y1 : Hid (Row w1 (w.heap.size + 1) 151 [.int .i64 0, .int .i64 0, .int .i64 0]) := (by rw [← hs0]; exact (Row.new W0 #[.int .i64 0, .int .i64 0, .int .i64 0] 151).kept k1.of_drew (by omega) (by omega)); clear r1 k1)
      | (go_at_call 106; refine (number_at g 148 [] a n c b (opn b) _ (by exact R0.out.drew)).mono ?_; rw [HI.out]; rintro e w1 ⟨rfl, r1, k1⟩; have R1 : Hid (Rdr w1 g 148 [] a n c b (s1 b)) := r1; have K1 := hide k1.of_drew; clear r1 k1))
    · go_wp2_with fail
      go_meet
      exact ⟨w2.heap.size, rfl, by have := K2.out.size; omega, by simp, Row.new w2 _ 151, R2.out.alloc _, K2.out.alloc _⟩
    · go_wp2_with fail
      go_meet
      exact ⟨w1.heap.size, rfl, by omega, by simp [World.setCell]; omega, by simpa using ((T2.out.set 0 (.int .i64 (I : Nat))).set 1 (.int .i64 (F : Nat))).set 2 (.int .i64 0), R2.out.row3 T2.out (by decide) (by omega) (fun x o e h0 => by have := HSB.out x o e h0; omega) _ _ _, ((K2.out.newset (by omega) 0 _).newset (by omega) 1 _).newset (by omega) 2 _⟩
    · go_wp2_with fail
      go_meet
      exact ⟨w.heap.size + 1, rfl, by omega, by simp [World.setCell]; omega, by simpa using ((T2.out.set 0 (.int .i64 (I : Nat))).set 1 (.int .i64 (F : Nat))).set 2 (.int .i64 0), R2.out.row3 T2.out (by decide) (by omega) (fun x o e h0 => by have := HSB.out x o e h0; omega) _ _ _, ((K2.out.newset (by omega) 0 _).newset (by omega) 1 _).newset (by omega) 2 _⟩
  case rest =>
    obtain ⟨hb, rfl, hb1, hb2, HC⟩ := hcut
    obtain ⟨rw_, rd_, kp_⟩ := HC.out
    have c1 : wc.cell? ⟨hb, 1, none⟩ = some (.int .i64 (F : Nat)) := rw_.cell 1
    have hand := and_i64 F 64000 hFl' (by omega)
    rw [show ((64000 : Nat) : Int) = 64000 from rfl] at hand
    obtain ⟨Q, hQ⟩ : ∃ Q, Q = F &&& 64000 := ⟨_, rfl⟩
    rw [← hQ] at hand
    have HQ := hide hQ
    have RW := hide rw_
    have KP := hide kp_
    have RD := hide rd_
    clear HC hQ rw_ kp_ rd_
    by_cases hq : Q = k
    · have hqk : ((Q : Int) != (k : Int)) = false := by simp; omega
      have H2 : Hid (tk b 2 (s1 b) = s2 b k) := by show _ = _; unfold s2 chk1; rw [if_pos (by rw [HF.out, ← HQ.out]; simp [hq])]
      rw [H2.out] at RD
      clear hq
      have HNB := hide (number_at g 148 [] a n c b (s2 b k) wc RD.out)
      obtain ⟨V, hV⟩ : ∃ V, V = nu b (s2 b k) := ⟨_, rfl⟩
      rw [← hV] at HNB
      have HVV := hide hV
      clear hV
      go_wp2_with fail
      refine HNB.out.mono ?_
      rintro e w4 ⟨rfl, r4, k4⟩
      have R4 := hide r4
      have RW4 := hide (RW.out.kept k4 (by omega) (by omega))
      have KP4 := hide (KP.out.trans k4)
      clear r4 k4
      by_cases hv1 : V = 1
      · have hv : ((V : Int) != 1) = false := by simp; omega
        have H3 : Hid (tk b 2 (s2 b k) = s3 b k) := by show _ = _; unfold s3 chk1; rw [if_pos (by rw [← HVV.out]; simp [hv1])]
        rw [H3.out] at R4
        clear hv1
        have HNC := hide (number_at g 148 [] a n c b (s3 b k) w4 R4.out)
        rw [HN3.out] at HNC
        go_wp2_with fail
        refine HNC.out.mono ?_
        rintro e w6 ⟨rfl, r6, k6⟩
        have R6 : Hid (Rdr w6 g 148 [] a n c b (s4 b k)) := r6
        have rw6 := RW4.out.kept k6 (by omega) (by omega)
        have KP6 := hide (KP4.out.trans k6)
        have y2 : w6.cell? ⟨hb, 2, none⟩ = some (.int .i64 0) := rw6.cell 2
        have f2 := rw6.frozen 2
        have hb6 := rw6.lt
        obtain ⟨W7, hW7⟩ : ∃ W7, W7 = w6.setCell ⟨hb, 2, none⟩ (.int .i64 (N3 : Nat)) := ⟨_, rfl⟩
        have RW7 : Hid (Row W7 hb 151 [.int .i64 (I : Nat), .int .i64 (F : Nat), .int .i64 (N3 : Nat)]) := by show Row _ _ _ _; rw [hW7]; simpa using rw6.set 2 (.int .i64 (N3 : Nat))
        have R7 : Hid (Rdr W7 g 148 [] a n c b (s4 b k)) := by rw [hW7]; exact R6.out.other rw6 (by decide) (by omega) (fun x o e h0 => by have := HSB.out x o e h0; omega) 2 _
        have KP7 : Hid (Kept g g W0 W7) := by rw [hW7]; exact KP6.out.newset (by omega) 2 _
        have HW7 := hide hW7.symm
        clear r6 k6 rw6 hW7 HNC
        go_wp2_with fail
        rw [HW7.out]
        clear y2 f2
        have h8 := s4_at b k
        have z1 : W7.cell? ⟨g, 1, none⟩ = some (.int .i64 ((s4 b k).1 : Nat)) := by obtain ⟨⟨v, p1, _⟩, _⟩ := R7.out; exact p1.cell 1
        have hg7 := R7.out.block
        obtain ⟨M, hM⟩ : ∃ M, M = (s4 b k).1 := ⟨_, rfl⟩
        rw [← hM] at z1 h8
        have HTK := hide (take_at g 148 [] a n c b (s4 b k) (12 - M) W7.drew R7.out.drew (by omega))
        have H5 : Hid (tk b (12 - M) (s4 b k) = s5 b k) := by show _ = _; rw [hM]; rfl
        rw [H5.out, show ((12 - M : Nat) : Int) = 12 - (M : Int) by omega] at HTK
        have hwr : IntKind.i64.wrap (12 - (M : Int)) = 12 - (M : Int) := by rw [IntKind.wrap_i64]; omega
        have HZ : Hid (∀ w8, Kept g g W7.drew w8 → Row w8 hb 151 [.int .i64 (I : Nat), .int .i64 (F : Nat), .int .i64 (N3 : Nat)] ∧ Row w8 w.heap.size 151 [.int .i64 0, .int .i64 0, .int .i64 0] ∧ Kept g g W0 w8) := fun w8 k8 => ⟨RW7.out.kept k8.of_drew (by omega) (by omega), T0.out.kept (KP7.out.trans k8.of_drew) (by omega) (by omega), KP7.out.trans k8.of_drew⟩
        clear hM
        go_region_with (first | (go_at_call 107; refine HTK.out.mono ?_; rintro e w8 ⟨x8, l8, y8, rfl, r8, k8, z8, z8'⟩; obtain ⟨p8, q8, kk8⟩ := HZ.out w8 k8; have R8 := hide r8; have KK8 := hide kk8; have Q8 := hide q8; have a0 : w8.cell? ⟨hb, 0, none⟩ = some (.int .i64 (I : Nat)) := p8.cell 0; have a1 : w8.cell? ⟨hb, 1, none⟩ = some (.int .i64 (F : Nat)) := p8.cell 1; have a2 : w8.cell? ⟨hb, 2, none⟩ = some (.int .i64 (N3 : Nat)) := p8.cell 2; have b0 : w8.cell? ⟨w.heap.size, 0, none⟩ = some (.int .i64 0) := q8.cell 0; have b1 : w8.cell? ⟨w.heap.size, 1, none⟩ = some (.int .i64 0) := q8.cell 1; have b2 : w8.cell? ⟨w.heap.size, 2, none⟩ = some (.int .i64 0) := q8.cell 2; have e0 := q8.frozen 0; have e1 := q8.frozen 1; have e2 := q8.frozen 2; have lq := q8.lt; have lp := p8.lt; clear r8 k8 z8 z8' p8 q8 kk8 z1))
        all_goals (try go_wp2_with fail)
        all_goals (have HROW : Hid (Row (((w8.setCell ⟨w.heap.size, 0, none⟩ (.int .i64 (I : Nat))).setCell ⟨w.heap.size, 1, none⟩ (.int .i64 (F : Nat))).setCell ⟨w.heap.size, 2, none⟩ (.int .i64 (N3 : Nat))) w.heap.size 151 [.int .i64 (I : Nat), .int .i64 (F : Nat), .int .i64 (N3 : Nat)]) := (by show Row _ _ _ _; simpa using ((Q8.out.set 0 (.int .i64 (I : Nat))).set 1 (.int .i64 (F : Nat))).set 2 (.int .i64 (N3 : Nat))))
        all_goals refine bodyPost_ret (results_cell_row rfl _ _ w.heap.size 151 #[.int .i64 (I : Nat), .int .i64 (F : Nat), .int .i64 (N3 : Nat)] (0, 0) _ rfl HROW.out Tryz.underlying151 rfl info82) rfl ⟨rfl, R8.out.row3 Q8.out (by decide) (by omega) (fun x o e h0 => by have := HSB.out x o e h0; omega) _ _ _, (((K0.out.trans KK8.out).newset (Nat.le_refl _) 0 _).newset (Nat.le_refl _) 1 _).newset (Nat.le_refl _) 2 _⟩
      · have hv : ((V : Int) != 1) = true := by simp; omega
        have HST4 := hide (stop_at g 148 [] a n c b (tk b 2 (s2 b k)) 4 4 101 w4 R4.out (fun _ => rfl))
        rw [show ((101 : Nat) : Int) = 101 from rfl] at HST4
        have H3 : Hid (stp 4 101 (tk b 2 (s2 b k)) = s3 b k) := by show _ = _; unfold s3 chk1; rw [if_neg (by rw [← HVV.out]; simp [hv1])]
        rw [H3.out] at HST4
        clear hv1
        go_wp2_with fail
        refine HST4.out.mono ?_
        rintro e w5 ⟨rfl, r5, k5⟩
        have R5 := hide r5
        have RW5 := hide (RW4.out.kept k5 (by omega) (by omega))
        have KP5 := hide (KP4.out.trans k5)
        clear r5 k5
        have HNC := hide (number_at g 148 [] a n c b (s3 b k) w5 R5.out)
        rw [HN3.out] at HNC
        go_wp2_with fail
        refine HNC.out.mono ?_
        rintro e w6 ⟨rfl, r6, k6⟩
        have R6 : Hid (Rdr w6 g 148 [] a n c b (s4 b k)) := r6
        have rw6 := RW5.out.kept k6 (by omega) (by omega)
        have KP6 := hide (KP5.out.trans k6)
        have y2 : w6.cell? ⟨hb, 2, none⟩ = some (.int .i64 0) := rw6.cell 2
        have f2 := rw6.frozen 2
        have hb6 := rw6.lt
        obtain ⟨W7, hW7⟩ : ∃ W7, W7 = w6.setCell ⟨hb, 2, none⟩ (.int .i64 (N3 : Nat)) := ⟨_, rfl⟩
        have RW7 : Hid (Row W7 hb 151 [.int .i64 (I : Nat), .int .i64 (F : Nat), .int .i64 (N3 : Nat)]) := by show Row _ _ _ _; rw [hW7]; simpa using rw6.set 2 (.int .i64 (N3 : Nat))
        have R7 : Hid (Rdr W7 g 148 [] a n c b (s4 b k)) := by rw [hW7]; exact R6.out.other rw6 (by decide) (by omega) (fun x o e h0 => by have := HSB.out x o e h0; omega) 2 _
        have KP7 : Hid (Kept g g W0 W7) := by rw [hW7]; exact KP6.out.newset (by omega) 2 _
        have HW7 := hide hW7.symm
        clear r6 k6 rw6 hW7 HNC
        go_wp2_with fail
        rw [HW7.out]
        clear y2 f2
        have h8 := s4_at b k
        have z1 : W7.cell? ⟨g, 1, none⟩ = some (.int .i64 ((s4 b k).1 : Nat)) := by obtain ⟨⟨v, p1, _⟩, _⟩ := R7.out; exact p1.cell 1
        have hg7 := R7.out.block
        obtain ⟨M, hM⟩ : ∃ M, M = (s4 b k).1 := ⟨_, rfl⟩
        rw [← hM] at z1 h8
        have HTK := hide (take_at g 148 [] a n c b (s4 b k) (12 - M) W7.drew R7.out.drew (by omega))
        have H5 : Hid (tk b (12 - M) (s4 b k) = s5 b k) := by show _ = _; rw [hM]; rfl
        rw [H5.out, show ((12 - M : Nat) : Int) = 12 - (M : Int) by omega] at HTK
        have hwr : IntKind.i64.wrap (12 - (M : Int)) = 12 - (M : Int) := by rw [IntKind.wrap_i64]; omega
        have HZ : Hid (∀ w8, Kept g g W7.drew w8 → Row w8 hb 151 [.int .i64 (I : Nat), .int .i64 (F : Nat), .int .i64 (N3 : Nat)] ∧ Row w8 w.heap.size 151 [.int .i64 0, .int .i64 0, .int .i64 0] ∧ Kept g g W0 w8) := fun w8 k8 => ⟨RW7.out.kept k8.of_drew (by omega) (by omega), T0.out.kept (KP7.out.trans k8.of_drew) (by omega) (by omega), KP7.out.trans k8.of_drew⟩
        clear hM
        go_region_with (first | (go_at_call 107; refine HTK.out.mono ?_; rintro e w8 ⟨x8, l8, y8, rfl, r8, k8, z8, z8'⟩; obtain ⟨p8, q8, kk8⟩ := HZ.out w8 k8; have R8 := hide r8; have KK8 := hide kk8; have Q8 := hide q8; have a0 : w8.cell? ⟨hb, 0, none⟩ = some (.int .i64 (I : Nat)) := p8.cell 0; have a1 : w8.cell? ⟨hb, 1, none⟩ = some (.int .i64 (F : Nat)) := p8.cell 1; have a2 : w8.cell? ⟨hb, 2, none⟩ = some (.int .i64 (N3 : Nat)) := p8.cell 2; have b0 : w8.cell? ⟨w.heap.size, 0, none⟩ = some (.int .i64 0) := q8.cell 0; have b1 : w8.cell? ⟨w.heap.size, 1, none⟩ = some (.int .i64 0) := q8.cell 1; have b2 : w8.cell? ⟨w.heap.size, 2, none⟩ = some (.int .i64 0) := q8.cell 2; have e0 := q8.frozen 0; have e1 := q8.frozen 1; have e2 := q8.frozen 2; have lq := q8.lt; have lp := p8.lt; clear r8 k8 z8 z8' p8 q8 kk8 z1))
        all_goals (try go_wp2_with fail)
        all_goals (have HROW : Hid (Row (((w8.setCell ⟨w.heap.size, 0, none⟩ (.int .i64 (I : Nat))).setCell ⟨w.heap.size, 1, none⟩ (.int .i64 (F : Nat))).setCell ⟨w.heap.size, 2, none⟩ (.int .i64 (N3 : Nat))) w.heap.size 151 [.int .i64 (I : Nat), .int .i64 (F : Nat), .int .i64 (N3 : Nat)]) := (by show Row _ _ _ _; simpa using ((Q8.out.set 0 (.int .i64 (I : Nat))).set 1 (.int .i64 (F : Nat))).set 2 (.int .i64 (N3 : Nat))))
        all_goals refine bodyPost_ret (results_cell_row rfl _ _ w.heap.size 151 #[.int .i64 (I : Nat), .int .i64 (F : Nat), .int .i64 (N3 : Nat)] (0, 0) _ rfl HROW.out Tryz.underlying151 rfl info82) rfl ⟨rfl, R8.out.row3 Q8.out (by decide) (by omega) (fun x o e h0 => by have := HSB.out x o e h0; omega) _ _ _, (((K0.out.trans KK8.out).newset (Nat.le_refl _) 0 _).newset (Nat.le_refl _) 1 _).newset (Nat.le_refl _) 2 _⟩
    · have hqk : ((Q : Int) != (k : Int)) = true := by simp; omega
      have HST := hide (stop_at g 148 [] a n c b (tk b 2 (s1 b)) 2 2 101 wc RD.out (fun _ => rfl))
      rw [show ((101 : Nat) : Int) = 101 from rfl] at HST
      have H2 : Hid (stp 2 101 (tk b 2 (s1 b)) = s2 b k) := by show _ = _; unfold s2 chk1; rw [if_neg (by rw [HF.out, ← HQ.out]; simp [hq])]
      rw [H2.out] at HST
      clear hq
      go_wp2_with fail
      refine HST.out.mono ?_
      rintro e w3 ⟨rfl, r3, k3⟩
      have R3 := hide r3
      have RW3 := hide (RW.out.kept k3 (by omega) (by omega))
      have KP3 := hide (KP.out.trans k3)
      clear r3 k3
      have HNB := hide (number_at g 148 [] a n c b (s2 b k) w3 R3.out)
      obtain ⟨V, hV⟩ : ∃ V, V = nu b (s2 b k) := ⟨_, rfl⟩
      rw [← hV] at HNB
      have HVV := hide hV
      clear hV
      go_wp2_with fail
      refine HNB.out.mono ?_
      rintro e w4 ⟨rfl, r4, k4⟩
      have R4 := hide r4
      have RW4 := hide (RW3.out.kept k4 (by omega) (by omega))
      have KP4 := hide (KP3.out.trans k4)
      clear r4 k4
      by_cases hv1 : V = 1
      · have hv : ((V : Int) != 1) = false := by simp; omega
        have H3 : Hid (tk b 2 (s2 b k) = s3 b k) := by show _ = _; unfold s3 chk1; rw [if_pos (by rw [← HVV.out]; simp [hv1])]
        rw [H3.out] at R4
        clear hv1
        have HNC := hide (number_at g 148 [] a n c b (s3 b k) w4 R4.out)
        rw [HN3.out] at HNC
        go_wp2_with fail
        refine HNC.out.mono ?_
        rintro e w6 ⟨rfl, r6, k6⟩
        have R6 : Hid (Rdr w6 g 148 [] a n c b (s4 b k)) := r6
        have rw6 := RW4.out.kept k6 (by omega) (by omega)
        have KP6 := hide (KP4.out.trans k6)
        have y2 : w6.cell? ⟨hb, 2, none⟩ = some (.int .i64 0) := rw6.cell 2
        have f2 := rw6.frozen 2
        have hb6 := rw6.lt
        obtain ⟨W7, hW7⟩ : ∃ W7, W7 = w6.setCell ⟨hb, 2, none⟩ (.int .i64 (N3 : Nat)) := ⟨_, rfl⟩
        have RW7 : Hid (Row W7 hb 151 [.int .i64 (I : Nat), .int .i64 (F : Nat), .int .i64 (N3 : Nat)]) := by show Row _ _ _ _; rw [hW7]; simpa using rw6.set 2 (.int .i64 (N3 : Nat))
        have R7 : Hid (Rdr W7 g 148 [] a n c b (s4 b k)) := by rw [hW7]; exact R6.out.other rw6 (by decide) (by omega) (fun x o e h0 => by have := HSB.out x o e h0; omega) 2 _
        have KP7 : Hid (Kept g g W0 W7) := by rw [hW7]; exact KP6.out.newset (by omega) 2 _
        have HW7 := hide hW7.symm
        clear r6 k6 rw6 hW7 HNC
        go_wp2_with fail
        rw [HW7.out]
        clear y2 f2
        have h8 := s4_at b k
        have z1 : W7.cell? ⟨g, 1, none⟩ = some (.int .i64 ((s4 b k).1 : Nat)) := by obtain ⟨⟨v, p1, _⟩, _⟩ := R7.out; exact p1.cell 1
        have hg7 := R7.out.block
        obtain ⟨M, hM⟩ : ∃ M, M = (s4 b k).1 := ⟨_, rfl⟩
        rw [← hM] at z1 h8
        have HTK := hide (take_at g 148 [] a n c b (s4 b k) (12 - M) W7.drew R7.out.drew (by omega))
        have H5 : Hid (tk b (12 - M) (s4 b k) = s5 b k) := by show _ = _; rw [hM]; rfl
        rw [H5.out, show ((12 - M : Nat) : Int) = 12 - (M : Int) by omega] at HTK
        have hwr : IntKind.i64.wrap (12 - (M : Int)) = 12 - (M : Int) := by rw [IntKind.wrap_i64]; omega
        have HZ : Hid (∀ w8, Kept g g W7.drew w8 → Row w8 hb 151 [.int .i64 (I : Nat), .int .i64 (F : Nat), .int .i64 (N3 : Nat)] ∧ Row w8 w.heap.size 151 [.int .i64 0, .int .i64 0, .int .i64 0] ∧ Kept g g W0 w8) := fun w8 k8 => ⟨RW7.out.kept k8.of_drew (by omega) (by omega), T0.out.kept (KP7.out.trans k8.of_drew) (by omega) (by omega), KP7.out.trans k8.of_drew⟩
        clear hM
        go_region_with (first | (go_at_call 107; refine HTK.out.mono ?_; rintro e w8 ⟨x8, l8, y8, rfl, r8, k8, z8, z8'⟩; obtain ⟨p8, q8, kk8⟩ := HZ.out w8 k8; have R8 := hide r8; have KK8 := hide kk8; have Q8 := hide q8; have a0 : w8.cell? ⟨hb, 0, none⟩ = some (.int .i64 (I : Nat)) := p8.cell 0; have a1 : w8.cell? ⟨hb, 1, none⟩ = some (.int .i64 (F : Nat)) := p8.cell 1; have a2 : w8.cell? ⟨hb, 2, none⟩ = some (.int .i64 (N3 : Nat)) := p8.cell 2; have b0 : w8.cell? ⟨w.heap.size, 0, none⟩ = some (.int .i64 0) := q8.cell 0; have b1 : w8.cell? ⟨w.heap.size, 1, none⟩ = some (.int .i64 0) := q8.cell 1; have b2 : w8.cell? ⟨w.heap.size, 2, none⟩ = some (.int .i64 0) := q8.cell 2; have e0 := q8.frozen 0; have e1 := q8.frozen 1; have e2 := q8.frozen 2; have lq := q8.lt; have lp := p8.lt; clear r8 k8 z8 z8' p8 q8 kk8 z1))
        all_goals (try go_wp2_with fail)
        all_goals (have HROW : Hid (Row (((w8.setCell ⟨w.heap.size, 0, none⟩ (.int .i64 (I : Nat))).setCell ⟨w.heap.size, 1, none⟩ (.int .i64 (F : Nat))).setCell ⟨w.heap.size, 2, none⟩ (.int .i64 (N3 : Nat))) w.heap.size 151 [.int .i64 (I : Nat), .int .i64 (F : Nat), .int .i64 (N3 : Nat)]) := (by show Row _ _ _ _; simpa using ((Q8.out.set 0 (.int .i64 (I : Nat))).set 1 (.int .i64 (F : Nat))).set 2 (.int .i64 (N3 : Nat))))
        all_goals refine bodyPost_ret (results_cell_row rfl _ _ w.heap.size 151 #[.int .i64 (I : Nat), .int .i64 (F : Nat), .int .i64 (N3 : Nat)] (0, 0) _ rfl HROW.out Tryz.underlying151 rfl info82) rfl ⟨rfl, R8.out.row3 Q8.out (by decide) (by omega) (fun x o e h0 => by have := HSB.out x o e h0; omega) _ _ _, (((K0.out.trans KK8.out).newset (Nat.le_refl _) 0 _).newset (Nat.le_refl _) 1 _).newset (Nat.le_refl _) 2 _⟩
      · have hv : ((V : Int) != 1) = true := by simp; omega
        have HST4 := hide (stop_at g 148 [] a n c b (tk b 2 (s2 b k)) 4 4 101 w4 R4.out (fun _ => rfl))
        rw [show ((101 : Nat) : Int) = 101 from rfl] at HST4
        have H3 : Hid (stp 4 101 (tk b 2 (s2 b k)) = s3 b k) := by show _ = _; unfold s3 chk1; rw [if_neg (by rw [← HVV.out]; simp [hv1])]
        rw [H3.out] at HST4
        clear hv1
        go_wp2_with fail
        refine HST4.out.mono ?_
        rintro e w5 ⟨rfl, r5, k5⟩
        have R5 := hide r5
        have RW5 := hide (RW4.out.kept k5 (by omega) (by omega))
        have KP5 := hide (KP4.out.trans k5)
        clear r5 k5
        have HNC := hide (number_at g 148 [] a n c b (s3 b k) w5 R5.out)
        rw [HN3.out] at HNC
        go_wp2_with fail
        refine HNC.out.mono ?_
        rintro e w6 ⟨rfl, r6, k6⟩
        have R6 : Hid (Rdr w6 g 148 [] a n c b (s4 b k)) := r6
        have rw6 := RW5.out.kept k6 (by omega) (by omega)
        have KP6 := hide (KP5.out.trans k6)
        have y2 : w6.cell? ⟨hb, 2, none⟩ = some (.int .i64 0) := rw6.cell 2
        have f2 := rw6.frozen 2
        have hb6 := rw6.lt
        obtain ⟨W7, hW7⟩ : ∃ W7, W7 = w6.setCell ⟨hb, 2, none⟩ (.int .i64 (N3 : Nat)) := ⟨_, rfl⟩
        have RW7 : Hid (Row W7 hb 151 [.int .i64 (I : Nat), .int .i64 (F : Nat), .int .i64 (N3 : Nat)]) := by show Row _ _ _ _; rw [hW7]; simpa using rw6.set 2 (.int .i64 (N3 : Nat))
        have R7 : Hid (Rdr W7 g 148 [] a n c b (s4 b k)) := by rw [hW7]; exact R6.out.other rw6 (by decide) (by omega) (fun x o e h0 => by have := HSB.out x o e h0; omega) 2 _
        have KP7 : Hid (Kept g g W0 W7) := by rw [hW7]; exact KP6.out.newset (by omega) 2 _
        have HW7 := hide hW7.symm
        clear r6 k6 rw6 hW7 HNC
        go_wp2_with fail
        rw [HW7.out]
        clear y2 f2
        have h8 := s4_at b k
        have z1 : W7.cell? ⟨g, 1, none⟩ = some (.int .i64 ((s4 b k).1 : Nat)) := by obtain ⟨⟨v, p1, _⟩, _⟩ := R7.out; exact p1.cell 1
        have hg7 := R7.out.block
        obtain ⟨M, hM⟩ : ∃ M, M = (s4 b k).1 := ⟨_, rfl⟩
        rw [← hM] at z1 h8
        have HTK := hide (take_at g 148 [] a n c b (s4 b k) (12 - M) W7.drew R7.out.drew (by omega))
        have H5 : Hid (tk b (12 - M) (s4 b k) = s5 b k) := by show _ = _; rw [hM]; rfl
        rw [H5.out, show ((12 - M : Nat) : Int) = 12 - (M : Int) by omega] at HTK
        have hwr : IntKind.i64.wrap (12 - (M : Int)) = 12 - (M : Int) := by rw [IntKind.wrap_i64]; omega
        have HZ : Hid (∀ w8, Kept g g W7.drew w8 → Row w8 hb 151 [.int .i64 (I : Nat), .int .i64 (F : Nat), .int .i64 (N3 : Nat)] ∧ Row w8 w.heap.size 151 [.int .i64 0, .int .i64 0, .int .i64 0] ∧ Kept g g W0 w8) := fun w8 k8 => ⟨RW7.out.kept k8.of_drew (by omega) (by omega), T0.out.kept (KP7.out.trans k8.of_drew) (by omega) (by omega), KP7.out.trans k8.of_drew⟩
        clear hM
        go_region_with (first | (go_at_call 107; refine HTK.out.mono ?_; rintro e w8 ⟨x8, l8, y8, rfl, r8, k8, z8, z8'⟩; obtain ⟨p8, q8, kk8⟩ := HZ.out w8 k8; have R8 := hide r8; have KK8 := hide kk8; have Q8 := hide q8; have a0 : w8.cell? ⟨hb, 0, none⟩ = some (.int .i64 (I : Nat)) := p8.cell 0; have a1 : w8.cell? ⟨hb, 1, none⟩ = some (.int .i64 (F : Nat)) := p8.cell 1; have a2 : w8.cell? ⟨hb, 2, none⟩ = some (.int .i64 (N3 : Nat)) := p8.cell 2; have b0 : w8.cell? ⟨w.heap.size, 0, none⟩ = some (.int .i64 0) := q8.cell 0; have b1 : w8.cell? ⟨w.heap.size, 1, none⟩ = some (.int .i64 0) := q8.cell 1; have b2 : w8.cell? ⟨w.heap.size, 2, none⟩ = some (.int .i64 0) := q8.cell 2; have e0 := q8.frozen 0; have e1 := q8.frozen 1; have e2 := q8.frozen 2; have lq := q8.lt; have lp := p8.lt; clear r8 k8 z8 z8' p8 q8 kk8 z1))
        all_goals (try go_wp2_with fail)
        all_goals (have HROW : Hid (Row (((w8.setCell ⟨w.heap.size, 0, none⟩ (.int .i64 (I : Nat))).setCell ⟨w.heap.size, 1, none⟩ (.int .i64 (F : Nat))).setCell ⟨w.heap.size, 2, none⟩ (.int .i64 (N3 : Nat))) w.heap.size 151 [.int .i64 (I : Nat), .int .i64 (F : Nat), .int .i64 (N3 : Nat)]) := (by show Row _ _ _ _; simpa using ((Q8.out.set 0 (.int .i64 (I : Nat))).set 1 (.int .i64 (F : Nat))).set 2 (.int .i64 (N3 : Nat))))
        all_goals refine bodyPost_ret (results_cell_row rfl _ _ w.heap.size 151 #[.int .i64 (I : Nat), .int .i64 (F : Nat), .int .i64 (N3 : Nat)] (0, 0) _ rfl HROW.out Tryz.underlying151 rfl info82) rfl ⟨rfl, R8.out.row3 Q8.out (by decide) (by omega) (fun x o e h0 => by have := HSB.out x o e h0; omega) _ _ _, (((K0.out.trans KK8.out).newset (Nat.le_refl _) 0 _).newset (Nat.le_refl _) 1 _).newset (Nat.le_refl _) 2 _⟩
end Go.Proofs.YtabkelhipmijfaaGreatDoor
