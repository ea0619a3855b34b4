/-
  The reader of messages: records; The reader of messages: aliases; conditions as each theorem has them.
-/
import Derived.Test.YtabkelhipmijfaaGreatDoorJoined5
set_option linter.unusedSimpArgs false
set_option linter.unusedVariables false
namespace Go.Proofs.YtabkelhipmijfaaGreatDoor
open Go.RowKit
theorem info113 : (Tryz.prog.info? 187).map (·.size) = some 6 := by kernel_rfl
theorem Rdr.away {w w' : World} {g : Nat} {ty : TypeId} {R : List Value} {a : Option Addr} {n c : Nat} {b : List Nat} {s : Sr} (h : Rdr w g ty R a n c b s) {hb : Nat} {tz : TypeId} {C : List Value} (hr : Row w hb tz C) (hne : tz ≠ 158) (hg : hb ≠ g) (hx : ∀ x o, a = some ⟨x, o, none⟩ → 0 < n → x ≠ hb) (k : Kept hb hb w w') : Rdr w' g ty R a n c b s := by
  obtain ⟨⟨v, h1, h2⟩, h3, h4, h5, h6⟩ := h
  exact ⟨⟨v, h1.kept k (fun e => hg e.symm) (fun e => hg e.symm), h2.kept hr hne k⟩, h3.kept k (fun h0 x o e => hx x o e h0), h4, h5, h6⟩
theorem Kept.newk {g hb : Nat} {a b c : World} (h : Kept g g a b) (k : Kept hb hb b c) (hx : a.heap.size ≤ hb) : Kept g g a c :=
  ⟨k.os.trans h.os, k.tape.trans h.tape, k.output.trans h.output, Nat.le_trans h.size k.size, fun i hi h1 h2 => (k.block i (Nat.lt_of_lt_of_le hi h.size) (by omega) (by omega)).trans (h.block i hi h1 h2)⟩
theorem set6 (w : World) (hb : Nat) (x0 x1 x2 x3 x4 x5 : Value) : Kept hb hb w ((((((w.setCell ⟨hb, 0, none⟩ x0).setCell ⟨hb, 1, none⟩ x1).setCell ⟨hb, 2, none⟩ x2).setCell ⟨hb, 3, none⟩ x3).setCell ⟨hb, 4, none⟩ x4).setCell ⟨hb, 5, none⟩ x5) := ((((((Kept.refl hb hb w).set 0 _).set 1 _).set 2 _).set 3 _).set 4 _).set 5 _
theorem Row.c6 {w : World} {hb : Nat} {ty : TypeId} {y0 y1 y2 y3 y4 y5 : Value} (h : Row w hb ty [y0, y1, y2, y3, y4, y5]) : w.cell? ⟨hb, 0, none⟩ = some y0 ∧ w.cell? ⟨hb, 1, none⟩ = some y1 ∧ w.cell? ⟨hb, 2, none⟩ = some y2 ∧ w.cell? ⟨hb, 3, none⟩ = some y3 ∧ w.cell? ⟨hb, 4, none⟩ = some y4 ∧ w.cell? ⟨hb, 5, none⟩ = some y5 ∧ w.frozen? ⟨hb, 0, none⟩ = false ∧ w.frozen? ⟨hb, 1, none⟩ = false ∧ w.frozen? ⟨hb, 2, none⟩ = false ∧ w.frozen? ⟨hb, 3, none⟩ = false ∧ w.frozen? ⟨hb, 4, none⟩ = false ∧ w.frozen? ⟨hb, 5, none⟩ = false ∧ hb < w.heap.size :=
  ⟨h.cell 0, h.cell 1, h.cell 2, h.cell 3, h.cell 4, h.cell 5, h.frozen 0, h.frozen 1, h.frozen 2, h.frozen 3, h.frozen 4, h.frozen 5, h.lt⟩
theorem Row.set6 {w : World} {hb : Nat} {ty : TypeId} {y0 y1 y2 y3 y4 y5 : Value} (h : Row w hb ty [y0, y1, y2, y3, y4, y5]) (x0 x1 x2 x3 x4 x5 : Value) : Row ((((((w.setCell ⟨hb, 0, none⟩ x0).setCell ⟨hb, 1, none⟩ x1).setCell ⟨hb, 2, none⟩ x2).setCell ⟨hb, 3, none⟩ x3).setCell ⟨hb, 4, none⟩ x4).setCell ⟨hb, 5, none⟩ x5) hb ty [x0, x1, x2, x3, x4, x5] := by
  simpa using (((((h.set 0 x0).set 1 x1).set 2 x2).set 3 x3).set 4 x4).set 5 x5
set_option maxRecDepth 100000 in
set_option maxHeartbeats 8000000 in
theorem record_at (g : Nat) (a : Option Addr) (n c : Nat) (b : List Nat) (s : Sr) (w : World) (h : Rdr w g 148 [] a n c b s) (hV : Vars w) (hn : n ≤ 140737488351232) (hg0 : 0 < g) :
    Calls Tryz.prog 109 #[.pointer (some ⟨g, 0, none⟩)] w fun e w' => ∃ x l y, e = .returned (.agg #[.string (strN (rc b s).nm), .int .i64 ((rc b s).kd : Nat), .int .i64 ((rc b s).cl : Nat), .int .i64 ((rc b s).sc : Nat), .int .i64 ((rc b s).da : Nat), .slice x l y]) ∧ Rdr w' g 148 [] a n c b (rcS b s) ∧ Kept g g w w' ∧ Vars w' ∧ ((rcS b s).2 = .ok → l = (rc b s).sz ∧ Src w' x l y (pc b (rc b s).da (rc b s).sz)) := by
  have hgs := h.block
  have HBY := hide h.src.byte
  have HSB : Hid (∀ x o, a = some ⟨x, o, none⟩ → 0 < n → x < w.heap.size) := fun x o e h0 => h.src.lt h0 e
  obtain ⟨W0, hW0⟩ : ∃ W0, W0 = w.alloc (.cells #[.string ⟨#[]⟩, .int .i64 0, .int .i64 0, .int .i64 0, .int .i64 0, .slice none 0 0] 187) := ⟨_, rfl⟩
  have R0 : Hid (Rdr W0 g 148 [] a n c b s) := by rw [hW0]; exact h.alloc _
  have KW : Hid (Kept g g w W0) := by rw [hW0]; exact (Kept.refl _ _ _).alloc _
  have K0 : Hid (Kept g g W0 W0) := Kept.refl _ _ _
  have hs0 : W0.heap.size = w.heap.size + 1 := by rw [hW0]; simp
  have T0 : Hid (Row W0 w.heap.size 187 [.string ⟨#[]⟩, .int .i64 0, .int .i64 0, .int .i64 0, .int .i64 0, .slice none 0 0]) := by show Row _ _ _ _; rw [hW0]; exact Row.new w _ 187
  have V0 : Hid (Vars W0) := hV.kept KW.out hg0
  have HW0 := hide hW0.symm
  obtain ⟨X, hX⟩ : ∃ X, X = strN (mn b s).1 := ⟨_, rfl⟩
  obtain ⟨D1, hD1⟩ : ∃ x, x = nu b ((mn b s).2) := ⟨_, rfl⟩
  obtain ⟨D2, hD2⟩ : ∃ x, x = nu b (tk b 2 (mn b s).2) := ⟨_, rfl⟩
  obtain ⟨D3, hD3⟩ : ∃ x, x = secs (nu b (tk b 2 (tk b 2 (mn b s).2))) (nu b (tk b 2 (tk b 2 (tk b 2 (mn b s).2)))) := ⟨_, rfl⟩
  have HX := hide hX
  have HKD : Hid (nu b ((mn b s).2) = D1) := hD1.symm
  have HCL : Hid (nu b (tk b 2 (mn b s).2) = D2) := hD2.symm
  have HSC : Hid (secs (nu b (tk b 2 (tk b 2 (mn b s).2))) (nu b (tk b 2 (tk b 2 (tk b 2 (mn b s).2)))) = D3) := hD3.symm
  clear h hW0 hV hX hD1 hD2 hD3
  go_enter Tryz.func109, Tryz.ntmps109
  go_wp2_with fail
  rw [HW0.out]
  go_cut [3] (fun s3 wx => ∃ hb : Nat, s3 = .pointer (some ⟨hb, 0, none⟩) ∧ w.heap.size < hb ∧ hb < wx.heap.size ∧ Hid (Row wx hb 187 [.string X, .int .i64 (D1 : Nat), .int .i64 (D2 : Nat), .int .i64 (D3 : Nat), .int .i64 0, .slice none 0 0] ∧ Rdr wx g 148 [] a n c b (rs b s 4) ∧ Kept g g W0 wx))
  case first =>
    go_region_with (first
      | (go_at_call 119; refine (seconds_at g a n c b (tk b 2 (tk b 2 (mn b s).2)) _ (by exact RC.out)).mono ?_; rw [HSC.out]; rintro e wD ⟨rfl, r, k⟩; have RD := hide r; have KD := hide (KC.out.trans k); have hszD := KD.out.size; have hgbD := RD.out.block; have tY := YC.out.kept k (by omega) (by omega); have YD := hide tY; obtain ⟨tt0, tt1, tt2, tt3, tt4, tt5, tf0, tf1, tf2, tf3, tf4, tf5, tl⟩ := tY.c6; clear tY; clear r k )
      | (go_at_call 119; refine (seconds_at g a n c b (tk b 2 (tk b 2 (mn b s).2)) _ (by exact (RC.out.alloc _))).mono ?_; rw [HSC.out]; rintro e wD ⟨rfl, r, k⟩; have RD := hide r; have KD := hide ((KC.out.alloc _).trans k); have hszD := KD.out.size; have hgbD := RD.out.block; have tY : Row wD wC.heap.size 187 [.string ⟨#[]⟩, .int .i64 0, .int .i64 0, .int .i64 0, .int .i64 0, .slice none 0 0] := (Row.new wC #[.string ⟨#[]⟩, .int .i64 0, .int .i64 0, .int .i64 0, .int .i64 0, .slice none 0 0] 187).kept k (by omega) (by omega); have YD := hide tY; obtain ⟨tt0, tt1, tt2, tt3, tt4, tt5, tf0, tf1, tf2, tf3, tf4, tf5, tl⟩ := tY.c6; clear tY; clear r k )
      | (go_at_call 119; refine (seconds_at g a n c b (tk b 2 (tk b 2 (mn b s).2)) _ (by exact RC.out)).mono ?_; rw [HSC.out]; rintro e wD ⟨rfl, r, k⟩; have RD := hide r; have KD := hide (KC.out.trans k); have hszD := KD.out.size; have hgbD := RD.out.block; clear r k )
      | (go_at_call 106; refine (number_at g 148 [] a n c b (tk b 2 (mn b s).2) _ (by exact RB.out)).mono ?_; rw [HCL.out]; rintro e wC ⟨rfl, r, k⟩; have RC := hide r; have KC := hide (KB.out.trans k); have hszC := KC.out.size; have hgbC := RC.out.block; have tY := YB.out.kept k (by omega) (by omega); have YC := hide tY; clear tY; clear r k )
      | (go_at_call 106; refine (number_at g 148 [] a n c b (tk b 2 (mn b s).2) _ (by exact (RB.out.alloc _))).mono ?_; rw [HCL.out]; rintro e wC ⟨rfl, r, k⟩; have RC := hide r; have KC := hide ((KB.out.alloc _).trans k); have hszC := KC.out.size; have hgbC := RC.out.block; have tY : Row wC wB.heap.size 187 [.string ⟨#[]⟩, .int .i64 0, .int .i64 0, .int .i64 0, .int .i64 0, .slice none 0 0] := (Row.new wB #[.string ⟨#[]⟩, .int .i64 0, .int .i64 0, .int .i64 0, .int .i64 0, .slice none 0 0] 187).kept k (by omega) (by omega); have YC := hide tY; clear tY; clear r k )
      | (go_at_call 106; refine (number_at g 148 [] a n c b (tk b 2 (mn b s).2) _ (by exact RB.out)).mono ?_; rw [HCL.out]; rintro e wC ⟨rfl, r, k⟩; have RC := hide r; have KC := hide (KB.out.trans k); have hszC := KC.out.size; have hgbC := RC.out.block; clear r k )
      | (go_at_call 106; refine (number_at g 148 [] a n c b ((mn b s).2) _ (by exact RA.out)).mono ?_; rw [HKD.out]; rintro e wB ⟨rfl, r, k⟩; have RB := hide r; have KB := hide (KA.out.trans k); have hszB := KB.out.size; have hgbB := RB.out.block; have tY := YA.out.kept k (by omega) (by omega); have YB := hide tY; clear tY; clear r k )
      | (go_at_call 106; refine (number_at g 148 [] a n c b ((mn b s).2) _ (by exact (RA.out.alloc _))).mono ?_; rw [HKD.out]; rintro e wB ⟨rfl, r, k⟩; have RB := hide r; have KB := hide ((KA.out.alloc _).trans k); have hszB := KB.out.size; have hgbB := RB.out.block; have tY : Row wB wA.heap.size 187 [.string ⟨#[]⟩, .int .i64 0, .int .i64 0, .int .i64 0, .int .i64 0, .slice none 0 0] := (Row.new wA #[.string ⟨#[]⟩, .int .i64 0, .int .i64 0, .int .i64 0, .int .i64 0, .slice none 0 0] 187).kept k (by omega) (by omega); have YB := hide tY; clear tY; clear r k )
      | (go_at_call 106; refine (number_at g 148 [] a n c b ((mn b s).2) _ (by exact RA.out)).mono ?_; rw [HKD.out]; rintro e wB ⟨rfl, r, k⟩; have RB := hide r; have KB := hide (KA.out.trans k); have hszB := KB.out.size; have hgbB := RB.out.block; clear r k )
      | (go_at_call 108; refine (mname_at g a n c b s _ (by exact (R0.out.alloc _).drew) (by exact V0.out.kept ((Kept.refl g g _).alloc _).drew hg0) hn hg0).mono ?_; rw [← HX.out]; rintro e wA ⟨rfl, r, k, vv⟩; have VA := hide vv; have RA := hide r; have KA := hide ((K0.out.alloc _).trans k.of_drew); have hszA := KA.out.size; have hgbA := RA.out.block; have tY : Row wA (w.heap.size + 1) 187 [.string ⟨#[]⟩, .int .i64 0, .int .i64 0, .int .i64 0, .int .i64 0, .slice none 0 0] := (by rw [← hs0]; exact (Row.new W0 #[.string ⟨#[]⟩, .int .i64 0, .int .i64 0, .int .i64 0, .int .i64 0, .slice none 0 0] 187).kept k.of_drew (by omega) (by omega)); have YA := hide tY; clear tY; clear r k vv)
      | (go_at_call 108; refine (mname_at g a n c b s _ (by exact R0.out.drew) (by exact V0.out) hn hg0).mono ?_; rw [← HX.out]; rintro e wA ⟨rfl, r, k, vv⟩; have VA := hide vv; have RA := hide r; have KA := hide (K0.out.trans k.of_drew); have hszA := KA.out.size; have hgbA := RA.out.block; clear r k vv))
    · go_wp2_with fail
      go_meet
      exact ⟨wD.heap.size, rfl, by omega, by simp, Row.new wD _ 187, RD.out.alloc _, KD.out.alloc _⟩
    · go_wp2_with fail
      go_meet
      exact ⟨wC.heap.size, rfl, by omega, by simp [World.setCell]; omega, YD.out.set6 (.string X) (.int .i64 (D1 : Nat)) (.int .i64 (D2 : Nat)) (.int .i64 (D3 : Nat)) (.int .i64 0) (.slice none 0 0), RD.out.away YD.out (by decide) (by omega) (fun x o e h0 => by have := HSB.out x o e h0; omega) (set6 _ _ _ _ _ _ _ _), KD.out.newk (set6 _ _ _ _ _ _ _ _) (by omega)⟩
    · go_wp2_with fail
      go_meet
      exact ⟨wB.heap.size, rfl, by omega, by simp [World.setCell]; omega, YD.out.set6 (.string X) (.int .i64 (D1 : Nat)) (.int .i64 (D2 : Nat)) (.int .i64 (D3 : Nat)) (.int .i64 0) (.slice none 0 0), RD.out.away YD.out (by decide) (by omega) (fun x o e h0 => by have := HSB.out x o e h0; omega) (set6 _ _ _ _ _ _ _ _), KD.out.newk (set6 _ _ _ _ _ _ _ _) (by omega)⟩
    · go_wp2_with fail
      go_meet
      exact ⟨wA.heap.size, rfl, by omega, by simp [World.setCell]; omega, YD.out.set6 (.string X) (.int .i64 (D1 : Nat)) (.int .i64 (D2 : Nat)) (.int .i64 (D3 : Nat)) (.int .i64 0) (.slice none 0 0), RD.out.away YD.out (by decide) (by omega) (fun x o e h0 => by have := HSB.out x o e h0; omega) (set6 _ _ _ _ _ _ _ _), KD.out.newk (set6 _ _ _ _ _ _ _ _) (by omega)⟩
    · go_wp2_with fail
      go_meet
      exact ⟨w.heap.size + 1, rfl, by omega, by simp [World.setCell]; omega, YD.out.set6 (.string X) (.int .i64 (D1 : Nat)) (.int .i64 (D2 : Nat)) (.int .i64 (D3 : Nat)) (.int .i64 0) (.slice none 0 0), RD.out.away YD.out (by decide) (by omega) (fun x o e h0 => by have := HSB.out x o e h0; omega) (set6 _ _ _ _ _ _ _ _), KD.out.newk (set6 _ _ _ _ _ _ _ _) (by omega)⟩
  case rest =>
    obtain ⟨hb, rfl, hb1, hb2, HC⟩ := hcut
    obtain ⟨rw_, rd_, kp_⟩ := HC.out
    have RW := hide rw_
    have KP := hide kp_
    have HNS := hide (number_at g 148 [] a n c b (rs b s 4) wc rd_)
    obtain ⟨SZ, hSZ⟩ : ∃ SZ, SZ = nu b (rs b s 4) := ⟨_, rfl⟩
    rw [← hSZ] at HNS
    have HSZ := hide hSZ
    have hSl : SZ < 65536 := by rw [hSZ]; exact nu_lt HBY.out _
    clear HC rw_ rd_ kp_ hSZ
    go_wp2_with fail
    refine HNS.out.mono ?_
    rintro e w1 ⟨rfl, r1, k1⟩
    have R1 : Hid (Rdr w1 g 148 [] a n c b (rs b s 5)) := r1
    have p1 := RW.out.kept k1 (by omega) (by omega)
    have KP1 := hide (KP.out.trans k1)
    obtain ⟨M, hM⟩ : ∃ M, M = (rs b s 5).1 := ⟨_, rfl⟩
    have HM := hide hM
    have c1 : w1.cell? ⟨g, 1, none⟩ = some (.int .i64 (M : Nat)) := by obtain ⟨⟨v, q1, _⟩, _⟩ := R1.out; rw [hM]; exact q1.cell 1
    have hgs1 := R1.out.block
    have y4 : w1.cell? ⟨hb, 4, none⟩ = some (.int .i64 0) := p1.cell 4
    have f4 := p1.frozen 4
    have hbl1 := p1.lt
    obtain ⟨W2, hW2⟩ : ∃ W2, W2 = w1.setCell ⟨hb, 4, none⟩ (.int .i64 (M : Nat)) := ⟨_, rfl⟩
    have k2 : Kept hb hb w1 W2 := by rw [hW2]; exact (Kept.refl _ _ _).set 4 _
    have RW2 : Hid (Row W2 hb 187 [.string X, .int .i64 (D1 : Nat), .int .i64 (D2 : Nat), .int .i64 (D3 : Nat), .int .i64 (M : Nat), .slice none 0 0]) := by show Row _ _ _ _; rw [hW2]; simpa using p1.set 4 (.int .i64 (M : Nat))
    have R2 : Hid (Rdr W2 g 148 [] a n c b (rs b s 5)) := R1.out.away p1 (by decide) (by omega) (fun x o e h0 => by have := HSB.out x o e h0; omega) k2
    have KP2 : Hid (Kept g g W0 W2) := KP1.out.newk k2 (by omega)
    have HTK := hide (take_at g 148 [] a n c b (rs b s 5) SZ W2 R2.out (by omega))
    have H5 : Hid (tk b SZ (rs b s 5) = rcS b s) := by show _ = _; rw [HSZ.out]; rfl
    rw [H5.out] at HTK
    have HW2 := hide hW2.symm
    clear r1 k1 p1 hM hW2 k2 HNS
    go_wp2_with fail
    rw [HW2.out]
    refine HTK.out.mono ?_
    rintro e w3 ⟨x, l, y, rfl, r3, k3, z1, z2⟩
    have p3 := RW2.out.kept k3 (by omega) (by omega)
    have q3 := T0.out.kept (KP2.out.trans k3) (by omega) (by omega)
    have y5 : w3.cell? ⟨hb, 5, none⟩ = some (.slice none 0 0) := p3.cell 5
    have f5 := p3.frozen 5
    have hbl3 := p3.lt
    obtain ⟨W4, hW4⟩ : ∃ W4, W4 = w3.setCell ⟨hb, 5, none⟩ (.slice x l y) := ⟨_, rfl⟩
    have k4 : Kept hb hb w3 W4 := by rw [hW4]; exact (Kept.refl _ _ _).set 5 _
    have p4 : Row W4 hb 187 [.string X, .int .i64 (D1 : Nat), .int .i64 (D2 : Nat), .int .i64 (D3 : Nat), .int .i64 (M : Nat), .slice x l y] := by rw [hW4]; simpa using p3.set 5 (.slice x l y)
    have q4 : Row W4 w.heap.size 187 [.string ⟨#[]⟩, .int .i64 0, .int .i64 0, .int .i64 0, .int .i64 0, .slice none 0 0] := q3.kept k4 (by omega) (by omega)
    have R4 : Hid (Rdr W4 g 148 [] a n c b (rcS b s)) := r3.away p3 (by decide) (by omega) (fun x o e h0 => by have := HSB.out x o e h0; omega) k4
    have KP4 : Hid (Kept g g W0 W4) := (KP2.out.trans k3).newk k4 (by omega)
    have HZ : Hid ((rcS b s).2 = .ok → l = SZ ∧ Src w3 x SZ y (pc b M SZ) ∧ ∀ g', Off a n g' → Off x SZ g') := by rw [HM.out]; exact z1
    have HAO : Hid (∀ g', w.heap.size ≤ g' → Off a n g') := fun g' hg' h0 bl of e => by have := HSB.out bl of e h0; omega
    obtain ⟨tt0, tt1, tt2, tt3, tt4, tt5, tf0, tf1, tf2, tf3, tf4, tf5, tl⟩ := q4.c6
    obtain ⟨uu0, uu1, uu2, uu3, uu4, uu5, _, _, _, _, _, _, ul⟩ := p4.c6
    have Q4 := hide q4
    have K4 := hide k4
    have HW4 := hide hW4.symm
    have HROW := hide (q4.set6 (.string X) (.int .i64 (D1 : Nat)) (.int .i64 (D2 : Nat)) (.int .i64 (D3 : Nat)) (.int .i64 (M : Nat)) (.slice x l y))
    obtain ⟨sq0, sq1, sq2, sq3, sq4, sq5, sf0, sf1, sf2, sf3, sf4, sf5, sl⟩ := q3.c6
    obtain ⟨ss0, ss1, ss2, ss3, ss4, _, _, _, _, _, _, _, _⟩ := p3.c6
    clear r3 k3 z1 z2 p3 q3 hW4 k4 p4 q4 HTK c1 y4 f4
    go_wp2_with fail
    rw [HW4.out]
    refine bodyPost_ret (results_cell_row rfl _ _ w.heap.size 187 #[.string X, .int .i64 (D1 : Nat), .int .i64 (D2 : Nat), .int .i64 (D3 : Nat), .int .i64 (M : Nat), .slice x l y] (0, 0) _ rfl HROW.out Tryz.underlying187 rfl info113) rfl ⟨x, l, y, ?_, R4.out.away Q4.out (by decide) (by omega) (fun x o e h0 => by have := HSB.out x o e h0; omega) (set6 _ _ _ _ _ _ _ _), (KW.out.trans KP4.out).newk (set6 _ _ _ _ _ _ _ _) (by omega), ?_, ?_⟩
    · rw [HX.out, ← HKD.out, ← HCL.out, ← HSC.out, HM.out]; rfl
    · exact (V0.out.kept KP4.out hg0).kept (set6 _ _ _ _ _ _ _ _) (by omega)
    · intro hok
      obtain ⟨e1, e2, e3⟩ := HZ.out hok
      subst e1
      have s4 := e2.kept K4.out (e3 hb (HAO.out hb (by omega)))
      refine ⟨HSZ.out, ?_⟩
      have s5 := s4.kept (set6 W4 w.heap.size (.string X) (.int .i64 (D1 : Nat)) (.int .i64 (D2 : Nat)) (.int .i64 (D3 : Nat)) (.int .i64 (M : Nat)) (.slice x l y)) (e3 _ (HAO.out _ (Nat.le_refl _)))
      have e4 : pc b (rc b s).da (rc b s).sz = pc b M l := by rw [HM.out, HSZ.out]; rfl
      rw [e4]
      exact s5
end Go.Proofs.YtabkelhipmijfaaGreatDoor

set_option linter.unusedSimpArgs false
set_option linter.unusedVariables false
namespace Go.Proofs.YtabkelhipmijfaaGreatDoor
open Go.RowKit
/-- Where the reader stands behind an alias. -/
def alE (b : List Nat) (da l : Nat) (p : Nat) : Sr := if (nam b da).2.1 = da + l then (p, (nam b da).2.2) else stp da 6 (p, (nam b da).2.2)
set_option maxRecDepth 100000 in
set_option maxHeartbeats 4000000 in
theorem alias_at (g : Nat) (a : Option Addr) (n c : Nat) (b : List Nat) (s : Sr) (w : World) (X : ByteArray) (kd cl sc da l : Nat) (x : Option Addr) (y : Nat) (h : Rdr w g 148 [] a n c b s) (hok : s.2 = .ok) (hV : Vars w) (hn : n ≤ 140737488351232) (hg0 : 0 < g) (hda : da + l ≤ n) :
    Calls Tryz.prog 110 #[.pointer (some ⟨g, 0, none⟩), .agg #[.string X, .int .i64 (kd : Nat), .int .i64 (cl : Nat), .int .i64 (sc : Nat), .int .i64 (da : Nat), .slice x l y]] w fun e w' => e = .returned (.string (strN (nam b da).1)) ∧ Rdr w' g 148 [] a n c b (alE b da l s.1) ∧ Kept g g w w' ∧ Vars w' := by
  have hgs := h.block
  have hln := h.src.hlen
  have HSB : Hid (∀ x o, a = some ⟨x, o, none⟩ → 0 < n → x < w.heap.size) := fun x o e h0 => h.src.lt h0 e
  obtain ⟨W0, hW0⟩ : ∃ W0, W0 = w.alloc (.cells #[.string X, .int .i64 (kd : Nat), .int .i64 (cl : Nat), .int .i64 (sc : Nat), .int .i64 (da : Nat), .slice x l y] 187) := ⟨_, rfl⟩
  have R0 : Rdr W0 g 148 [] a n c b s := by rw [hW0]; exact h.alloc _
  have K0 : Hid (Kept g g w W0) := by rw [hW0]; exact (Kept.refl _ _ _).alloc _
  have hs0 : W0.heap.size = w.heap.size + 1 := by rw [hW0]; simp
  have T0 : Row W0 w.heap.size 187 [.string X, .int .i64 (kd : Nat), .int .i64 (cl : Nat), .int .i64 (sc : Nat), .int .i64 (da : Nat), .slice x l y] := by rw [hW0]; exact Row.new w _ 187
  have V0 : Vars W0 := hV.kept K0.out hg0
  have HW0 := hide hW0.symm
  obtain ⟨P, hP⟩ : ∃ P, P = s.1 := ⟨_, rfl⟩
  obtain ⟨R, hR⟩ : ∃ R, R = nam b da := ⟨_, rfl⟩
  have HN := hide (name_at a n c b (da : Nat) W0.drew R0.src.drew V0 (by omega) (by omega))
  rw [show namI b ((da : Nat) : Int) = R by rw [hR, namI, if_neg (by omega)]; rfl] at HN
  obtain ⟨⟨v0, p0, i0⟩, s0, o0, t0, l0⟩ := R0
  obtain rfl := i0.nil hok
  rw [← hP] at p0
  have c0 : W0.cell? ⟨g, 0, none⟩ = some (.slice a n c) := p0.cell 0
  have d4 : W0.cell? ⟨w.heap.size, 4, none⟩ = some (.int .i64 (da : Nat)) := T0.cell 4
  have hgs0 := p0.lt
  have hRl : R.2.1 ≤ n := by
    rw [hR]
    by_cases ho : (nam b da).2.2 = .ok
    · have := (nam_good ho).2.1; omega
    · rw [nam_bad ho]; simp
  have HZ : Hid (∀ w2 v2, IsF w2 R.2.2 v2 → Below W0.drew.heap.size W0.drew w2 → w2.cell? ⟨g, 2, none⟩ = some .nilIface ∧ w2.frozen? ⟨g, 2, none⟩ = false ∧ g < w2.heap.size ∧ w2.cell? ⟨w.heap.size, 4, none⟩ = some (.int .i64 (da : Nat)) ∧ w2.cell? ⟨w.heap.size, 5, none⟩ = some (.slice x l y) ∧ w.heap.size < w2.heap.size ∧ Rdr (w2.setCell ⟨g, 2, none⟩ v2) g 148 [] a n c b (P, R.2.2) ∧ Kept g g W0 (w2.setCell ⟨g, 2, none⟩ v2) ∧ Row (w2.setCell ⟨g, 2, none⟩ v2) w.heap.size 187 [.string X, .int .i64 (kd : Nat), .int .i64 (cl : Nat), .int .i64 (sc : Nat), .int .i64 (da : Nat), .slice x l y]) := fun w2 v2 hi hb => by
    have hb' : Below W0.heap.size W0 w2 := below_of_drew hb
    have r2 : Row w2 g 148 [.slice a n c, .int .i64 (P : Nat), .nilIface] := p0.keep (hb'.block g p0.lt)
    have k4 : Kept g g w2 (w2.setCell ⟨g, 2, none⟩ v2) := (Kept.refl g g w2).set 2 v2
    have t2 := T0.keep (hb'.block _ T0.lt)
    refine ⟨r2.cell 2, r2.frozen 2, r2.lt, t2.cell 4, t2.cell 5, t2.lt, ⟨⟨v2, by simpa using r2.set 2 v2, hi.kept r2 (by decide) k4⟩, (s0.below hb').kept k4 o0, o0, t0, ?_⟩, (Kept.of_below hb').trans k4, t2.kept k4 (by omega) (by omega)⟩
    show P < _
    rw [hP]; exact l0
  have HV0 := hide V0
  have HAL : Hid (alE b da l s.1 = if R.2.1 = da + l then (P, R.2.2) else stp da 6 (P, R.2.2)) := by show _ = _; rw [alE, ← hR, hP]
  obtain ⟨S, hS⟩ : ∃ S, S = alE b da l s.1 := ⟨_, rfl⟩
  rw [← hS] at HAL ⊢
  rw [← hR]
  obtain ⟨Y, hY⟩ : ∃ Y, Y = strN R.1 := ⟨_, rfl⟩
  obtain ⟨Q, hQ⟩ : ∃ Q, Q = R.2.1 := ⟨_, rfl⟩
  obtain ⟨E, hE⟩ : ∃ E, E = R.2.2 := ⟨_, rfl⟩
  rw [← hY, ← hQ, ← hE] at HN
  rw [← hE] at HZ HAL
  rw [← hQ] at HAL hRl
  rw [← hY]
  clear h hW0 hV hok p0 i0 s0 o0 t0 l0 T0 V0 hP hR hS hY hQ hE
  by_cases hEok : E = .ok
  · have HEO := hide hEok
    clear hEok
    by_cases hq : Q = da + l
    · have HS : Hid (S = (P, E)) := by show _ = _; rw [HAL.out, if_pos hq]
      have dq : ((Q : Int) != (da : Int) + (l : Int)) = false := by simp; omega
      clear hq
      go_enter Tryz.func110, Tryz.ntmps110
      go_wp2_with fail
      rw [HW0.out]
      go_region_with (first | (go_at_call 118; refine HN.out.mono ?_; rintro e w2 ⟨v2, rfl, i2, b2⟩; obtain ⟨z2, z4, z6, za, zb, zc, z7, z8, z9⟩ := HZ.out w2 v2 i2 b2; obtain rfl := i2.nil HEO.out; have RD := hide z7; have KP := hide z8; have TR := hide z9; clear i2 b2 z7 z8 z9 c0 d4))
      all_goals (try go_wp2_with fail)
      all_goals go_ret
      all_goals (rw [HS.out])
      all_goals exact ⟨rfl, RD.out, K0.out.trans KP.out, HV0.out.kept KP.out hg0⟩
    · have HS : Hid (S = stp da 6 (P, E)) := by show _ = _; rw [HAL.out, if_neg hq]
      have dq : ((Q : Int) != (da : Int) + (l : Int)) = true := by simp; omega
      clear hq
      go_enter Tryz.func110, Tryz.ntmps110
      go_wp2_with fail
      rw [HW0.out]
      go_region_with (first | (go_at_call 118; refine HN.out.mono ?_; rintro e w2 ⟨v2, rfl, i2, b2⟩; obtain ⟨z2, z4, z6, za, zb, zc, z7, z8, z9⟩ := HZ.out w2 v2 i2 b2; obtain rfl := i2.nil HEO.out; have RD := hide z7; have KP := hide z8; have TR := hide z9; clear i2 b2 z7 z8 z9 c0 d4))
      all_goals (try go_wp2_with fail)
      all_goals (obtain ⟨W3, hW3⟩ : ∃ W3, W3 = w2.setCell ⟨g, 2, none⟩ .nilIface := ⟨_, rfl⟩)
      all_goals (rw [← hW3] at RD KP TR ⊢)
      all_goals (have HST := hide (stop_at g 148 [] a n c b (P, E) (da : Nat) da 6 W3.drew RD.out.drew (fun _ => rfl)))
      all_goals (rw [show ((6 : Nat) : Int) = 6 from rfl] at HST)
      all_goals (have e4 : W3.cell? ⟨w.heap.size, 4, none⟩ = some (.int .i64 (da : Nat)) := TR.out.cell 4)
      all_goals (have e5 := TR.out.lt)
      all_goals (have e6 := RD.out.block)
      all_goals (clear hW3 z2 z4 z6 za zb zc)
      all_goals (go_region_with (first | (go_at_call 105; refine HST.out.mono ?_; rintro e w8 ⟨rfl, r8, k8⟩; have R8 := hide r8; have K8 := hide (KP.out.trans k8.of_drew); clear r8 k8)))
      all_goals (try go_wp2_with fail)
      all_goals go_ret
      all_goals (rw [HS.out])
      all_goals exact ⟨rfl, R8.out, K0.out.trans K8.out, HV0.out.kept K8.out hg0⟩
  · have HEO := hide hEok
    clear hEok
    by_cases hq : Q = da + l
    · have HS : Hid (S = (P, E)) := by show _ = _; rw [HAL.out, if_pos hq]
      have dq : ((Q : Int) != (da : Int) + (l : Int)) = false := by simp; omega
      clear hq
      go_enter Tryz.func110, Tryz.ntmps110
      go_wp2_with fail
      rw [HW0.out]
      go_region_with (first | (go_at_call 118; refine HN.out.mono ?_; rintro e w2 ⟨v2, rfl, i2, b2⟩; obtain ⟨z2, z4, z6, za, zb, zc, z7, z8, z9⟩ := HZ.out w2 v2 i2 b2; obtain ⟨x2, rfl⟩ := i2.ptr HEO.out; have RD := hide z7; have KP := hide z8; have TR := hide z9; clear i2 b2 z7 z8 z9 c0 d4))
      all_goals (try go_wp2_with fail)
      all_goals go_ret
      all_goals (rw [HS.out])
      all_goals exact ⟨rfl, RD.out, K0.out.trans KP.out, HV0.out.kept KP.out hg0⟩
    · have HS : Hid (S = stp da 6 (P, E)) := by show _ = _; rw [HAL.out, if_neg hq]
      have dq : ((Q : Int) != (da : Int) + (l : Int)) = true := by simp; omega
      clear hq
      go_enter Tryz.func110, Tryz.ntmps110
      go_wp2_with fail
      rw [HW0.out]
      go_region_with (first | (go_at_call 118; refine HN.out.mono ?_; rintro e w2 ⟨v2, rfl, i2, b2⟩; obtain ⟨z2, z4, z6, za, zb, zc, z7, z8, z9⟩ := HZ.out w2 v2 i2 b2; obtain ⟨x2, rfl⟩ := i2.ptr HEO.out; have RD := hide z7; have KP := hide z8; have TR := hide z9; clear i2 b2 z7 z8 z9 c0 d4))
      all_goals (try go_wp2_with fail)
      all_goals (obtain ⟨W3, hW3⟩ : ∃ W3, W3 = w2.setCell ⟨g, 2, none⟩ (.iface 156 (.pointer (some ⟨x2, 0, none⟩))) := ⟨_, rfl⟩)
      all_goals (rw [← hW3] at RD KP TR ⊢)
      all_goals (have HST := hide (stop_at g 148 [] a n c b (P, E) (da : Nat) da 6 W3.drew RD.out.drew (fun _ => rfl)))
      all_goals (rw [show ((6 : Nat) : Int) = 6 from rfl] at HST)
      all_goals (have e4 : W3.cell? ⟨w.heap.size, 4, none⟩ = some (.int .i64 (da : Nat)) := TR.out.cell 4)
      all_goals (have e5 := TR.out.lt)
      all_goals (have e6 := RD.out.block)
      all_goals (clear hW3 z2 z4 z6 za zb zc)
      all_goals (go_region_with (first | (go_at_call 105; refine HST.out.mono ?_; rintro e w8 ⟨rfl, r8, k8⟩; have R8 := hide r8; have K8 := hide (KP.out.trans k8.of_drew); clear r8 k8)))
      all_goals (try go_wp2_with fail)
      all_goals go_ret
      all_goals (rw [HS.out])
      all_goals exact ⟨rfl, R8.out, K0.out.trans K8.out, HV0.out.kept K8.out hg0⟩
end Go.Proofs.YtabkelhipmijfaaGreatDoor
