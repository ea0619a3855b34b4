/-
  The chapter's example ('works' of the statements); Addresses are told of a name only if an answer with them was taken: what the statement does; ResolverTrue, the form up to a bulk: for all arguments of bulk at most 1048576 the call answers true and its arguments read as before, where the listed tables of Go's own library are as the program's text lays them; no other conditions.; conditions as each theorem has them.
-/
import Derived.Test.YtabkelhipmijfaaGreatDoorGW
import Derived.Test.YtabkelhipmijfaaGreatDoorGZ
import Derived.Test.YtabkelhipmijfaaGreatDoorJoinedPO
import Derived.Test.YtabkelhipmijfaaGreatDoorCards
import Derived.Test.YtabkelhipmijfaaGreatDoorTie
import Derived.Test.YtabkelhipmijfaaGreatDoorT
import Derived.Test.YtabkelhipmijfaaGreatDoorJoinedT3
import Derived.WalkKit
import Derived.ProofKit
import Derived.ShutString
import Derived.SizedLaws
import Derived.ChangeOld
import Derived.ChangeMaps5
import Derived.Below
import Derived.OpenShut
import Derived.SevenTiedAt
import Derived.Deep.DeepHandedRow
import Derived.Deep.DeepWitnessRowRef
import Derived.Lib.LaidTab
set_option linter.unusedSimpArgs false
set_option linter.unusedVariables false
namespace Go.Proofs.YtabkelhipmijfaaGreatDoor
open Go.RowKit

theorem vars_pos {w : World} (h : Vars w) : 0 < w.heap.size := by
  obtain ⟨m, hm⟩ := h
  simpa using Nm.lt_of_cell hm
theorem kept_cell {F : Nat → Prop} {w w' : World} (k : KeptS F w w') {b o : Nat} {v : Value} (h : w.cell? ⟨b, o, none⟩ = some v) (hF : ¬ F b) : w'.cell? ⟨b, o, none⟩ = some v := (World.cell?_of_block (k.block b (by simpa using Nm.lt_of_cell h) hF)).trans h
theorem kept_below {B : Nat} {F : Nat → Prop} {w0 w w' : World} (hb : Below B w0 w) (k : KeptS F w w') (hB : B ≤ w.heap.size) (hF : ∀ x, F x → B ≤ x) : Below B w0 w' := hb.trans (k.below hB hF)
set_option maxRecDepth 100000 in
set_option maxHeartbeats 4000000 in
theorem works_at (w : World) (hV : Vars w) : Calls Tryz.prog 26 #[] w fun e w' => e = .returned (.bool true) ∧ Below w.heap.size w w' := by
  have hp := vars_pos hV
  obtain ⟨B, hB⟩ : ∃ B, B = w.heap.size := ⟨_, rfl⟩
  have HN := hide (new_F (F := fun k => B ≤ k) 4 2 w (fun k hk => by omega) (by omega) (by omega) (by omega))
  rw [show ((4 : Nat) : Int) = 4 from rfl, show ((2 : Nat) : Int) = 2 from rfl] at HN
  have HB := hide hB
  have HV := hide hV
  have HP0 := hide hp
  rw [← hB]
  clear hV hp hB
  go_enter Tryz.func26, Tryz.ntmps26
  go_wp2_with fail
  refine HN.out.mono ?_
  rintro e w1 ⟨r, rfl, p1, k1⟩
  have P1 := hide p1
  have K1 : Hid (Below B w w1) := by rw [HB.out]; exact k1
  have V1 := hide (HV.out.below k1)
  have S1 : Hid (B ≤ w1.heap.size) := by rw [HB.out]; exact k1.size
  have HA := hide (ask_F P1.out (fun k hk => by have := S1.out; omega) V1.out (by have := HB.out; have := HP0.out; omega) 0 7 ab (by decide) (by simp [newR]))
  obtain ⟨a1, a2, a3, a4⟩ := w_ask
  rw [a1, a2, a3, a4] at HA
  clear p1 k1 a1 a2 a3 a4
  go_wp2_with fail
  refine HA.out.mono ?_
  rintro e w2 ⟨v, rfl, ho, p2, k2⟩
  obtain ⟨va, vc, rfl⟩ := ho.shape
  have P2 := hide p2
  have K2 : Hid (Below B w w2) := kept_below K1.out k2 S1.out (fun x hx => hx)
  have S2 : Hid (B ≤ w2.heap.size) := Nat.le_trans S1.out k2.size
  have V2 : Hid (Vars w2) := Vars.keptS V1.out k2 (by have := HB.out; have := HP0.out; omega)
  have HPO := hide (posts_F P2.out)
  clear ho p2 k2
  go_wp2_with fail
  refine HPO.out.mono ?_
  rintro e w3 ⟨pa, pc, rfl, sp, p3, k3⟩
  obtain ⟨e1, x, rfl, hc1, hc2, d, cd, cx, hcd1, hcd2, cdd, ⟨curx, hx⟩, ⟨curd, hd⟩⟩ := SrcP.byte (l := pst 7) sp (by decide)
  have P3 : Hid (PF (fun k => B ≤ k ∧ k ≠ x ∧ k ≠ d) w3 r (w1R 4 2)) := PF.mono (R := w1R 4 2) p3 (fun k _ hk => ⟨hk.1, fun e => by
    subst e
    obtain ⟨cs, ty, f, h1, h2, h3⟩ := hk.2
    rw [hx] at h1
    simp at h1
    exact h2 h1.2.1.symm, fun e => by
    subst e
    obtain ⟨cs, ty, f, h1, h2, h3⟩ := hk.2
    rw [hd] at h1
    simp at h1
    exact h3 h1.2.1.symm⟩)
  have lx := Nm.lt_of_some hx
  have ld := Nm.lt_of_some hd
  have CX := hide cx
  have CD := hide cdd
  have LX := hide (And.intro lx ld)
  have K3 : Hid (Below B w w3) := kept_below K2.out k3 S2.out (fun x hx => hx)
  have S3 : Hid (B ≤ w3.heap.size) := Nat.le_trans S2.out k3.size
  have V3 : Hid (Vars w3) := Vars.keptS V2.out k3 (by have := HB.out; have := HP0.out; omega)
  have hF3 : ∀ W : World, w3.heap.size ≤ W.heap.size → ∀ k, W.heap.size ≤ k → B ≤ k ∧ k ≠ x ∧ k ≠ d := fun W hW k hk => by have := S3.out; have := LX.out; omega
  have HF3 := hide hF3
  have HS3 := hide (step_F P3.out (HF3.out w3 (Nat.le_refl _)) V3.out (fun e => by have := e.1; have := HB.out; have := HP0.out; omega) 3 8 (by simp [w1R]))
  obtain ⟨b1, b2⟩ := w_st3
  rw [b1, b2, w_now.1] at HS3
  clear sp p3 k3 e1 hx hd lx ld cx cdd hF3 b1 b2
  go_wp2_with fail
  refine HS3.out.mono ?_
  rintro e w4 ⟨rfl, p4, k4⟩
  have P4 := hide p4
  have C4 : Hid (w4.cell? ⟨x, 0, none⟩ = some (.slice (some ⟨d, 0, none⟩) (pst 7).length cd) ∧ w4.cell? ⟨d, 1, none⟩ = some (.int .u8 ((pst 7).getD 1 0 : Nat))) := ⟨kept_cell k4 CX.out (fun e => e.2.1 rfl), kept_cell k4 CD.out (fun e => e.2.2 rfl)⟩
  have K4 : Hid (Below B w w4) := kept_below K3.out k4 S3.out (fun x hx => hx.1)
  have S4 : Hid (B ≤ w4.heap.size ∧ w3.heap.size ≤ w4.heap.size) := ⟨Nat.le_trans S3.out k4.size, k4.size⟩
  have V4 : Hid (Vars w4) := Vars.keptS V3.out k4 (fun e => by have := e.1; have := HB.out; have := HP0.out; omega)
  have HS4 := hide (step_F P4.out (HF3.out w4 S4.out.2) V4.out (fun e => by have := e.1; have := HB.out; have := HP0.out; omega) 4 8 (by simp [w1R]))
  obtain ⟨b1, b2⟩ := w_st4
  rw [b1, b2, w_now.2] at HS4
  clear p4 k4 b1 b2
  go_wp2_with fail
  refine HS4.out.mono ?_
  rintro e w5 ⟨rfl, p5, k5⟩
  have P5 := hide p5
  have C5 : Hid (w5.cell? ⟨x, 0, none⟩ = some (.slice (some ⟨d, 0, none⟩) (pst 7).length cd) ∧ w5.cell? ⟨d, 1, none⟩ = some (.int .u8 ((pst 7).getD 1 0 : Nat))) := ⟨kept_cell k5 C4.out.1 (fun e => e.2.1 rfl), kept_cell k5 C4.out.2 (fun e => e.2.2 rfl)⟩
  have K5 : Hid (Below B w w5) := kept_below K4.out k5 S4.out.1 (fun x hx => hx.1)
  have S5 : Hid (B ≤ w5.heap.size) := Nat.le_trans S4.out.1 k5.size
  have HPO2 := hide (posts_F P5.out)
  clear p5 k5
  go_wp2_with fail
  refine HPO2.out.mono ?_
  rintro e w6 ⟨qa, qc, rfl, sp, p6, k6⟩
  obtain ⟨e1, x2, rfl, hd1, hd2, d2, cd2, cx2, hcd3, hcd4, cdd2, _, _⟩ := SrcP.byte (l := pst 8) sp (by decide)
  have P6 := hide p6
  have C6 : Hid (w6.cell? ⟨x, 0, none⟩ = some (.slice (some ⟨d, 0, none⟩) (pst 7).length cd) ∧ w6.cell? ⟨d, 1, none⟩ = some (.int .u8 ((pst 7).getD 1 0 : Nat))) := ⟨kept_cell k6 C5.out.1 (fun e => e.2.1 rfl), kept_cell k6 C5.out.2 (fun e => e.2.2 rfl)⟩
  have D6 := hide (And.intro cx2 cdd2)
  have K6 : Hid (Below B w w6) := kept_below K5.out k6 S5.out (fun x hx => hx.1)
  have S6 : Hid (B ≤ w6.heap.size) := Nat.le_trans S5.out k6.size
  have HAS := hide (asked_F P6.out)
  clear sp p6 k6 e1 cx2 cdd2
  go_wp2_with fail
  refine HAS.out.mono ?_
  rintro e w7 ⟨rfl, hq, p7, k7⟩
  obtain ⟨y0, y1⟩ := hq.cells (i := 0) (by decide)
  have z0 := (k7.cell (p := ⟨x, 0, none⟩) (Nm.lt_of_cell C6.out.1)).trans C6.out.1
  have z1 := (k7.cell (p := ⟨d, 1, none⟩) (Nm.lt_of_cell C6.out.2)).trans C6.out.2
  have z2 := (k7.cell (p := ⟨x2, 0, none⟩) (Nm.lt_of_cell D6.out.1)).trans D6.out.1
  have z3 := (k7.cell (p := ⟨d2, 1, none⟩) (Nm.lt_of_cell D6.out.2)).trans D6.out.2
  rw [show (pst 7).length = 21 from rfl] at z0
  rw [show (pst 7).getD 1 0 = 7 from rfl] at z1
  rw [show (pst 8).length = 21 from rfl] at z2
  rw [show (pst 8).getD 1 0 = 8 from rfl] at z3
  rw [Nat.zero_mul] at y0
  rw [Nat.zero_mul, Nat.zero_add] at y1
  have y0' : w7.cell? ⟨w6.heap.size, 0, none⟩ = some (.int .i64 8) := y0
  have y1' : w7.cell? ⟨w6.heap.size, 1, none⟩ = some (.string ⟨#[97, 46, 98]⟩) := y1
  have hK7 : Below B w w7 := K6.out.trans (k7.mono S6.out)
  have K7 := hide hK7
  have hlen : (w2R 4 2).qs.length = 1 := rfl
  have hm1 : maxLen = 9223372036854775807 := rfl
  rw [hm1] at hc2 hcd2 hd2 hcd4
  clear y0 y1 hq p7 k7 hK7 hm1
  go_wp2_with fail
  go_ret
  exact ⟨rfl, K7.out⟩

end Go.Proofs.YtabkelhipmijfaaGreatDoor

set_option linter.unusedSimpArgs false
set_option linter.unusedVariables false
namespace Go.Proofs.YtabkelhipmijfaaGreatDoor
open Go.RowKit

theorem acts_here {w wr : World} {a : Option Addr} {len : Nat} {f : Nat → Ac} (h : 0 < len → ∃ b o, a = some ⟨b, o, none⟩ ∧ b < w.heap.size ∧ ∀ i, i < len → AcAt w b o i (f i)) (k : Below w.heap.size w wr) {i : Nat} (hi : i < len) : ∃ b o, a = some ⟨b, o, none⟩ ∧ AcAt wr b o i (f i) := by
  obtain ⟨b, o, e, hb, hx⟩ := h (by omega)
  exact ⟨b, o, e, (hx i hi).below k hb⟩
/-- Where the resolver may lie, and what was told. -/
structure FD (w wr : World) (F D : Nat → Prop) : Prop where
  new : ∀ k, wr.heap.size ≤ k → F k
  low : ∀ k, F k → w.heap.size ≤ k
  off : ∀ k, D k → ¬ F k ∧ w.heap.size ≤ k
theorem FD.up {w wr wr' : World} {F D : Nat → Prop} (h : FD w wr F D) (hs : wr.heap.size ≤ wr'.heap.size) : FD w wr' F D := ⟨fun k hk => h.new k (Nat.le_trans hs hk), h.low, h.off⟩
theorem IsTo.off {w wr wr' : World} {F D : Nat → Prop} {v : Value} {V : List Value} {T : List (List Ad)} (h : IsTo wr D v V T) (hd : FD w wr F D) (k : KeptS F wr wr') : IsTo wr' D v V T := h.keep (fun g hg => k.block g (h.lt g hg) (hd.off g hg).1) k.size
theorem PF.okA {F : Nat → Prop} {w : World} {r : Nat} {R : Rs} (h : PF F w r R) (now : Int) (t : ByteArray) : okA (askA R now t) := by
  obtain ⟨S, _, tt, g, qv, pv, V, h⟩ := h
  unfold askA
  split
  · intro a ha; cases ha
  · unfold Nm.getA
    cases hg : Nm.got R.tab now t with
    | none => intro a ha; cases ha
    | some s => exact (h.tab.ok _ _ (Nm.got_spec hg).2.1).byte
set_option maxRecDepth 100000 in
set_option maxHeartbeats 8000000 in
theorem true_walk (mo : Int) (a : Option Addr) (len cap : Nat) (f : Nat → Ac) (name : ByteArray) (w : World) (hA : IsActs w a len cap f) (hname : name.size ≤ maxLen) (hsmall : len ≤ 10000000) (hV : Vars w) : Calls Tryz.prog 4 #[.int .i64 mo, .slice a len cap, .string name] w fun e w' => e = .returned (.bool true) ∧ Below w.heap.size w w' := by
  obtain ⟨hlc, hcm, hI⟩ := hA
  have HA := hide hI
  obtain ⟨km, hkm, hm2⟩ := among_k mo 6 (by omega) (by omega)
  have HKM := hide hm2
  have HW := hide (works_at w hV)
  have HV := hide hV
  have HP0 : Hid (0 < w.heap.size) := vars_pos hV
  clear hI hm2 hV
  go_enter Tryz.func4, Tryz.ntmps4
  go_wp2_with fail
  refine HW.out.mono ?_
  rintro e w1 ⟨rfl, k1⟩
  have K1 := hide k1
  have HN := hide (new_F (F := fun k => w.heap.size ≤ k) 6 km w1 (fun k hk => by have := K1.out.size; omega) (by omega) (by omega) (by omega))
  clear k1
  go_wp2_with fail
  refine (HKM.out _).mono ?_
  rintro e w2 ⟨rfl, rfl⟩
  go_wp2_with fail
  refine HN.out.mono ?_
  rintro e w2 ⟨r, rfl, p2, k2⟩
  have K2 : Hid (Below w.heap.size w w2) := K1.out.trans (k2.mono K1.out.size)
  obtain ⟨w3, hw3⟩ : ∃ w3, w3 = w2.alloc (.cells #[] 31) := ⟨_, rfl⟩
  have k3 : Below w2.heap.size w2 w3 := by rw [hw3]; exact (Below.refl _ _).alloc (Nat.le_refl _) _
  have hs3 : w3.heap.size = w2.heap.size + 1 := by rw [hw3]; simp
  have K3 : Hid (Below w.heap.size w w3) := K2.out.trans (k3.mono K2.out.size)
  have IT0 : Hid (IsTo w3 (fun k => k = w2.heap.size) (.slice (some ⟨w2.heap.size, 0, none⟩) 0 0) [] []) := by rw [hw3]; exact IsTo.new w2
  have P3 : Hid (PF (fun k => w.heap.size ≤ k ∧ k ≠ w2.heap.size) w3 r (newR 6 km)) := (p2.mono (G := fun k => w.heap.size ≤ k ∧ k ≠ w2.heap.size) (fun k hk hf => ⟨hf, by omega⟩)).below k3
  have FD3 : Hid (FD w w3 (fun k => w.heap.size ≤ k ∧ k ≠ w2.heap.size) (fun k => k = w2.heap.size)) := ⟨fun k hk => by have := K2.out.size; omega, fun k hk => hk.1, fun k hk => by have := K2.out.size; omega⟩
  have F2 : Hid ((newR 6 km).Fit 6 km 0) := Rs.Fit.new _ _
  have HR0 : Hid (Heard name [] (newR 6 km).tab) := heard_new name [] 6
  have HW3 := hide hw3.symm
  clear p2 k2 K1 k3 hw3 hs3
  go_wp2_with fail
  rw [HW3.out]
  go_loopw [9, 10, 11] (fun vt u v wr => ∃ (i : Nat) (now : Int) (R : Rs) (F D : Nat → Prop) (V : List Value) (T : List (List Ad)), i ≤ len ∧ 0 ≤ now ∧ now ≤ 20 * i ∧ u = .int .i64 now ∧ v = .int .i64 i ∧ Hid (PF F wr r R) ∧ Hid (R.Fit 6 km i) ∧ Hid (Below w.heap.size w wr) ∧ Hid (IsTo wr D vt V T) ∧ Hid (FD w wr F D) ∧ Hid (Heard name T R.tab) ∧ T.length ≤ 64 * i) (fun _ _ v _ => len - (intOf v).toNat)
  case atStart => exact ⟨0, 0, _, _, _, [], [], Nat.zero_le _, by omega, by omega, rfl, rfl, P3, F2, K3, IT0, FD3, HR0, by simp⟩
  case round =>
    clear P3 F2 K3 IT0 FD3 HR0 HW3
    obtain ⟨i, now, R, F, D, V, T, hi, hn0, hn1, rfl, rfl, HPF, HFT, HB, HIT, HFD, HHR, hTl⟩ := hrel
    obtain ⟨ta, tc, htv⟩ := HIT.out.shape
    subst htv
    by_cases hil : i < len
    · have hd : decide ((i : Int) < (len : Int)) = true := decide_eq_true (by omega)
      obtain ⟨b, o, rfl, hX⟩ := acts_here HA.out HB.out hil
      obtain ⟨x, hxx⟩ : ∃ x, x = f i := ⟨_, rfl⟩
      rw [← hxx] at hX
      have HX := hide hX.inn
      obtain ⟨xk, xb, xd, xn, xname, ba, bn, bc, bs, xa, xan, xc, ads, xt⟩ := x
      have e0 := hX.cell 0 _ rfl
      have e1 := hX.cell 1 _ rfl
      have e2 := hX.cell 2 _ rfl
      have e3 := hX.cell 3 _ rfl
      have e4 := hX.cell 4 _ rfl
      have e5 := hX.cell 5 _ rfl
      have e6 := hX.cell 6 _ rfl
      have e7 := hX.cell 7 _ rfl
      rw [Nat.add_zero] at e0
      simp only at e0 e1 e2 e3 e4 e5 e6 e7
      obtain ⟨kb, hkb, hb2⟩ := among_k xb 20 (by omega) (by omega)
      obtain ⟨kk, hkk, hk2⟩ := among_k xk 6 (by omega) (by omega)
      have HKB := hide hb2
      have HKK := hide hk2
      have HD0 := hide hd
      clear hxx hX hb2 hk2 hd
      have hbx : Below wr.heap.size wr (wr.alloc (.cells #[.int .i64 xk, .int .i64 xb, .int .i64 xd, .int .i64 xn, .string xname, .slice ba bn bc, .slice xa xan xc, .int .i64 xt] 33)) := (Below.refl _ _).alloc (Nat.le_refl _) _
      obtain ⟨wb, hwb⟩ : ∃ wb, wb = wr.alloc (.cells #[.int .i64 xk, .int .i64 xb, .int .i64 xd, .int .i64 xn, .string xname, .slice ba bn bc, .slice xa xan xc, .int .i64 xt] 33) := ⟨_, rfl⟩
      rw [← hwb] at hbx
      have hrow : wb.heap[wr.heap.size]? = some (.cells #[.int .i64 xk, .int .i64 xb, .int .i64 xd, .int .i64 xn, .string xname, .slice ba bn bc, .slice xa xan xc, .int .i64 xt] 33) := by rw [hwb]; exact alloc_new _ _
      have HRB := hide hrow
      have hws : wb.heap.size = wr.heap.size + 1 := by rw [hwb]; simp
      obtain ⟨G, hG⟩ : ∃ G : Nat → Prop, G = fun k => F k ∧ k ≠ wr.heap.size := ⟨_, rfl⟩
      have PB : Hid (PF G wb r R) := (HPF.out.mono (G := G) (fun k hk hf => by subst hG; exact ⟨hf, by omega⟩)).below hbx
      have KB : Hid (Below w.heap.size w wb) := HB.out.trans (hbx.mono HB.out.size)
      have VB := hide (HV.out.below KB.out)
      have XB := hide (HX.out.below hbx)
      have ITB := hide (HIT.out.below hbx)
      have FDB : Hid (FD w wb G D) := by
        subst hG
        exact ⟨fun k hk => ⟨HFD.out.new k (by omega), by omega⟩, fun k hk => HFD.out.low k hk.1, fun k hk => ⟨fun q => (HFD.out.off k hk).1 q.1, (HFD.out.off k hk).2⟩⟩
      have NSB0 : ¬ G wr.heap.size := by subst hG; exact fun q => q.2 rfl
      have HWB := hide hwb.symm
      have hps : R.ps.length ≤ 4000000000000 := by have := HFT.out.ps; omega
      have HF := hide FDB.out.new
      have H0 := hide (show ¬ (G 0) from fun q => by have := FDB.out.low 0 q; have := HP0.out; omega)
      obtain ⟨sb, hsb⟩ : ∃ sb, sb = wr.heap.size := ⟨_, rfl⟩
      rw [← hsb] at HRB
      rw [← hsb] at NSB0 hws
      have NSB := hide NSB0
      have HSL : Hid (sb < wb.heap.size) := by show _ < _; omega
      have HSB := hide hsb.symm
      have hnm : xname.size ≤ maxLen := by have := XB.out.nm; simp only at this; unfold maxLen; omega
      clear hbx hrow hwb hsb HX HPF HB HIT HFD hG NSB0 hws
      go_wp2_with fail
      refine (HKB.out _).mono ?_
      rintro e w3 ⟨rfl, rfl⟩
      rw [HWB.out, HSB.out]
      have hwn : IntKind.i64.wrap (now + (kb : Int)) = now + (kb : Int) := by rw [IntKind.wrap_i64]; omega
      have r0 : wb.cell? ⟨sb, 0, none⟩ = some (.int .i64 xk) := by simp [World.cell?, HRB.out]
      have r2 : wb.cell? ⟨sb, 2, none⟩ = some (.int .i64 xd) := by simp [World.cell?, HRB.out]
      have r4 : wb.cell? ⟨sb, 4, none⟩ = some (.string xname) := by simp [World.cell?, HRB.out]
      clear e0 e1 e2 e3 e4 e5 e6 e7
      go_wp2_with fail
      refine (HKK.out _).mono ?_
      rintro e w3 ⟨rfl, rfl⟩
      obtain ⟨nw, hnw⟩ : ∃ nw, nw = now + (kb : Int) := ⟨_, rfl⟩
      rw [← hnw]
      rw [← hnw] at hwn
      have hnw0 : 0 ≤ nw := by omega
      have hnw1 : nw ≤ 20 * ((i + 1 : Nat) : Int) := by omega
      clear hnw
      rcases (by omega : kk = 0 ∨ kk = 1 ∨ kk = 2 ∨ kk = 3 ∨ kk = 4 ∨ kk = 5) with rfl | rfl | rfl | rfl | rfl | rfl
      · as_aux_lemma =>
        have HAK := hide (ask_F PB.out HF.out VB.out H0.out nw xd xname hnm hps)
        have HOKA := hide (PB.out.okA nw xname)
        have FT4 := hide ((HFT.out.ask nw xd xname).psmono (j := i + 1) (by omega))
        have HR4 : Hid (Heard name T (askR R nw xd xname).tab) := by show Heard name T _; rw [askR_tab]; exact HHR.out
        have HIN : Hid (xname = name → askA R nw xname ≠ [] → askA R nw xname ∈ T) := fun e h0 => by subst e; exact HHR.out.ask nw h0
        obtain ⟨LA, hLA⟩ : ∃ LA, LA = askA R nw xname := ⟨_, rfl⟩
        rw [← hLA] at HAK HOKA HIN
        generalize askE nw xname = E at HAK
        generalize askK R nw xname = K at HAK
        generalize askR R nw xd xname = R4 at HAK FT4 HR4
        clear hLA
        go_wp2_with fail
        refine HAK.out.mono ?_
        rintro e w4 ⟨v, rfl, ho, p4, k4⟩
        obtain ⟨va, vc, rfl, hsa, _⟩ := (show OwnA w4 wb.heap.size v LA from ho).src HOKA.out
        have P4 := hide p4
        have K4 : Hid (Below w.heap.size w w4) := kept_below KB.out k4 KB.out.size FDB.out.low
        have IT4 := hide (ITB.out.off FDB.out k4)
        have FD4 := hide (FDB.out.up k4.size)
        have SA4 := hide hsa
        have hT4 : T.length ≤ 64 * (i + 1) := by omega
        have r4b : w4.cell? ⟨sb, 4, none⟩ = some (.string xname) := by simp [World.cell?, k4.block sb HSL.out NSB.out, HRB.out]
        obtain ⟨n4, hn4⟩ : ∃ n, n = LA.length := ⟨_, rfl⟩
        rw [← hn4] at SA4 ⊢
        have HN4 := hide hn4
        clear ho p4 k4 hsa HAK PB KB VB XB HWB HF r0 r2 r4 HRB HSB hn4 ITB FDB
        by_cases hhit : (E = 0 ∧ xname = name) ∧ (K = 1 ∧ 0 < n4)
        case neg =>
          have key : ((E == 0) = false) ∨ ((E == 0) = true ∧ (xname.toList == name.toList) = false) ∨ ((E == 0) = true ∧ (xname.toList == name.toList) = true ∧ (K == 1) = false) ∨ ((E == 0) = true ∧ (xname.toList == name.toList) = true ∧ (K == 1) = true ∧ n4 = 0) := by
            by_cases q1 : E = 0
            · by_cases q2 : xname = name
              · by_cases q3 : K = 1
                · exact Or.inr (Or.inr (Or.inr ⟨by simp [q1], by simp [q2], by simp [q3], by have : ¬ 0 < n4 := fun h => hhit ⟨⟨q1, q2⟩, q3, h⟩; omega⟩))
                · exact Or.inr (Or.inr (Or.inl ⟨by simp [q1], by simp [q2], by simp [q3]⟩))
              · exact Or.inr (Or.inl ⟨by simp [q1], by rw [eq_ba]; exact decide_eq_false q2⟩)
            · exact Or.inl (by simp [q1])
          have P9 := P4
          have FT9 := FT4
          have K9 := K4
          have IT9 := IT4
          have FD9 := FD4
          have HR9 := HR4
          have hT9 := hT4
          clear hhit P4 FT4 K4 IT4 FD4 HR4 hT4
          rcases key with q1 | ⟨q1, q2⟩ | ⟨q1, q2, q3⟩ | ⟨q1, q2, q3, q4⟩
          · go_wp2_with fail
            go_roundw
            case rel => exact ⟨i + 1, nw, _, _, _, _, _, by omega, hnw0, hnw1, by first | trivial | rfl, by go_num, P9, FT9, K9, IT9, FD9, HR9, hT9⟩
            case measure => simp [intOf]; omega
          · go_wp2_with fail
            go_roundw
            case rel => exact ⟨i + 1, nw, _, _, _, _, _, by omega, hnw0, hnw1, by first | trivial | rfl, by go_num, P9, FT9, K9, IT9, FD9, HR9, hT9⟩
            case measure => simp [intOf]; omega
          · go_wp2_with fail
            go_roundw
            case rel => exact ⟨i + 1, nw, _, _, _, _, _, by omega, hnw0, hnw1, by first | trivial | rfl, by go_num, P9, FT9, K9, IT9, FD9, HR9, hT9⟩
            case measure => simp [intOf]; omega
          · have q5 : decide ((n4 : Int) > 0) = false := decide_eq_false (by omega)
            have q5' : decide ((0 : Int) < (n4 : Int)) = false := decide_eq_false (by omega)
            go_wp2_with fail
            go_roundw
            case rel => exact ⟨i + 1, nw, _, _, _, _, _, by omega, hnw0, hnw1, by first | trivial | rfl, by go_num, P9, FT9, K9, IT9, FD9, HR9, hT9⟩
            case measure => simp [intOf]; omega
        case pos =>
          obtain ⟨⟨rfl, rfl⟩, rfl, hn40⟩ := hhit
          have q5 : decide ((n4 : Int) > 0) = true := decide_eq_true (by omega)
          have q5' : decide ((0 : Int) < (n4 : Int)) = true := decide_eq_true (by omega)
          have HMEM : Hid (LA ∈ T) := HIN.out rfl (fun e => by have := HN4.out; rw [e] at this; simp at this; omega)
          have hc4 := SA4.out.hcap
          have hm4 := SA4.out.hmax
          unfold maxLen at hm4
          go_wp2_with fail
          obtain ⟨m, hm, hmL⟩ : ∃ m, m < T.length ∧ T.getD m [] = LA := by
            obtain ⟨m, hm, e⟩ := List.getElem_of_mem HMEM.out
            exact ⟨m, hm, by simp [hm, e]⟩
          have HML := hide hmL
          obtain ⟨tl, htl⟩ : ∃ n, n = T.length := ⟨_, rfl⟩
          have HTL := hide htl
          rw [← htl] at hm
          have hT5 : tl ≤ 64 * (i + 1) := by omega
          clear htl hmL
          try rw [← HTL.out]
          go_loopw [16, 17] (fun u v ww => ∃ (t : Bool) (j : Nat), j ≤ tl ∧ u = .bool t ∧ v = .int .i64 j ∧ (m < j → t = true) ∧ Hid (Below w4.heap.size w4 ww)) (fun _ v _ => tl - (intOf v).toNat)
          case atStart => exact ⟨false, 0, Nat.zero_le _, rfl, rfl, fun h => by omega, Below.refl _ _⟩
          case round =>
            obtain ⟨t, j, hj, rfl, rfl, hmt, HBJ⟩ := hrel
            by_cases hjl : j < tl
            · have hdj : decide ((j : Int) < (tl : Int)) = true := decide_eq_true (by omega)
              cases t
              · have hmj : ¬ m < j := fun h => by cases hmt h
                obtain ⟨g5, c5, a5, ac5, e5, x1, x2, x3, x4⟩ := (IT4.out.below HBJ.out).at_ (i := j) (by have := HTL.out; omega)
                have hr5 := HBJ.out
                obtain ⟨lj, hlj⟩ : ∃ lj, lj = T.getD j [] := ⟨_, rfl⟩
                rw [← hlj] at x3 x4
                have hjl5 : m = j → lj = LA := fun e => by rw [hlj, ← e]; exact HML.out
                obtain ⟨nj, hnj⟩ : ∃ n, n = lj.length := ⟨_, rfl⟩
                rw [← hnj] at x3 x4
                simp only [Value.slice.injEq] at e5
                obtain ⟨rfl, _, rfl⟩ := e5
                have HSA := hide (same_addrs_any wr a5 va nj ac5 n4 vc lj LA x4 (SA4.out.below HBJ.out))
                have HJ5 := hide hjl5
                clear x4 hlj hjl5 hnj hr5
                go_wp2_with fail
                refine HSA.out.mono ?_
                rintro e w5 ⟨⟨q, rfl, hq⟩, k5⟩
                have HQ5 := hide hq
                have HB5 : Hid (Below w4.heap.size w4 w5) := HBJ.out.trans (k5.mono HBJ.out.size)
                clear hq k5 HSA
                go_wp2_with fail
                go_roundw
                case rel => exact ⟨q, j + 1, by omega, by first | trivial | rfl, by go_num, fun h => HQ5.out (HJ5.out (by omega)), HB5.out⟩
                case measure => simp [intOf]; omega
              · go_wp2_with fail
                go_roundw
                case rel => exact ⟨true, j + 1, by omega, by first | trivial | rfl, by go_num, fun _ => rfl, HBJ.out⟩
                case measure => simp [intOf]; omega
            · have hdj : decide ((j : Int) < (tl : Int)) = false := decide_eq_false (by omega)
              have ht := hmt (by omega)
              subst ht
              have P9 := hide (P4.out.below HBJ.out)
              have FT9 := FT4
              have K9 : Hid (Below w.heap.size w wr) := K4.out.trans (HBJ.out.mono K4.out.size)
              have IT9 : Hid (IsTo wr D (.slice ta tl tc) V T) := by rw [HTL.out]; exact IT4.out.below HBJ.out
              have FD9 := hide (FD4.out.up HBJ.out.size)
              have HR9 := HR4
              have hT9 := hT4
              go_wp2_with fail
              go_roundw
              case rel => exact ⟨i + 1, nw, _, _, _, _, _, by omega, hnw0, hnw1, by first | trivial | rfl, by go_num, P9, FT9, K9, IT9, FD9, HR9, hT9⟩
              case measure => simp [intOf]; omega
      · as_aux_lemma =>
        have HAK := hide (ask_F PB.out HF.out VB.out H0.out nw xd xname hnm hps)
        have HOKA := hide (PB.out.okA nw xname)
        have FT4 := hide ((HFT.out.ask nw xd xname).psmono (j := i + 1) (by omega))
        have HR4 : Hid (Heard name T (askR R nw xd xname).tab) := by show Heard name T _; rw [askR_tab]; exact HHR.out
        have HIN : Hid (xname = name → askA R nw xname ≠ [] → askA R nw xname ∈ T) := fun e h0 => by subst e; exact HHR.out.ask nw h0
        obtain ⟨LA, hLA⟩ : ∃ LA, LA = askA R nw xname := ⟨_, rfl⟩
        rw [← hLA] at HAK HOKA HIN
        generalize askE nw xname = E at HAK
        generalize askK R nw xname = K at HAK
        generalize askR R nw xd xname = R4 at HAK FT4 HR4
        clear hLA
        go_wp2_with fail
        refine HAK.out.mono ?_
        rintro e w4 ⟨v, rfl, ho, p4, k4⟩
        obtain ⟨va, vc, rfl, hsa, _⟩ := (show OwnA w4 wb.heap.size v LA from ho).src HOKA.out
        have P4 := hide p4
        have K4 : Hid (Below w.heap.size w w4) := kept_below KB.out k4 KB.out.size FDB.out.low
        have IT4 := hide (ITB.out.off FDB.out k4)
        have FD4 := hide (FDB.out.up k4.size)
        have SA4 := hide hsa
        have hT4 : T.length ≤ 64 * (i + 1) := by omega
        have r4b : w4.cell? ⟨sb, 4, none⟩ = some (.string xname) := by simp [World.cell?, k4.block sb HSL.out NSB.out, HRB.out]
        obtain ⟨n4, hn4⟩ : ∃ n, n = LA.length := ⟨_, rfl⟩
        rw [← hn4] at SA4 ⊢
        have HN4 := hide hn4
        clear ho p4 k4 hsa HAK PB KB VB XB HWB HF r0 r2 r4 HRB HSB hn4 ITB FDB
        by_cases hhit : (E = 0 ∧ xname = name) ∧ (K = 1 ∧ 0 < n4)
        case neg =>
          have key : ((E == 0) = false) ∨ ((E == 0) = true ∧ (xname.toList == name.toList) = false) ∨ ((E == 0) = true ∧ (xname.toList == name.toList) = true ∧ (K == 1) = false) ∨ ((E == 0) = true ∧ (xname.toList == name.toList) = true ∧ (K == 1) = true ∧ n4 = 0) := by
            by_cases q1 : E = 0
            · by_cases q2 : xname = name
              · by_cases q3 : K = 1
                · exact Or.inr (Or.inr (Or.inr ⟨by simp [q1], by simp [q2], by simp [q3], by have : ¬ 0 < n4 := fun h => hhit ⟨⟨q1, q2⟩, q3, h⟩; omega⟩))
                · exact Or.inr (Or.inr (Or.inl ⟨by simp [q1], by simp [q2], by simp [q3]⟩))
              · exact Or.inr (Or.inl ⟨by simp [q1], by rw [eq_ba]; exact decide_eq_false q2⟩)
            · exact Or.inl (by simp [q1])
          have P9 := P4
          have FT9 := FT4
          have K9 := K4
          have IT9 := IT4
          have FD9 := FD4
          have HR9 := HR4
          have hT9 := hT4
          clear hhit P4 FT4 K4 IT4 FD4 HR4 hT4
          rcases key with q1 | ⟨q1, q2⟩ | ⟨q1, q2, q3⟩ | ⟨q1, q2, q3, q4⟩
          · go_wp2_with fail
            go_roundw
            case rel => exact ⟨i + 1, nw, _, _, _, _, _, by omega, hnw0, hnw1, by first | trivial | rfl, by go_num, P9, FT9, K9, IT9, FD9, HR9, hT9⟩
            case measure => simp [intOf]; omega
          · go_wp2_with fail
            go_roundw
            case rel => exact ⟨i + 1, nw, _, _, _, _, _, by omega, hnw0, hnw1, by first | trivial | rfl, by go_num, P9, FT9, K9, IT9, FD9, HR9, hT9⟩
            case measure => simp [intOf]; omega
          · go_wp2_with fail
            go_roundw
            case rel => exact ⟨i + 1, nw, _, _, _, _, _, by omega, hnw0, hnw1, by first | trivial | rfl, by go_num, P9, FT9, K9, IT9, FD9, HR9, hT9⟩
            case measure => simp [intOf]; omega
          · have q5 : decide ((n4 : Int) > 0) = false := decide_eq_false (by omega)
            have q5' : decide ((0 : Int) < (n4 : Int)) = false := decide_eq_false (by omega)
            go_wp2_with fail
            go_roundw
            case rel => exact ⟨i + 1, nw, _, _, _, _, _, by omega, hnw0, hnw1, by first | trivial | rfl, by go_num, P9, FT9, K9, IT9, FD9, HR9, hT9⟩
            case measure => simp [intOf]; omega
        case pos =>
          obtain ⟨⟨rfl, rfl⟩, rfl, hn40⟩ := hhit
          have q5 : decide ((n4 : Int) > 0) = true := decide_eq_true (by omega)
          have q5' : decide ((0 : Int) < (n4 : Int)) = true := decide_eq_true (by omega)
          have HMEM : Hid (LA ∈ T) := HIN.out rfl (fun e => by have := HN4.out; rw [e] at this; simp at this; omega)
          have hc4 := SA4.out.hcap
          have hm4 := SA4.out.hmax
          unfold maxLen at hm4
          go_wp2_with fail
          obtain ⟨m, hm, hmL⟩ : ∃ m, m < T.length ∧ T.getD m [] = LA := by
            obtain ⟨m, hm, e⟩ := List.getElem_of_mem HMEM.out
            exact ⟨m, hm, by simp [hm, e]⟩
          have HML := hide hmL
          obtain ⟨tl, htl⟩ : ∃ n, n = T.length := ⟨_, rfl⟩
          have HTL := hide htl
          rw [← htl] at hm
          have hT5 : tl ≤ 64 * (i + 1) := by omega
          clear htl hmL
          try rw [← HTL.out]
          go_loopw [16, 17] (fun u v ww => ∃ (t : Bool) (j : Nat), j ≤ tl ∧ u = .bool t ∧ v = .int .i64 j ∧ (m < j → t = true) ∧ Hid (Below w4.heap.size w4 ww)) (fun _ v _ => tl - (intOf v).toNat)
          case atStart => exact ⟨false, 0, Nat.zero_le _, rfl, rfl, fun h => by omega, Below.refl _ _⟩
          case round =>
            obtain ⟨t, j, hj, rfl, rfl, hmt, HBJ⟩ := hrel
            by_cases hjl : j < tl
            · have hdj : decide ((j : Int) < (tl : Int)) = true := decide_eq_true (by omega)
              cases t
              · have hmj : ¬ m < j := fun h => by cases hmt h
                obtain ⟨g5, c5, a5, ac5, e5, x1, x2, x3, x4⟩ := (IT4.out.below HBJ.out).at_ (i := j) (by have := HTL.out; omega)
                have hr5 := HBJ.out
                obtain ⟨lj, hlj⟩ : ∃ lj, lj = T.getD j [] := ⟨_, rfl⟩
                rw [← hlj] at x3 x4
                have hjl5 : m = j → lj = LA := fun e => by rw [hlj, ← e]; exact HML.out
                obtain ⟨nj, hnj⟩ : ∃ n, n = lj.length := ⟨_, rfl⟩
                rw [← hnj] at x3 x4
                simp only [Value.slice.injEq] at e5
                obtain ⟨rfl, _, rfl⟩ := e5
                have HSA := hide (same_addrs_any wr a5 va nj ac5 n4 vc lj LA x4 (SA4.out.below HBJ.out))
                have HJ5 := hide hjl5
                clear x4 hlj hjl5 hnj hr5
                go_wp2_with fail
                refine HSA.out.mono ?_
                rintro e w5 ⟨⟨q, rfl, hq⟩, k5⟩
                have HQ5 := hide hq
                have HB5 : Hid (Below w4.heap.size w4 w5) := HBJ.out.trans (k5.mono HBJ.out.size)
                clear hq k5 HSA
                go_wp2_with fail
                go_roundw
                case rel => exact ⟨q, j + 1, by omega, by first | trivial | rfl, by go_num, fun h => HQ5.out (HJ5.out (by omega)), HB5.out⟩
                case measure => simp [intOf]; omega
              · go_wp2_with fail
                go_roundw
                case rel => exact ⟨true, j + 1, by omega, by first | trivial | rfl, by go_num, fun _ => rfl, HBJ.out⟩
                case measure => simp [intOf]; omega
            · have hdj : decide ((j : Int) < (tl : Int)) = false := decide_eq_false (by omega)
              have ht := hmt (by omega)
              subst ht
              have P9 := hide (P4.out.below HBJ.out)
              have FT9 := FT4
              have K9 : Hid (Below w.heap.size w wr) := K4.out.trans (HBJ.out.mono K4.out.size)
              have IT9 : Hid (IsTo wr D (.slice ta tl tc) V T) := by rw [HTL.out]; exact IT4.out.below HBJ.out
              have FD9 := hide (FD4.out.up HBJ.out.size)
              have HR9 := HR4
              have hT9 := hT4
              go_wp2_with fail
              go_roundw
              case rel => exact ⟨i + 1, nw, _, _, _, _, _, by omega, hnw0, hnw1, by first | trivial | rfl, by go_num, P9, FT9, K9, IT9, FD9, HR9, hT9⟩
              case measure => simp [intOf]; omega
      · as_aux_lemma =>
        have HST := hide (step_F PB.out HF.out VB.out H0.out nw xd hps)
        go_wp2_with fail
        refine HST.out.mono ?_
        rintro e w4 ⟨rfl, p4, k4⟩
        have P9 := hide p4
        have K9 : Hid (Below w.heap.size w w4) := kept_below KB.out k4 KB.out.size FDB.out.low
        have IT9 := hide (ITB.out.off FDB.out k4)
        have FD9 := hide (FDB.out.up k4.size)
        have FT9 := hide ((HFT.out.step nw xd).psmono (j := i + 1) (by omega))
        have HR9 := hide (HHR.out.step nw xd)
        have hT9 : T.length ≤ 64 * (i + 1) := by omega
        clear p4 k4
        go_wp2_with fail
        go_roundw
        case rel => exact ⟨i + 1, nw, _, _, _, _, _, by omega, hnw0, hnw1, by first | trivial | rfl, by go_num, P9, FT9, K9, IT9, FD9, HR9, hT9⟩
        case measure => simp [intOf]; omega
      · as_aux_lemma =>
        have HAS := hide (asked_F PB.out)
        have hfew : R.qs.length ≤ 64 := by have h1 := PB.out.ok.few; have h2 := PB.out.ok.most; omega
        have hqok := hide PB.out.ok.q
        obtain ⟨qb, hqb⟩ : ∃ qb, qb = wb.heap.size := ⟨_, rfl⟩
        obtain ⟨nq, hnq⟩ : ∃ nq, nq = R.qs.length := ⟨_, rfl⟩
        rw [← hqb, ← hnq] at HAS
        clear r0 r2 r4
        go_wp2_with fail
        refine HAS.out.mono ?_
        rintro e w4 ⟨rfl, hq, p4, k4⟩
        have K4 : Hid (Below w.heap.size w w4) := KB.out.trans ((hqb ▸ k4).mono KB.out.size)
        have k4' : Below wb.heap.size wb w4 := hqb ▸ k4
        have HR4 : Hid (w4.heap[sb]? = some (.cells #[.int .i64 xk, .int .i64 xb, .int .i64 xd, .int .i64 xn, .string xname, .slice ba bn bc, .slice xa xan xc, .int .i64 xt] 33)) := (k4'.block sb HSL.out).trans HRB.out
        have s0 : w4.cell? ⟨sb, 0, none⟩ = some (.int .i64 xk) := by simp [World.cell?, HR4.out]
        have s1 : w4.cell? ⟨sb, 1, none⟩ = some (.int .i64 xb) := by simp [World.cell?, HR4.out]
        have s2 : w4.cell? ⟨sb, 2, none⟩ = some (.int .i64 xd) := by simp [World.cell?, HR4.out]
        have s3 : w4.cell? ⟨sb, 3, none⟩ = some (.int .i64 xn) := by simp [World.cell?, HR4.out]
        have s4 : w4.cell? ⟨sb, 4, none⟩ = some (.string xname) := by simp [World.cell?, HR4.out]
        have s5 : w4.cell? ⟨sb, 5, none⟩ = some (.slice ba bn bc) := by simp [World.cell?, HR4.out]
        have s6 : w4.cell? ⟨sb, 6, none⟩ = some (.slice xa xan xc) := by simp [World.cell?, HR4.out]
        have s7 : w4.cell? ⟨sb, 7, none⟩ = some (.int .i64 xt) := by simp [World.cell?, HR4.out]
        have HLA := hide (lanswer_o ⟨xk, xb, xd, xn, xname, ba, bn, bc, bs, xa, xan, xc, ads, xt⟩ qb R.qs w4 (XB.out.below k4') (HV.out.below K4.out) hq hfew hqok.out)
        rw [← hnq] at HLA
        have HQ4 := hide hq
        have HK4 := hide k4'
        have HQB := hide hqb
        have HNQ := hide hnq
        clear p4 k4 k4' hq HAS hqb hnq
        go_wp2_with fail
        refine HLA.out.mono ?_
        rintro e w5 ⟨ya, yc, bl, rfl, hst, htl, hby, hbk, k5⟩
        obtain ⟨G2, hG2⟩ : ∃ G2 : Nat → Prop, G2 = fun k => G k ∧ ¬ (wb.heap.size ≤ k ∧ k < w5.heap.size) := ⟨_, rfl⟩
        have k45 : Below wb.heap.size wb w5 := HK4.out.trans (k5.mono HK4.out.size)
        have K5 : Hid (Below w.heap.size w w5) := K4.out.trans (k5.mono K4.out.size)
        have P5 : Hid (PF G2 w5 r R) := (PB.out.mono (G := G2) (fun k hk hf => by subst hG2; exact ⟨hf, by omega⟩)).below k45
        have IT5 := hide (ITB.out.below k45)
        have FD5 : Hid (FD w w5 G2 D) := by
          subst hG2
          exact ⟨fun k hk => ⟨FDB.out.new k (by have := k45.size; omega), by omega⟩, fun k hk => FDB.out.low k hk.1, fun k hk => ⟨fun q => (FDB.out.off k hk).1 q.1, (FDB.out.off k hk).2⟩⟩
        have NQ : Hid (¬ G2 qb) := by
          subst hG2
          exact fun q => q.2 ⟨by rw [HQB.out]; omega, by obtain ⟨cs, h1, _⟩ := HQ4.out.row; have := Nm.lt_of_some h1; have := k5.size; omega⟩
        have HQ5 := hide (HQ4.out.below k5)
        have HTK := hide (take_F P5.out FD5.out.new (HV.out.below K5.out) nw ya bl.length yc bl hst htl)
        have HST := hide hst
        have HTLL := hide htl
        have HBY := hide hby
        have NB : Hid (∀ b o, 0 < bl.length → ya = some ⟨b, o, none⟩ → ¬ G2 b) := by
          subst hG2
          exact fun b o h0 e q => q.2 ⟨by have := hbk b o e; have := HK4.out.size; omega, hst.lt h0 e⟩
        have NBT : Hid (∀ b o, 0 < bl.length → ya = some ⟨b, o, none⟩ → ¬ D b) := fun b o h0 e q => by
          have h1 := IT5.out.lt b q
          have h2 := hbk b o e
          have h3 := ITB.out.lt b q
          have h4 := HK4.out.size
          omega
        have NQD : Hid (¬ D qb) := fun q => by
          have h3 := ITB.out.lt qb q
          have h4 := HQB.out
          omega
        clear hst htl hby hbk k5 k45 hG2
        go_wp2_with fail
        refine HTK.out.mono ?_
        rintro e w6 ⟨rfl, p6, k6⟩
        have P6 := hide p6
        have K6 : Hid (Below w.heap.size w w6) := kept_below K5.out k6 K5.out.size FD5.out.low
        have IT6 := hide (IT5.out.off FD5.out k6)
        have FD6 := hide (FD5.out.up k6.size)
        have ST6 : Hid (Src w6 ya bl.length yc bl) := HST.out.keep (fun h0 b o e => k6.block b (HST.out.lt h0 e) (NB.out b o h0 e)) k6.size
        have QY6 : Hid (QyAt w6 qb R.qs) := by
          obtain ⟨cs, h1, h2⟩ := HQ5.out.row
          exact ⟨cs, (k6.block qb (Nm.lt_of_some h1) NQ.out).trans h1, h2⟩
        have FT6 := hide ((HFT.out.take nw bl).psmono (j := i + 1) (by omega))
        have HR6 := hide (HHR.out.take nw bl)
        have htk : takT R nw bl = R.qs.any (okQ bl) := took_any ⟨hnw0, by omega⟩ bl
        rw [htk]
        clear htk
        generalize takR R nw bl = R6 at P6 FT6 HR6
        clear p6 k6 HTK P5 K5 IT5 FD5 NQ HQ5 HST NB HK4 HQ4 HLA HR4 s0 s1 s2 s3 s4 s5 s6 s7 K4 PB KB VB XB HWB HF HRB HSB ITB FDB
        have hlen6 : T.length + 0 ≤ 64 * i := by omega
        go_wp2_with fail
        go_loopw [9, 22, 23] (fun vt u v ww => ∃ (j : Nat) (D' : Nat → Prop) (V' : List Value) (T' : List (List Ad)), j ≤ nq ∧ u = .bool ((R.qs.take j).any (okQ bl)) ∧ v = .int .i64 j ∧ Hid (IsTo ww D' vt V' T') ∧ Hid (T' = T ++ tells name bl (R.qs.take j)) ∧ T'.length ≤ T.length + j ∧ Hid (∀ k, D' k → D k ∨ w6.heap.size ≤ k) ∧ Hid (KeptS D w6 ww)) (fun _ _ v _ => nq - (intOf v).toNat)
        case atStart => exact ⟨0, D, V, T, Nat.zero_le _, by simp, rfl, IT6.out, by show _ = _; simp [tells], by omega, fun k hk => Or.inl hk, KeptS.refl D w6⟩
        case round =>
          obtain ⟨j, D', V', T', hj, rfl, rfl, HIJ, HTJ, hTj, HDJ, HKJ⟩ := hrel
          obtain ⟨ua, uc, huv⟩ := HIJ.out.shape
          subst huv
          by_cases hjl : j < nq
          · have hdj : decide ((j : Int) < (nq : Int)) = true := decide_eq_true (by omega)
            have hnq64 : nq ≤ 64 := by have := HNQ.out; omega
            have STJ : Hid (Src wr ya bl.length yc bl) := ST6.out.keep (fun h0 b o e => HKJ.out.block b (ST6.out.lt h0 e) (NBT.out b o h0 e)) HKJ.out.size
            have QYJ : Hid (QyAt wr qb R.qs) := by
              obtain ⟨cs, h1, h2⟩ := QY6.out.row
              exact ⟨cs, (HKJ.out.block qb (Nm.lt_of_some h1) NQD.out).trans h1, h2⟩
            obtain ⟨j0, j1⟩ := QYJ.out.cells (i := j) (by have := HNQ.out; omega)
            have htake : R.qs.take (j + 1) = R.qs.take j ++ [qAt R.qs j] := by
              have hlt : j < R.qs.length := by have := HNQ.out; omega
              rw [List.take_add_one]; simp [qAt, hlt]
            have HTKE := hide htake
            clear htake
            have KJ : Hid (Below w.heap.size w wr) := kept_below K6.out HKJ.out K6.out.size (fun k hk => (FD6.out.off k hk).2)
            obtain ⟨q, hq⟩ : ∃ q, q = qAt R.qs j := ⟨_, rfl⟩
            rw [← hq] at j0 j1 HTKE
            obtain ⟨qi, hqi⟩ : ∃ x, x = q.id := ⟨_, rfl⟩
            obtain ⟨qn, hqn⟩ : ∃ x, x = q.nm := ⟨_, rfl⟩
            rw [← hqi] at j0
            rw [← hqn] at j1
            have HMA := hide (match_at qi qn ya bl.length yc bl wr STJ.out (HV.out.below KJ.out) HTLL.out)
            obtain ⟨A, hA⟩ : ∃ A, A = mat qi (byt qn) bl := ⟨_, rfl⟩
            have HOKQ : Hid (okQ bl q = isOk A.2) := by show _ = _; rw [hA, hqi, hqn]; rfl
            have HOKA : Hid (okA A.1.ad) := by rw [hA]; exact mat_okA HBY.out qi (byt qn)
            have HAD : Hid ((mat q.id (byt q.nm) bl).1.ad = A.1.ad) := by show _ = _; rw [hA, hqi, hqn]
            have HQN := hide hqn
            rw [← hA] at HMA
            have HJ1 := hide j1
            have HNO : Hid (okQ bl q = false → tells name bl (R.qs.take (j + 1)) = tells name bl (R.qs.take j)) := fun h => by rw [HTKE.out, tells_append]; simp [tells, h]
            have HNN : Hid (q.nm ≠ name → tells name bl (R.qs.take (j + 1)) = tells name bl (R.qs.take j)) := fun h => by rw [HTKE.out, tells_append]; simp [tells, h]
            have HYE : Hid (okQ bl q = true → q.nm = name → tells name bl (R.qs.take (j + 1)) = tells name bl (R.qs.take j) ++ [A.1.ad]) := fun h1 h2 => by rw [HTKE.out, tells_append, ← HAD.out]; simp [tells, h1, h2]
            have HA0 : Hid (okQ bl q = false → (R.qs.take (j + 1)).any (okQ bl) = (R.qs.take j).any (okQ bl)) := fun h => by rw [HTKE.out]; simp [h]
            have HA1 : Hid (okQ bl q = true → (R.qs.take (j + 1)).any (okQ bl) = true) := fun h => by rw [HTKE.out]; simp [h]
            clear hA hq hqi hqn
            obtain ⟨⟨aid, anm, acd, aad, atl⟩, E⟩ := A
            go_wp2_with fail
            refine HMA.out.mono ?_
            rintro e w7 ⟨v, er, rfl, ho, hif, k7⟩
            obtain ⟨va, vc, rfl, hsa, hva⟩ := (show OwnA w7 wr.heap.size v aad from ho).src HOKA.out
            obtain ⟨w8, hw8⟩ : ∃ w8, w8 = w7.alloc (.cells #[.int .i64 (aid : Nat), .string (strN anm), .int .i64 (acd : Nat), .slice va aad.length vc, .int .i64 (atl : Nat)] 65) := ⟨_, rfl⟩
            have k78 : Below w7.heap.size w7 w8 := by rw [hw8]; exact (Below.refl _ _).alloc (Nat.le_refl _) _
            have hs8 : w8.heap.size = w7.heap.size + 1 := by rw [hw8]; simp
            have hrw8 : w8.heap[w7.heap.size]? = some (.cells #[.int .i64 (aid : Nat), .string (strN anm), .int .i64 (acd : Nat), .slice va aad.length vc, .int .i64 (atl : Nat)] 65) := by rw [hw8]; exact alloc_new _ _
            have k8 : Below wr.heap.size wr w8 := k7.trans (k78.mono k7.size)
            have IT7 := hide (HIJ.out.below k8)
            have HK7 : Hid (KeptS D w6 w8) := HKJ.out.trans (T := D) (KeptS.of_below k8) (fun _ => Or.inl)
            have j2 : w8.cell? ⟨qb, j * 2 + 1, none⟩ = some (.string qn) := (k8.cell (p := ⟨qb, j * 2 + 1, none⟩) (lt_of_cell j1)).trans HJ1.out
            obtain ⟨xb8, hxb8⟩ : ∃ xb8, xb8 = w7.heap.size := ⟨_, rfl⟩
            rw [← hxb8] at hrw8
            have x3 : w8.cell? ⟨xb8, 3, none⟩ = some (.slice va aad.length vc) := by simp [World.cell?, hrw8]
            have HSA := hide (hsa.below k78)
            have HVA := hide hva
            have HS7 := hide k8.size
            have HW8 := hide hw8.symm
            have HS8 := hide hs8
            have HXB := hide hxb8.symm
            clear j0 j1 ho hsa hva k7 k78 k8 hs8 hrw8 hw8 hxb8 HMA
            cases E with
            | one a1 a2 =>
              obtain ⟨b7, rfl, _⟩ := (show ∃ b, er = .iface 156 (.pointer (some ⟨b, 0, none⟩)) ∧ _ from hif)
              clear hif
              go_wp2_with fail
              try rw [HW8.out]
              go_roundw
              case rel => exact ⟨j + 1, D', V', T', by omega, by rw [HA0.out HOKQ.out], by go_num, IT7.out, by show _ = _; rw [HNO.out HOKQ.out]; exact HTJ.out, by omega, HDJ.out, HK7.out⟩
              case measure => simp [intOf]; omega
            | two a1 a2 a3 =>
              obtain ⟨b7, b8, rfl, _⟩ := (show ∃ b b2, er = .iface 156 (.pointer (some ⟨b, 0, none⟩)) ∧ _ from hif)
              clear hif
              go_wp2_with fail
              try rw [HW8.out]
              go_roundw
              case rel => exact ⟨j + 1, D', V', T', by omega, by rw [HA0.out HOKQ.out], by go_num, IT7.out, by show _ = _; rw [HNO.out HOKQ.out]; exact HTJ.out, by omega, HDJ.out, HK7.out⟩
              case measure => simp [intOf]; omega
            | ok =>
              have her : er = .nilIface := hif
              subst her
              clear hif
              by_cases hqn : q.nm = name
              · have hz : (qn.toList == name.toList) = true := by rw [eq_ba, HQN.out]; exact decide_eq_true hqn
                obtain ⟨v', w', V2, hr, hto, hkp⟩ := IT7.out.app HSA.out (by omega) wr.heap.size HS7.out (fun b o h0 e => ⟨HVA.out b o e, fun e2 => by have h1 := HIJ.out.lt b (HIJ.out.blk b e2); have h2 := HVA.out b o e; omega⟩)
                have HTO := hide hto
                have HKP := hide hkp
                clear hto hkp
                have HAP := hide hr
                have HAP2 := HAP
                rw [HS8.out] at HAP2
                rw [← HW8.out] at j2
                clear x3 hr
                go_wp2_with (first
                  | (at_builtin; rw [HW8.out]; refine wpList_app_run _ rfl _ _ 63 63 rfl (.slice ua T'.length uc) (.slice (some ⟨w8.heap.size, 0, none⟩) 1 1) rfl rfl HAP.out ?_)
                  | (at_builtin; rw [HW8.out]; refine wpList_app_run _ rfl _ _ 63 63 rfl (.slice ua T'.length uc) (.slice (some ⟨w7.heap.size + 1, 0, none⟩) 1 1) rfl rfl HAP2.out ?_))
                go_roundw
                case rel => exact ⟨j + 1, _, V2, _, by omega, by rw [HA1.out HOKQ.out], by go_num, HTO.out, by show _ = _; rw [HYE.out HOKQ.out hqn, HTJ.out]; simp, by simp; omega, fun k hk => hk.elim (HDJ.out k) (fun h => Or.inr (by have := HKJ.out.size; omega)), HK7.out.trans HKP.out (fun k hk => (HDJ.out k (IT7.out.blk k hk)).elim Or.inl (fun h => Or.inr h))⟩
                case measure => simp [intOf]; omega
              · have hz : (qn.toList == name.toList) = false := by rw [eq_ba, HQN.out]; exact decide_eq_false hqn
                rw [← HW8.out] at j2
                clear x3
                go_wp2_with fail
                try rw [HW8.out]
                go_roundw
                case rel => exact ⟨j + 1, D', V', T', by omega, by rw [HA1.out HOKQ.out], by go_num, IT7.out, by show _ = _; rw [HNN.out hqn]; exact HTJ.out, by omega, HDJ.out, HK7.out⟩
                case measure => simp [intOf]; omega
          · have hdj : decide ((j : Int) < (nq : Int)) = false := decide_eq_false (by omega)
            have hfull : R.qs.take j = R.qs := List.take_of_length_le (by have := HNQ.out; omega)
            rw [hfull] at HTJ ⊢
            have hTJ := HTJ.out
            subst hTJ
            obtain ⟨F9, hF9⟩ : ∃ F9 : Nat → Prop, F9 = fun k => G2 k ∧ ¬ D' k := ⟨_, rfl⟩
            have P9 : Hid (PF F9 wr r R6) := by
              have h0 := P6.out.mono (G := F9) (fun k hk hg => by
                subst hF9
                exact ⟨hg, fun hd => (HDJ.out k hd).elim (fun h => (FD6.out.off k h).1 hg) (fun h => by omega)⟩)
              obtain ⟨S, h1, h2⟩ := h0
              exact ⟨S, h1, h2.off HKJ.out (fun k hk hd => (FD6.out.off k hd).1 (by have := h1 k hk; subst hF9; exact this.1))⟩
            have K9 : Hid (Below w.heap.size w wr) := kept_below K6.out HKJ.out K6.out.size (fun k hk => (FD6.out.off k hk).2)
            have FD9 : Hid (FD w wr F9 D') := by
              subst hF9
              exact ⟨fun k hk => ⟨FD6.out.new k (by have := HKJ.out.size; omega), fun hd => by have := HIJ.out.lt k hd; omega⟩, fun k hk => FD6.out.low k hk.1, fun k hk => ⟨fun q => q.2 hk, (HDJ.out k hk).elim (fun h => (FD6.out.off k h).2) (fun h => by have := K6.out.size; omega)⟩⟩
            have IT9 := HIJ
            have FT9 := FT6
            have HR9 := HR6
            have hT9 : (T ++ tells name bl R.qs).length ≤ 64 * (i + 1) := by have := HNQ.out; omega
            generalize R.qs.any (okQ bl) = bm
            have hbn : (bm != bm) = false := by simp
            go_wp2_with fail
            go_roundw
            case rel => exact ⟨i + 1, nw, _, _, _, _, _, by omega, hnw0, hnw1, by first | trivial | rfl, by go_num, P9, FT9, K9, IT9, FD9, HR9, hT9⟩
            case measure => simp [intOf]; omega
      · as_aux_lemma =>
        have HAS := hide (asked_F PB.out)
        have hfew : R.qs.length ≤ 64 := by have h1 := PB.out.ok.few; have h2 := PB.out.ok.most; omega
        have hqok := hide PB.out.ok.q
        obtain ⟨qb, hqb⟩ : ∃ qb, qb = wb.heap.size := ⟨_, rfl⟩
        obtain ⟨nq, hnq⟩ : ∃ nq, nq = R.qs.length := ⟨_, rfl⟩
        rw [← hqb, ← hnq] at HAS
        clear r0 r2 r4
        go_wp2_with fail
        refine HAS.out.mono ?_
        rintro e w4 ⟨rfl, hq, p4, k4⟩
        have K4 : Hid (Below w.heap.size w w4) := KB.out.trans ((hqb ▸ k4).mono KB.out.size)
        have k4' : Below wb.heap.size wb w4 := hqb ▸ k4
        have HR4 : Hid (w4.heap[sb]? = some (.cells #[.int .i64 xk, .int .i64 xb, .int .i64 xd, .int .i64 xn, .string xname, .slice ba bn bc, .slice xa xan xc, .int .i64 xt] 33)) := (k4'.block sb HSL.out).trans HRB.out
        have s0 : w4.cell? ⟨sb, 0, none⟩ = some (.int .i64 xk) := by simp [World.cell?, HR4.out]
        have s1 : w4.cell? ⟨sb, 1, none⟩ = some (.int .i64 xb) := by simp [World.cell?, HR4.out]
        have s2 : w4.cell? ⟨sb, 2, none⟩ = some (.int .i64 xd) := by simp [World.cell?, HR4.out]
        have s3 : w4.cell? ⟨sb, 3, none⟩ = some (.int .i64 xn) := by simp [World.cell?, HR4.out]
        have s4 : w4.cell? ⟨sb, 4, none⟩ = some (.string xname) := by simp [World.cell?, HR4.out]
        have s5 : w4.cell? ⟨sb, 5, none⟩ = some (.slice ba bn bc) := by simp [World.cell?, HR4.out]
        have s6 : w4.cell? ⟨sb, 6, none⟩ = some (.slice xa xan xc) := by simp [World.cell?, HR4.out]
        have s7 : w4.cell? ⟨sb, 7, none⟩ = some (.int .i64 xt) := by simp [World.cell?, HR4.out]
        have HLA := hide (lanswer_o ⟨xk, xb, xd, xn, xname, ba, bn, bc, bs, xa, xan, xc, ads, xt⟩ qb R.qs w4 (XB.out.below k4') (HV.out.below K4.out) hq hfew hqok.out)
        rw [← hnq] at HLA
        have HQ4 := hide hq
        have HK4 := hide k4'
        have HQB := hide hqb
        have HNQ := hide hnq
        clear p4 k4 k4' hq HAS hqb hnq
        go_wp2_with fail
        refine HLA.out.mono ?_
        rintro e w5 ⟨ya, yc, bl, rfl, hst, htl, hby, hbk, k5⟩
        obtain ⟨G2, hG2⟩ : ∃ G2 : Nat → Prop, G2 = fun k => G k ∧ ¬ (wb.heap.size ≤ k ∧ k < w5.heap.size) := ⟨_, rfl⟩
        have k45 : Below wb.heap.size wb w5 := HK4.out.trans (k5.mono HK4.out.size)
        have K5 : Hid (Below w.heap.size w w5) := K4.out.trans (k5.mono K4.out.size)
        have P5 : Hid (PF G2 w5 r R) := (PB.out.mono (G := G2) (fun k hk hf => by subst hG2; exact ⟨hf, by omega⟩)).below k45
        have IT5 := hide (ITB.out.below k45)
        have FD5 : Hid (FD w w5 G2 D) := by
          subst hG2
          exact ⟨fun k hk => ⟨FDB.out.new k (by have := k45.size; omega), by omega⟩, fun k hk => FDB.out.low k hk.1, fun k hk => ⟨fun q => (FDB.out.off k hk).1 q.1, (FDB.out.off k hk).2⟩⟩
        have NQ : Hid (¬ G2 qb) := by
          subst hG2
          exact fun q => q.2 ⟨by rw [HQB.out]; omega, by obtain ⟨cs, h1, _⟩ := HQ4.out.row; have := Nm.lt_of_some h1; have := k5.size; omega⟩
        have HQ5 := hide (HQ4.out.below k5)
        have HTK := hide (take_F P5.out FD5.out.new (HV.out.below K5.out) nw ya bl.length yc bl hst htl)
        have HST := hide hst
        have HTLL := hide htl
        have HBY := hide hby
        have NB : Hid (∀ b o, 0 < bl.length → ya = some ⟨b, o, none⟩ → ¬ G2 b) := by
          subst hG2
          exact fun b o h0 e q => q.2 ⟨by have := hbk b o e; have := HK4.out.size; omega, hst.lt h0 e⟩
        have NBT : Hid (∀ b o, 0 < bl.length → ya = some ⟨b, o, none⟩ → ¬ D b) := fun b o h0 e q => by
          have h1 := IT5.out.lt b q
          have h2 := hbk b o e
          have h3 := ITB.out.lt b q
          have h4 := HK4.out.size
          omega
        have NQD : Hid (¬ D qb) := fun q => by
          have h3 := ITB.out.lt qb q
          have h4 := HQB.out
          omega
        clear hst htl hby hbk k5 k45 hG2
        go_wp2_with fail
        refine HTK.out.mono ?_
        rintro e w6 ⟨rfl, p6, k6⟩
        have P6 := hide p6
        have K6 : Hid (Below w.heap.size w w6) := kept_below K5.out k6 K5.out.size FD5.out.low
        have IT6 := hide (IT5.out.off FD5.out k6)
        have FD6 := hide (FD5.out.up k6.size)
        have ST6 : Hid (Src w6 ya bl.length yc bl) := HST.out.keep (fun h0 b o e => k6.block b (HST.out.lt h0 e) (NB.out b o h0 e)) k6.size
        have QY6 : Hid (QyAt w6 qb R.qs) := by
          obtain ⟨cs, h1, h2⟩ := HQ5.out.row
          exact ⟨cs, (k6.block qb (Nm.lt_of_some h1) NQ.out).trans h1, h2⟩
        have FT6 := hide ((HFT.out.take nw bl).psmono (j := i + 1) (by omega))
        have HR6 := hide (HHR.out.take nw bl)
        have htk : takT R nw bl = R.qs.any (okQ bl) := took_any ⟨hnw0, by omega⟩ bl
        rw [htk]
        clear htk
        generalize takR R nw bl = R6 at P6 FT6 HR6
        clear p6 k6 HTK P5 K5 IT5 FD5 NQ HQ5 HST NB HK4 HQ4 HLA HR4 s0 s1 s2 s3 s4 s5 s6 s7 K4 PB KB VB XB HWB HF HRB HSB ITB FDB
        have hlen6 : T.length + 0 ≤ 64 * i := by omega
        go_wp2_with fail
        go_loopw [9, 22, 23] (fun vt u v ww => ∃ (j : Nat) (D' : Nat → Prop) (V' : List Value) (T' : List (List Ad)), j ≤ nq ∧ u = .bool ((R.qs.take j).any (okQ bl)) ∧ v = .int .i64 j ∧ Hid (IsTo ww D' vt V' T') ∧ Hid (T' = T ++ tells name bl (R.qs.take j)) ∧ T'.length ≤ T.length + j ∧ Hid (∀ k, D' k → D k ∨ w6.heap.size ≤ k) ∧ Hid (KeptS D w6 ww)) (fun _ _ v _ => nq - (intOf v).toNat)
        case atStart => exact ⟨0, D, V, T, Nat.zero_le _, by simp, rfl, IT6.out, by show _ = _; simp [tells], by omega, fun k hk => Or.inl hk, KeptS.refl D w6⟩
        case round =>
          obtain ⟨j, D', V', T', hj, rfl, rfl, HIJ, HTJ, hTj, HDJ, HKJ⟩ := hrel
          obtain ⟨ua, uc, huv⟩ := HIJ.out.shape
          subst huv
          by_cases hjl : j < nq
          · have hdj : decide ((j : Int) < (nq : Int)) = true := decide_eq_true (by omega)
            have hnq64 : nq ≤ 64 := by have := HNQ.out; omega
            have STJ : Hid (Src wr ya bl.length yc bl) := ST6.out.keep (fun h0 b o e => HKJ.out.block b (ST6.out.lt h0 e) (NBT.out b o h0 e)) HKJ.out.size
            have QYJ : Hid (QyAt wr qb R.qs) := by
              obtain ⟨cs, h1, h2⟩ := QY6.out.row
              exact ⟨cs, (HKJ.out.block qb (Nm.lt_of_some h1) NQD.out).trans h1, h2⟩
            obtain ⟨j0, j1⟩ := QYJ.out.cells (i := j) (by have := HNQ.out; omega)
            have htake : R.qs.take (j + 1) = R.qs.take j ++ [qAt R.qs j] := by
              have hlt : j < R.qs.length := by have := HNQ.out; omega
              rw [List.take_add_one]; simp [qAt, hlt]
            have HTKE := hide htake
            clear htake
            have KJ : Hid (Below w.heap.size w wr) := kept_below K6.out HKJ.out K6.out.size (fun k hk => (FD6.out.off k hk).2)
            obtain ⟨q, hq⟩ : ∃ q, q = qAt R.qs j := ⟨_, rfl⟩
            rw [← hq] at j0 j1 HTKE
            obtain ⟨qi, hqi⟩ : ∃ x, x = q.id := ⟨_, rfl⟩
            obtain ⟨qn, hqn⟩ : ∃ x, x = q.nm := ⟨_, rfl⟩
            rw [← hqi] at j0
            rw [← hqn] at j1
            have HMA := hide (match_at qi qn ya bl.length yc bl wr STJ.out (HV.out.below KJ.out) HTLL.out)
            obtain ⟨A, hA⟩ : ∃ A, A = mat qi (byt qn) bl := ⟨_, rfl⟩
            have HOKQ : Hid (okQ bl q = isOk A.2) := by show _ = _; rw [hA, hqi, hqn]; rfl
            have HOKA : Hid (okA A.1.ad) := by rw [hA]; exact mat_okA HBY.out qi (byt qn)
            have HAD : Hid ((mat q.id (byt q.nm) bl).1.ad = A.1.ad) := by show _ = _; rw [hA, hqi, hqn]
            have HQN := hide hqn
            rw [← hA] at HMA
            have HJ1 := hide j1
            have HNO : Hid (okQ bl q = false → tells name bl (R.qs.take (j + 1)) = tells name bl (R.qs.take j)) := fun h => by rw [HTKE.out, tells_append]; simp [tells, h]
            have HNN : Hid (q.nm ≠ name → tells name bl (R.qs.take (j + 1)) = tells name bl (R.qs.take j)) := fun h => by rw [HTKE.out, tells_append]; simp [tells, h]
            have HYE : Hid (okQ bl q = true → q.nm = name → tells name bl (R.qs.take (j + 1)) = tells name bl (R.qs.take j) ++ [A.1.ad]) := fun h1 h2 => by rw [HTKE.out, tells_append, ← HAD.out]; simp [tells, h1, h2]
            have HA0 : Hid (okQ bl q = false → (R.qs.take (j + 1)).any (okQ bl) = (R.qs.take j).any (okQ bl)) := fun h => by rw [HTKE.out]; simp [h]
            have HA1 : Hid (okQ bl q = true → (R.qs.take (j + 1)).any (okQ bl) = true) := fun h => by rw [HTKE.out]; simp [h]
            clear hA hq hqi hqn
            obtain ⟨⟨aid, anm, acd, aad, atl⟩, E⟩ := A
            go_wp2_with fail
            refine HMA.out.mono ?_
            rintro e w7 ⟨v, er, rfl, ho, hif, k7⟩
            obtain ⟨va, vc, rfl, hsa, hva⟩ := (show OwnA w7 wr.heap.size v aad from ho).src HOKA.out
            obtain ⟨w8, hw8⟩ : ∃ w8, w8 = w7.alloc (.cells #[.int .i64 (aid : Nat), .string (strN anm), .int .i64 (acd : Nat), .slice va aad.length vc, .int .i64 (atl : Nat)] 65) := ⟨_, rfl⟩
            have k78 : Below w7.heap.size w7 w8 := by rw [hw8]; exact (Below.refl _ _).alloc (Nat.le_refl _) _
            have hs8 : w8.heap.size = w7.heap.size + 1 := by rw [hw8]; simp
            have hrw8 : w8.heap[w7.heap.size]? = some (.cells #[.int .i64 (aid : Nat), .string (strN anm), .int .i64 (acd : Nat), .slice va aad.length vc, .int .i64 (atl : Nat)] 65) := by rw [hw8]; exact alloc_new _ _
            have k8 : Below wr.heap.size wr w8 := k7.trans (k78.mono k7.size)
            have IT7 := hide (HIJ.out.below k8)
            have HK7 : Hid (KeptS D w6 w8) := HKJ.out.trans (T := D) (KeptS.of_below k8) (fun _ => Or.inl)
            have j2 : w8.cell? ⟨qb, j * 2 + 1, none⟩ = some (.string qn) := (k8.cell (p := ⟨qb, j * 2 + 1, none⟩) (lt_of_cell j1)).trans HJ1.out
            obtain ⟨xb8, hxb8⟩ : ∃ xb8, xb8 = w7.heap.size := ⟨_, rfl⟩
            rw [← hxb8] at hrw8
            have x3 : w8.cell? ⟨xb8, 3, none⟩ = some (.slice va aad.length vc) := by simp [World.cell?, hrw8]
            have HSA := hide (hsa.below k78)
            have HVA := hide hva
            have HS7 := hide k8.size
            have HW8 := hide hw8.symm
            have HS8 := hide hs8
            have HXB := hide hxb8.symm
            clear j0 j1 ho hsa hva k7 k78 k8 hs8 hrw8 hw8 hxb8 HMA
            cases E with
            | one a1 a2 =>
              obtain ⟨b7, rfl, _⟩ := (show ∃ b, er = .iface 156 (.pointer (some ⟨b, 0, none⟩)) ∧ _ from hif)
              clear hif
              go_wp2_with fail
              try rw [HW8.out]
              go_roundw
              case rel => exact ⟨j + 1, D', V', T', by omega, by rw [HA0.out HOKQ.out], by go_num, IT7.out, by show _ = _; rw [HNO.out HOKQ.out]; exact HTJ.out, by omega, HDJ.out, HK7.out⟩
              case measure => simp [intOf]; omega
            | two a1 a2 a3 =>
              obtain ⟨b7, b8, rfl, _⟩ := (show ∃ b b2, er = .iface 156 (.pointer (some ⟨b, 0, none⟩)) ∧ _ from hif)
              clear hif
              go_wp2_with fail
              try rw [HW8.out]
              go_roundw
              case rel => exact ⟨j + 1, D', V', T', by omega, by rw [HA0.out HOKQ.out], by go_num, IT7.out, by show _ = _; rw [HNO.out HOKQ.out]; exact HTJ.out, by omega, HDJ.out, HK7.out⟩
              case measure => simp [intOf]; omega
            | ok =>
              have her : er = .nilIface := hif
              subst her
              clear hif
              by_cases hqn : q.nm = name
              · have hz : (qn.toList == name.toList) = true := by rw [eq_ba, HQN.out]; exact decide_eq_true hqn
                obtain ⟨v', w', V2, hr, hto, hkp⟩ := IT7.out.app HSA.out (by omega) wr.heap.size HS7.out (fun b o h0 e => ⟨HVA.out b o e, fun e2 => by have h1 := HIJ.out.lt b (HIJ.out.blk b e2); have h2 := HVA.out b o e; omega⟩)
                have HTO := hide hto
                have HKP := hide hkp
                clear hto hkp
                have HAP := hide hr
                have HAP2 := HAP
                rw [HS8.out] at HAP2
                rw [← HW8.out] at j2
                clear x3 hr
                go_wp2_with (first
                  | (at_builtin; rw [HW8.out]; refine wpList_app_run _ rfl _ _ 63 63 rfl (.slice ua T'.length uc) (.slice (some ⟨w8.heap.size, 0, none⟩) 1 1) rfl rfl HAP.out ?_)
                  | (at_builtin; rw [HW8.out]; refine wpList_app_run _ rfl _ _ 63 63 rfl (.slice ua T'.length uc) (.slice (some ⟨w7.heap.size + 1, 0, none⟩) 1 1) rfl rfl HAP2.out ?_))
                go_roundw
                case rel => exact ⟨j + 1, _, V2, _, by omega, by rw [HA1.out HOKQ.out], by go_num, HTO.out, by show _ = _; rw [HYE.out HOKQ.out hqn, HTJ.out]; simp, by simp; omega, fun k hk => hk.elim (HDJ.out k) (fun h => Or.inr (by have := HKJ.out.size; omega)), HK7.out.trans HKP.out (fun k hk => (HDJ.out k (IT7.out.blk k hk)).elim Or.inl (fun h => Or.inr h))⟩
                case measure => simp [intOf]; omega
              · have hz : (qn.toList == name.toList) = false := by rw [eq_ba, HQN.out]; exact decide_eq_false hqn
                rw [← HW8.out] at j2
                clear x3
                go_wp2_with fail
                try rw [HW8.out]
                go_roundw
                case rel => exact ⟨j + 1, D', V', T', by omega, by rw [HA1.out HOKQ.out], by go_num, IT7.out, by show _ = _; rw [HNN.out hqn]; exact HTJ.out, by omega, HDJ.out, HK7.out⟩
                case measure => simp [intOf]; omega
          · have hdj : decide ((j : Int) < (nq : Int)) = false := decide_eq_false (by omega)
            have hfull : R.qs.take j = R.qs := List.take_of_length_le (by have := HNQ.out; omega)
            rw [hfull] at HTJ ⊢
            have hTJ := HTJ.out
            subst hTJ
            obtain ⟨F9, hF9⟩ : ∃ F9 : Nat → Prop, F9 = fun k => G2 k ∧ ¬ D' k := ⟨_, rfl⟩
            have P9 : Hid (PF F9 wr r R6) := by
              have h0 := P6.out.mono (G := F9) (fun k hk hg => by
                subst hF9
                exact ⟨hg, fun hd => (HDJ.out k hd).elim (fun h => (FD6.out.off k h).1 hg) (fun h => by omega)⟩)
              obtain ⟨S, h1, h2⟩ := h0
              exact ⟨S, h1, h2.off HKJ.out (fun k hk hd => (FD6.out.off k hd).1 (by have := h1 k hk; subst hF9; exact this.1))⟩
            have K9 : Hid (Below w.heap.size w wr) := kept_below K6.out HKJ.out K6.out.size (fun k hk => (FD6.out.off k hk).2)
            have FD9 : Hid (FD w wr F9 D') := by
              subst hF9
              exact ⟨fun k hk => ⟨FD6.out.new k (by have := HKJ.out.size; omega), fun hd => by have := HIJ.out.lt k hd; omega⟩, fun k hk => FD6.out.low k hk.1, fun k hk => ⟨fun q => q.2 hk, (HDJ.out k hk).elim (fun h => (FD6.out.off k h).2) (fun h => by have := K6.out.size; omega)⟩⟩
            have IT9 := HIJ
            have FT9 := FT6
            have HR9 := HR6
            have hT9 : (T ++ tells name bl R.qs).length ≤ 64 * (i + 1) := by have := HNQ.out; omega
            generalize R.qs.any (okQ bl) = bm
            have hbn : (bm != bm) = false := by simp
            go_wp2_with fail
            go_roundw
            case rel => exact ⟨i + 1, nw, _, _, _, _, _, by omega, hnw0, hnw1, by first | trivial | rfl, by go_num, P9, FT9, K9, IT9, FD9, HR9, hT9⟩
            case measure => simp [intOf]; omega
      · as_aux_lemma =>
        have HAK := hide (ask_F PB.out HF.out VB.out H0.out nw xd xname hnm hps)
        have HOKA := hide (PB.out.okA nw xname)
        have FT4 := hide ((HFT.out.ask nw xd xname).psmono (j := i + 1) (by omega))
        have HR4 : Hid (Heard name T (askR R nw xd xname).tab) := by show Heard name T _; rw [askR_tab]; exact HHR.out
        have HIN : Hid (xname = name → askA R nw xname ≠ [] → askA R nw xname ∈ T) := fun e h0 => by subst e; exact HHR.out.ask nw h0
        obtain ⟨LA, hLA⟩ : ∃ LA, LA = askA R nw xname := ⟨_, rfl⟩
        rw [← hLA] at HAK HOKA HIN
        generalize askE nw xname = E at HAK
        generalize askK R nw xname = K at HAK
        generalize askR R nw xd xname = R4 at HAK FT4 HR4
        clear hLA
        go_wp2_with fail
        refine HAK.out.mono ?_
        rintro e w4 ⟨v, rfl, ho, p4, k4⟩
        obtain ⟨va, vc, rfl, hsa, _⟩ := (show OwnA w4 wb.heap.size v LA from ho).src HOKA.out
        have P4 := hide p4
        have K4 : Hid (Below w.heap.size w w4) := kept_below KB.out k4 KB.out.size FDB.out.low
        have IT4 := hide (ITB.out.off FDB.out k4)
        have FD4 := hide (FDB.out.up k4.size)
        have SA4 := hide hsa
        have hT4 : T.length ≤ 64 * (i + 1) := by omega
        have r4b : w4.cell? ⟨sb, 4, none⟩ = some (.string xname) := by simp [World.cell?, k4.block sb HSL.out NSB.out, HRB.out]
        obtain ⟨n4, hn4⟩ : ∃ n, n = LA.length := ⟨_, rfl⟩
        rw [← hn4] at SA4 ⊢
        have HN4 := hide hn4
        clear ho p4 k4 hsa HAK PB KB VB XB HWB HF r0 r2 r4 HRB HSB hn4 ITB FDB
        by_cases hhit : (E = 0 ∧ xname = name) ∧ (K = 1 ∧ 0 < n4)
        case neg =>
          have key : ((E == 0) = false) ∨ ((E == 0) = true ∧ (xname.toList == name.toList) = false) ∨ ((E == 0) = true ∧ (xname.toList == name.toList) = true ∧ (K == 1) = false) ∨ ((E == 0) = true ∧ (xname.toList == name.toList) = true ∧ (K == 1) = true ∧ n4 = 0) := by
            by_cases q1 : E = 0
            · by_cases q2 : xname = name
              · by_cases q3 : K = 1
                · exact Or.inr (Or.inr (Or.inr ⟨by simp [q1], by simp [q2], by simp [q3], by have : ¬ 0 < n4 := fun h => hhit ⟨⟨q1, q2⟩, q3, h⟩; omega⟩))
                · exact Or.inr (Or.inr (Or.inl ⟨by simp [q1], by simp [q2], by simp [q3]⟩))
              · exact Or.inr (Or.inl ⟨by simp [q1], by rw [eq_ba]; exact decide_eq_false q2⟩)
            · exact Or.inl (by simp [q1])
          have P9 := P4
          have FT9 := FT4
          have K9 := K4
          have IT9 := IT4
          have FD9 := FD4
          have HR9 := HR4
          have hT9 := hT4
          clear hhit P4 FT4 K4 IT4 FD4 HR4 hT4
          rcases key with q1 | ⟨q1, q2⟩ | ⟨q1, q2, q3⟩ | ⟨q1, q2, q3, q4⟩
          · go_wp2_with fail
            go_roundw
            case rel => exact ⟨i + 1, nw, _, _, _, _, _, by omega, hnw0, hnw1, by first | trivial | rfl, by go_num, P9, FT9, K9, IT9, FD9, HR9, hT9⟩
            case measure => simp [intOf]; omega
          · go_wp2_with fail
            go_roundw
            case rel => exact ⟨i + 1, nw, _, _, _, _, _, by omega, hnw0, hnw1, by first | trivial | rfl, by go_num, P9, FT9, K9, IT9, FD9, HR9, hT9⟩
            case measure => simp [intOf]; omega
          · go_wp2_with fail
            go_roundw
            case rel => exact ⟨i + 1, nw, _, _, _, _, _, by omega, hnw0, hnw1, by first | trivial | rfl, by go_num, P9, FT9, K9, IT9, FD9, HR9, hT9⟩
            case measure => simp [intOf]; omega
          · have q5 : decide ((n4 : Int) > 0) = false := decide_eq_false (by omega)
            have q5' : decide ((0 : Int) < (n4 : Int)) = false := decide_eq_false (by omega)
            go_wp2_with fail
            go_roundw
            case rel => exact ⟨i + 1, nw, _, _, _, _, _, by omega, hnw0, hnw1, by first | trivial | rfl, by go_num, P9, FT9, K9, IT9, FD9, HR9, hT9⟩
            case measure => simp [intOf]; omega
        case pos =>
          obtain ⟨⟨rfl, rfl⟩, rfl, hn40⟩ := hhit
          have q5 : decide ((n4 : Int) > 0) = true := decide_eq_true (by omega)
          have q5' : decide ((0 : Int) < (n4 : Int)) = true := decide_eq_true (by omega)
          have HMEM : Hid (LA ∈ T) := HIN.out rfl (fun e => by have := HN4.out; rw [e] at this; simp at this; omega)
          have hc4 := SA4.out.hcap
          have hm4 := SA4.out.hmax
          unfold maxLen at hm4
          go_wp2_with fail
          obtain ⟨m, hm, hmL⟩ : ∃ m, m < T.length ∧ T.getD m [] = LA := by
            obtain ⟨m, hm, e⟩ := List.getElem_of_mem HMEM.out
            exact ⟨m, hm, by simp [hm, e]⟩
          have HML := hide hmL
          obtain ⟨tl, htl⟩ : ∃ n, n = T.length := ⟨_, rfl⟩
          have HTL := hide htl
          rw [← htl] at hm
          have hT5 : tl ≤ 64 * (i + 1) := by omega
          clear htl hmL
          try rw [← HTL.out]
          go_loopw [16, 17] (fun u v ww => ∃ (t : Bool) (j : Nat), j ≤ tl ∧ u = .bool t ∧ v = .int .i64 j ∧ (m < j → t = true) ∧ Hid (Below w4.heap.size w4 ww)) (fun _ v _ => tl - (intOf v).toNat)
          case atStart => exact ⟨false, 0, Nat.zero_le _, rfl, rfl, fun h => by omega, Below.refl _ _⟩
          case round =>
            obtain ⟨t, j, hj, rfl, rfl, hmt, HBJ⟩ := hrel
            by_cases hjl : j < tl
            · have hdj : decide ((j : Int) < (tl : Int)) = true := decide_eq_true (by omega)
              cases t
              · have hmj : ¬ m < j := fun h => by cases hmt h
                obtain ⟨g5, c5, a5, ac5, e5, x1, x2, x3, x4⟩ := (IT4.out.below HBJ.out).at_ (i := j) (by have := HTL.out; omega)
                have hr5 := HBJ.out
                obtain ⟨lj, hlj⟩ : ∃ lj, lj = T.getD j [] := ⟨_, rfl⟩
                rw [← hlj] at x3 x4
                have hjl5 : m = j → lj = LA := fun e => by rw [hlj, ← e]; exact HML.out
                obtain ⟨nj, hnj⟩ : ∃ n, n = lj.length := ⟨_, rfl⟩
                rw [← hnj] at x3 x4
                simp only [Value.slice.injEq] at e5
                obtain ⟨rfl, _, rfl⟩ := e5
                have HSA := hide (same_addrs_any wr a5 va nj ac5 n4 vc lj LA x4 (SA4.out.below HBJ.out))
                have HJ5 := hide hjl5
                clear x4 hlj hjl5 hnj hr5
                go_wp2_with fail
                refine HSA.out.mono ?_
                rintro e w5 ⟨⟨q, rfl, hq⟩, k5⟩
                have HQ5 := hide hq
                have HB5 : Hid (Below w4.heap.size w4 w5) := HBJ.out.trans (k5.mono HBJ.out.size)
                clear hq k5 HSA
                go_wp2_with fail
                go_roundw
                case rel => exact ⟨q, j + 1, by omega, by first | trivial | rfl, by go_num, fun h => HQ5.out (HJ5.out (by omega)), HB5.out⟩
                case measure => simp [intOf]; omega
              · go_wp2_with fail
                go_roundw
                case rel => exact ⟨true, j + 1, by omega, by first | trivial | rfl, by go_num, fun _ => rfl, HBJ.out⟩
                case measure => simp [intOf]; omega
            · have hdj : decide ((j : Int) < (tl : Int)) = false := decide_eq_false (by omega)
              have ht := hmt (by omega)
              subst ht
              have P9 := hide (P4.out.below HBJ.out)
              have FT9 := FT4
              have K9 : Hid (Below w.heap.size w wr) := K4.out.trans (HBJ.out.mono K4.out.size)
              have IT9 : Hid (IsTo wr D (.slice ta tl tc) V T) := by rw [HTL.out]; exact IT4.out.below HBJ.out
              have FD9 := hide (FD4.out.up HBJ.out.size)
              have HR9 := HR4
              have hT9 := hT4
              go_wp2_with fail
              go_roundw
              case rel => exact ⟨i + 1, nw, _, _, _, _, _, by omega, hnw0, hnw1, by first | trivial | rfl, by go_num, P9, FT9, K9, IT9, FD9, HR9, hT9⟩
              case measure => simp [intOf]; omega
    · have hd : decide ((i : Int) < (len : Int)) = false := decide_eq_false (by omega)
      go_wp2_with fail
      go_ret
      exact ⟨rfl, HB.out⟩
end Go.Proofs.YtabkelhipmijfaaGreatDoor

set_option maxRecDepth 100000
set_option linter.constructorNameAsVariable false
namespace Go.Proofs.YtabkelhipmijfaaGreatDoor.resolverTrueUpto
open Go.ChangeShapes Go.WideShapes Go.ChangeAt Go.RowKit
set_option linter.unusedVariables false
set_option linter.unusedSimpArgs false

theorem own : ownKnob Tryz.prog.godebug = none := by kernel_rfl
theorem laidOut : laidOutB Tryz.prog = true := by kernel_rfl
theorem acts_len {H : Type} {enc : TypeId × Value → H} {W : World} {fuel : Nat} {a : Option Addr} {n c : Nat} {d : DataW H} {ps : List MemPlace} (hf : DataW.trod enc Tryz.prog W 0 (fun _ => true) true fuel 22 [.slice a n c] = some (d, ps)) : n = 0 ∨ ∃ el rest, d = .slice el rest ∧ n ≤ el.length := by
  rcases Deep.open_slice Tryz.underlying22 hf with ⟨hcs, _⟩ | ⟨x, l, c', m, nn, D, Pl, hcs, _, hl, hm, hmm, hx, hr⟩
  · simp at hcs
    exact Or.inl hcs.2.1
  · simp at hcs
    obtain ⟨rfl, rfl, rfl⟩ := hcs
    simp only [Prod.mk.injEq] at hx
    exact Or.inr ⟨_, _, hx.1, by simp⟩

theorem contract (H : Type) (enc : TypeId × Value → H) (W : World) (base : Nat) (args : Array Value) (ds gs : List (DataW H)) (before : List MemPlace)
    (hval : ∀ (j : Nat) t v, Tryz.f4.params[j]? = some t → args[j]? = some v → Value.okWide Tryz.prog W .any base t v)
    (hW : DataW.Whole enc Tryz.prog Tryz.f4.params.toList Rows.resolverTrueSpec.vars false W args.toList ds gs before) (hk : Rows.uptoSmall H (ds ++ gs) = true) (hsz0 : (DataW.weightsEach Tryz.prog (Tryz.f4.params.toList ++ Rows.resolverTrueSpec.plain.varTypes Tryz.prog) (ds ++ gs)).all (· ≤ reachBytes) = true) (hL : laidMetH Tryz.prog laidL W) (hsh : W.ShapedOpen Tryz.prog) :
    Calls Tryz.prog 4 args W fun e W' => ∃ v, e = .returned v ∧ Rows.resolverTrueSpec.post enc Tryz.prog Tryz.f4 false true false false W args v W' := by
  have hW' := hW
  obtain ⟨p, q, hA0, hV, rfl, hfz, hnd⟩ := hW
  have hA : DataW.TrodAll enc Tryz.prog W 0 (fun _ => true) true Tryz.f4.params.toList args.toList ds p := hA0
  rw [Tryz.params4] at hA hval
  obtain ⟨v0, vs0, d0, ds0, p0, q0, hargs, rfl, rfl, h0, r0⟩ := trodAll_cons hA
  obtain ⟨v1, vs1, d1, ds1, p1, q1, rfl, rfl, rfl, h1, r1⟩ := trodAll_cons r0
  obtain ⟨v2, vs2, d2, ds2, p2, q2, rfl, rfl, rfl, h2, r2⟩ := trodAll_cons r1
  obtain ⟨rfl, rfl, rfl⟩ := trodAll_nil r2
  obtain rfl : args = #[v0, v1, v2] := by cases args; simp_all
  obtain ⟨rfl, rfl⟩ := trodVars_none hV
  have hbulk : Rows.uptoBulk d0 + Rows.uptoBulk d1 + Rows.uptoBulk d2 ≤ 1048576 := by
    have h := hk
    simp only [Rows.uptoSmall, List.append_nil, List.cons_append, List.nil_append, Rows.uptoBulkAll, Nat.add_zero, decide_eq_true_eq] at h
    omega
  obtain ⟨s0, rfl, rfl, rfl, w0⟩ := open_int Tryz.underlying3 (hval 0 3 v0 rfl rfl) h0
  obtain ⟨a1, n1, c1, rfl⟩ := okWide_slice Tryz.underlying22 (hval 1 22 v1 rfl rfl)
  have k1 := h1
  have lt1 : ∀ x ∈ p1, x.block < W.heap.size := by obtain ⟨m, hm⟩ := k1; exact DataW.trod_lt m _ _ _ hm
  obtain ⟨s1, w1, y1⟩ : ∃ f, IsActs W a1 n1 c1 f ∧ n1 ≤ Rows.uptoBulk d1 := by
    obtain ⟨m, hm⟩ := h1
    obtain ⟨f, hf⟩ := acts_open hm (sized_of hsz0 (j := 1) (t := 22) rfl rfl)
    exact ⟨f, hf, bulk_bytes (acts_len hm)⟩
  obtain ⟨s2, rfl, rfl, rfl, w2⟩ := Go.ChangeMaps.open_string Tryz.underlying9 (hval 2 9 v2 rfl rfl) h2
  clear hA0 hsz0
  refine (true_walk s0 a1 n1 c1 s1 s2 W w1 w2 (by omega) (of_laid hL hsh)).mono fun e W' ⟨he, bel⟩ => ?_
  subst he
  exact ⟨_, rfl, _, _, _, [], _, [], hW', trodAll_mk1 (shut_bool Tryz.underlying4 _), (trodAll_cons_mk (shut_int Tryz.underlying3 w0) (trodAll_cons_mk (Below.trod laidOut (by kernel_rfl) (of_decide_eq_true (by kernel_rfl)) k1 bel lt1) (trodAll_cons_mk (Go.ChangeMaps.shut_string Tryz.underlying9 w2) trodAll_mk0))), rfl, bel.frame _, fun h => by cases h⟩

theorem reads (os : Os) {H : Type} (enc : TypeId × Value → H) : ∃ places, DataW.whole enc Tryz.prog ((laidW os).forCall (fun _ _ => 0) ⟨#[], #[.int .i64 0, .slice none 0 0, .string ⟨#[]⟩], []⟩).memory Tryz.f4.params.toList Rows.resolverTrueSpec.vars false (#[.int .i64 0, .slice none 0 0, .string ⟨#[]⟩] : Array Value).toList 8 = some ([.lit (.int .i64 0), .nil, .lit (.string [])], [], places) :=
  ⟨[], by kernel_rfl⟩

theorem lifted (os : Os) (started : os.Started) (H : Type) (enc : TypeId × Value → H) (F : Stop.Interp) :
    ReturnsInHanded {} Tryz.checked os 4 .any ((Rows.OpenSpec.upto Rows.resolverTrueSpec).preRow enc Tryz.prog Tryz.f4 Rows.resolverTrueUptoRow.domain false Rows.resolverTrueUptoRow.laid) (((Rows.OpenSpec.upto Rows.resolverTrueSpec).at F).post enc Tryz.prog Tryz.f4 false true false false) := by
  obtain ⟨places, hx⟩ := reads os enc
  refine returnsInHanded_of_row (C := Tryz.checked) (s := Rows.OpenSpec.upto Rows.resolverTrueSpec) own started (by kernel_rfl) Tryz.func4
    (witness_row_atRef (enc := enc) (C := Tryz.checked) false (laidW os) #[.int .i64 0, .slice none 0 0, .string ⟨#[]⟩] rfl (by kernel_rfl) (by kernel_rfl) (by kernel_rfl)
      (OpenSpec.preRow_of_cond 8 hx (by kernel_rfl) (fun k hk => by cases hk; kernel_rfl) (by kernel_rfl) (door_met os _))) ?_
  intro W base args ds gs before hval hW _ hcond hsz hL hsh _
  exact contract H enc W base args ds gs before hval hW (hcond _ rfl) hsz hL hsh

theorem over : Rows.ResolverTrueUptoSaid :=
  OpenClaim.holds_of_cond 4 Tryz.f4 rfl rfl rfl rfl rfl rfl rfl ⟨rfl, rfl, rfl, rfl, rfl⟩ rfl rfl rfl rfl rfl (by kernel_rfl) Tryz.func4 (by kernel_rfl)
    (of_decide_eq_true (by kernel_rfl)) (by unfold Func.isWrapper; first | (rw [if_pos (by decide +kernel)]; kernel_rfl) | (rw [if_neg (by decide +kernel)]; exact ⟨rfl, rfl⟩))
    (fun os started H enc _ F => by rw [OpenClaim.pre_eq_preRow]; exact lifted os started H enc F)

theorem proved : Rows.ResolverTrueUptoCardSaid :=
  Claim7.holds_tied_plain_at .later [] [.data, .pinned] true (true, "4d7b913d3d9ad7a12cc7b5c7c8ae92278ed257cdb76f0f51ebc50f9971b9a198") true
    over (fun _ h => by cases h) (by kernel_rfl) (fun _ h => by cases h) resolverTrueUpto_row_tie rfl ⟨rfl, rfl⟩ (by kernel_rfl) rfl
    (fun f fn hf hfn => by
      obtain rfl : f = 4 := Option.some.inj ((show Tryz.prog.funcNamed "sallyport/sallyportlaw16.ResolverTrue" = some 4 by kernel_rfl).symm.trans hf) |>.symm
      obtain rfl : fn = Tryz.f4 := (Option.some.inj (Tryz.func4.symm.trans hfn)).symm
      exact ⟨by kernel_rfl, fun j t ht => by
        rw [Tryz.params4] at ht
        have hm : t ∈ [3, 22, 9] := by simpa using Array.mem_of_getElem? ht
        have hall : ([3, 22, 9].all fun u => !Tryz.prog.wantsStandIn u) = true := by kernel_rfl
        exact (show Tryz.prog.wantsStandIn t = false by simpa using List.all_eq_true.1 hall t hm)⟩)
    (by kernel_rfl)
end Go.Proofs.YtabkelhipmijfaaGreatDoor.resolverTrueUpto

namespace Go.Proofs.YtabkelhipmijfaaGreatDoor
theorem resolverTrueUpto_holds : Rows.ResolverTrueUptoCardSaid := resolverTrueUpto.proved
end Go.Proofs.YtabkelhipmijfaaGreatDoor
