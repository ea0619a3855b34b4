/-
  errors.Is of what a head's readers tell; errors.Is of what a head's readers tell; errors.Is of what a head's readers tell; Clone and Add of package proxy; conditions as each theorem has them.
-/
import Derived.Test.YtccoddmdlbdfjaaGreatDoorJoinedD
import Derived.Test.YtccoddmdlbdfjaaGreatDoorJoinedPN
import Derived.LaidEql
import Derived.Stop.Asserts
import Derived.RowKitTokens
import Derived.Test.YtccoddmdlbdfjaaGreatDoorJoinedDA
import Derived.Test.YtccoddmdlbdfjaaGreatDoorRV
import Derived.Test.YtccoddmdlbdfjaaGreatDoorJoinedPM
set_option linter.unusedSimpArgs false
set_option linter.unusedVariables false
namespace Go.Proofs.YtccoddmdlbdfjaaGreatDoor
open Go.RowKit Go.Extern.Stop Go.Stop Go.Extern

set_option maxRecDepth 100000 in
set_option maxHeartbeats 2000000 in
theorem eis3h (L L2 L3 : ByteArray) (a a2 a3 b b2 b3 : Nat) (w : World) (h : w.heap[b]? = some (fltL L a (.iface 145 (.pointer (some ⟨b2, 0, none⟩))))) (h2 : w.heap[b2]? = some (fltL L2 a2 (.iface 145 (.pointer (some ⟨b3, 0, none⟩))))) (h3 : w.heap[b3]? = some (fltL L3 a3 (.iface 44 (.int .i64 6)))) : Calls Tryz.prog 37 #[.iface 145 (.pointer (some ⟨b, 0, none⟩)), .iface 44 (.int .i64 6)] w fun e w' => e = .returned (.bool true) ∧ w' = w := by
  have h8 := @run_callFunc_extern Tryz.prog 61 _ ReflectliteType.typeOf Tryz.func61 (by kernel_rfl) (by kernel_rfl) (by kernel_rfl) (by kernel_rfl)
  have tT := tO31
  have cT := cT31
  have n1 := nE1
  have n2 := nE2
  have n3 := nE3
  have f1 := nF1
  have f2 := hF2
  obtain ⟨_, _, c2⟩ := fltL_cells h
  obtain ⟨_, _, d2⟩ := fltL_cells h2
  obtain ⟨_, _, d3⟩ := fltL_cells h3
  have hty := run_eql_iface_types (P := Tryz.prog) 145 44 (.pointer (some ⟨b, 0, none⟩)) (.int .i64 6) Tryz.underlying59 (by decide) w
  have hty2 := run_eql_iface_types (P := Tryz.prog) 145 44 (.pointer (some ⟨b2, 0, none⟩)) (.int .i64 6) Tryz.underlying59 (by decide) w
  have hty3 := run_eql_iface_types (P := Tryz.prog) 145 44 (.pointer (some ⟨b3, 0, none⟩)) (.int .i64 6) Tryz.underlying59 (by decide) w
  have heq : ∀ w, (binOp .eql 59 (.iface 44 (.int .i64 6)) (.iface 44 (.int .i64 6))).run Tryz.prog w = .ok (.bool true) w := fun w => by kernel_rfl
  clear h h2 h3
  go_enter Tryz.func37, Tryz.ntmps37
  go_wp2
  refine wp_loop_rounds 4 ?_
  rw [rounds_succ]
  go_wp2
  rw [rounds_succ]
  go_wp2
  rw [rounds_succ]
  go_wp2
  rw [rounds_succ]
  go_wp2
  go_ret
  exact ⟨rfl, rfl⟩
end Go.Proofs.YtccoddmdlbdfjaaGreatDoor

set_option linter.unusedSimpArgs false
set_option linter.unusedVariables false
namespace Go.Proofs.YtccoddmdlbdfjaaGreatDoor
open Go.RowKit Go.Extern.Stop Go.Stop Go.Extern

set_option maxRecDepth 100000 in
set_option maxHeartbeats 2000000 in
theorem eis3m (L L2 L3 : ByteArray) (a a2 a3 c b b2 b3 : Nat) (w : World) (hc : c ≠ 6) (h : w.heap[b]? = some (fltL L a (.iface 145 (.pointer (some ⟨b2, 0, none⟩))))) (h2 : w.heap[b2]? = some (fltL L2 a2 (.iface 145 (.pointer (some ⟨b3, 0, none⟩))))) (h3 : w.heap[b3]? = some (fltL L3 a3 (.iface 44 (.int .i64 c)))) : Calls Tryz.prog 37 #[.iface 145 (.pointer (some ⟨b, 0, none⟩)), .iface 44 (.int .i64 6)] w fun e w' => e = .returned (.bool false) ∧ w' = w := by
  have h8 := @run_callFunc_extern Tryz.prog 61 _ ReflectliteType.typeOf Tryz.func61 (by kernel_rfl) (by kernel_rfl) (by kernel_rfl) (by kernel_rfl)
  have tT := tO31
  have cT := cT31
  have n1 := nE1
  have n2 := nE2
  have n3 := nE3
  have f1 := nF1
  have f2 := hF2
  obtain ⟨_, _, c2⟩ := fltL_cells h
  obtain ⟨_, _, d2⟩ := fltL_cells h2
  obtain ⟨_, _, d3⟩ := fltL_cells h3
  have hty := run_eql_iface_types (P := Tryz.prog) 145 44 (.pointer (some ⟨b, 0, none⟩)) (.int .i64 6) Tryz.underlying59 (by decide) w
  have hty2 := run_eql_iface_types (P := Tryz.prog) 145 44 (.pointer (some ⟨b2, 0, none⟩)) (.int .i64 6) Tryz.underlying59 (by decide) w
  have hty3 := run_eql_iface_types (P := Tryz.prog) 145 44 (.pointer (some ⟨b3, 0, none⟩)) (.int .i64 6) Tryz.underlying59 (by decide) w
  have heq : ∀ w, (binOp .eql 59 (.iface 44 (.int .i64 c)) (.iface 44 (.int .i64 6))).run Tryz.prog w = .ok (.bool false) w := fun w => eqn_6 c hc w
  clear h h2 h3 hc
  go_enter Tryz.func37, Tryz.ntmps37
  go_wp2
  refine wp_loop_rounds 4 ?_
  rw [rounds_succ]
  go_wp2
  rw [rounds_succ]
  go_wp2
  rw [rounds_succ]
  go_wp2
  rw [rounds_succ]
  go_wp2
  go_ret
  exact ⟨rfl, rfl⟩
end Go.Proofs.YtccoddmdlbdfjaaGreatDoor

set_option linter.unusedSimpArgs false
set_option linter.unusedVariables false
namespace Go.Proofs.YtccoddmdlbdfjaaGreatDoor
open Go.RowKit Go.Extern.Stop Go.Stop Go.Extern

theorem eis3 (L L2 L3 : ByteArray) (a a2 a3 c b b2 b3 : Nat) (w : World) (h : w.heap[b]? = some (fltL L a (.iface 145 (.pointer (some ⟨b2, 0, none⟩))))) (h2 : w.heap[b2]? = some (fltL L2 a2 (.iface 145 (.pointer (some ⟨b3, 0, none⟩))))) (h3 : w.heap[b3]? = some (fltL L3 a3 (.iface 44 (.int .i64 c)))) : Calls Tryz.prog 37 #[.iface 145 (.pointer (some ⟨b, 0, none⟩)), .iface 44 (.int .i64 6)] w fun e w' => e = .returned (.bool (decide (c = 6))) ∧ w' = w := by
  by_cases hc : c = 6
  · subst hc
    exact eis3h L L2 L3 a a2 a3 b b2 b3 w h h2 h3
  · rw [decide_eq_false hc]
    exact eis3m L L2 L3 a a2 a3 c b b2 b3 w hc h h2 h3
theorem is6_at (e : Hr) (v : Value) (w : World) (h : IsH w e v) : Calls Tryz.prog 37 #[v, .iface 44 (.int .i64 6)] w fun x w' => x = .returned (.bool (is6 e)) ∧ w' = w := by
  cases e with
  | ok =>
    obtain rfl : v = .nilIface := h
    exact eis0 w
  | one a c =>
    obtain ⟨b, rfl, hb⟩ := h
    exact eis1 _ a c b w hb
  | wr a e =>
    obtain ⟨he, b, u, rfl, hb, hu⟩ := h
    cases e with
    | ok => exact absurd rfl he
    | one a2 c =>
      obtain ⟨b2, rfl, hb2⟩ := hu
      exact eis2 _ _ a a2 c b b2 w hb hb2
    | two a2 a3 c =>
      obtain ⟨b2, b3, rfl, hb2, hb3⟩ := hu
      exact eis3 _ _ _ a a2 a3 c b b2 b3 w hb hb2 hb3
end Go.Proofs.YtccoddmdlbdfjaaGreatDoor

set_option linter.unusedSimpArgs false
set_option linter.unusedVariables false
namespace Go.Proofs.YtccoddmdlbdfjaaGreatDoor
open Go.RowKit

set_option maxRecDepth 100000 in
theorem clone_at (b x : Nat) (C : Cn) (w : World) (h : PC w b x C) : Calls Tryz.prog 19 #[.pointer (some ⟨b, 0, none⟩)] w fun e w' => e = .returned (.pointer (some ⟨w.heap.size, 0, none⟩)) ∧ PC w' w.heap.size b C ∧ PC w' b x C ∧ Below w.heap.size w w' ∧ w'.heap.size = w.heap.size + 1 := by
  have H := hide h
  obtain ⟨r, a, n, c, h1, h2, h3, h4, h5⟩ := h
  have HM := hide (isMade_at b w (h1.cell 0))
  have c0 : w.cell? ⟨b, 0, none⟩ = some (.bool true) := h1.cell 0
  have c1 : w.cell? ⟨b, 1, none⟩ = some (.int .i64 (C.st : Nat)) := h1.cell 1
  have c2 : w.cell? ⟨b, 2, none⟩ = some (.string r.m) := h1.cell 2
  have c3 : w.cell? ⟨b, 3, none⟩ = some (.int .u8 (r.x0 : Nat)) := h1.cell 3
  have c4 : w.cell? ⟨b, 4, none⟩ = some (.int .u8 (r.x1 : Nat)) := h1.cell 4
  have c5 : w.cell? ⟨b, 5, none⟩ = some (.int .u8 (r.x2 : Nat)) := h1.cell 5
  have c6 : w.cell? ⟨b, 6, none⟩ = some (.int .u8 (r.x3 : Nat)) := h1.cell 6
  have c7 : w.cell? ⟨b, 7, none⟩ = some (.string r.s) := h1.cell 7
  have c8 : w.cell? ⟨b, 8, none⟩ = some (.int .i64 (r.p : Nat)) := h1.cell 8
  have c9 : w.cell? ⟨b, 9, none⟩ = some (.string r.t) := h1.cell 9
  have c10 : w.cell? ⟨b, 10, none⟩ = some (.slice a n c) := h1.cell 10
  have c11 : w.cell? ⟨b, 11, none⟩ = some (.int .i64 C.said) := h1.cell 11
  obtain ⟨W, hW⟩ : ∃ W, W = w.alloc (.cells (cnA C.st r (.slice a n c) C.said).toArray 80) := ⟨_, rfl⟩
  have b1 : Below w.heap.size w W := by rw [hW]; exact (Below.refl _ _).alloc (Nat.le_refl _) _
  have r1 : Row W w.heap.size 80 (cnA C.st r (.slice a n c) C.said) := by rw [hW]; exact alloc_new _ _
  have HP : Hid (PC W w.heap.size b C) := ⟨r, a, n, c, r1, h2, h3.below b1, fun h0 g o e => by have := h3.lt h0 e; omega, h4⟩
  have HQ := hide (H.out.below b1)
  have B1 := hide b1
  have HS : Hid (W.heap.size = w.heap.size + 1) := by show _ = _; rw [hW]; simp
  have HW : Hid (w.alloc (.cells #[.bool true, .int .i64 (C.st : Nat), .string r.m, .int .u8 (r.x0 : Nat), .int .u8 (r.x1 : Nat), .int .u8 (r.x2 : Nat), .int .u8 (r.x3 : Nat), .string r.s, .int .i64 (r.p : Nat), .string r.t, .slice a n c, .int .i64 C.said] 80) = W) := hW.symm
  clear h1 h2 h3 h4 h5 hW b1 r1
  go_enter Tryz.func19, Tryz.ntmps19
  go_wp2_with fail
  refine HM.out.mono ?_
  rintro e w1 ⟨rfl, rfl⟩
  go_wp2_with fail
  go_ret
  rw [HW.out]
  exact ⟨rfl, HP.out, HQ.out, B1.out, HS.out⟩
/-- A request that was read, by letters. -/
theorem request_rc {l : List Nat} (h : (request l).2.2 = .ok) : ∃ r : Rc, Rc.of (request l).1.1 r ∧ r.Ok ∧ Fit (request l).1.2 := by
  obtain ⟨h1, ⟨x0, x1, x2, x3, n, p, hd, ha, hc, hp1, hp2⟩, h3⟩ := request_parts h
  obtain ⟨hm1, hm2, hm3⟩ := tok_parts h1
  obtain ⟨hn1, hn2⟩ := chk_name hc
  have ht : (request l).1.1.2.2.length ≤ 2048 ∧ ∀ x ∈ (request l).1.1.2.2, x < 256 := by
    rcases h3 with ⟨_, h⟩ | ⟨_, h⟩
    · rw [h]; simp
    · obtain ⟨_, h5, h6⟩ := path_parts h
      exact ⟨h5, fun x hx => by have := h6 x hx; omega⟩
  have hmb : ∀ x ∈ (request l).1.1.1, x < 256 := fun x hx => by have := hm3 x hx; omega
  refine ⟨⟨strN (request l).1.1.1, x0, x1, x2, x3, strN n, p, strN (request l).1.1.2.2⟩, ?_, ?_, request_ok l⟩
  · unfold Rc.of
    simp only [byt_strN _ hmb, byt_strN _ hn2, byt_strN _ ht.2, ← hd]
  · exact ⟨ha.1, ha.2.1, ha.2.2.1, ha.2.2.2, by rw [strN_size]; omega, hp2, by rw [strN_size]; omega, by rw [strN_size]; omega⟩
theorem fresh_new : Cn.new = ⟨0, noR, [], 0⟩ := rfl
set_option maxRecDepth 100000 in
set_option maxHeartbeats 1000000 in
theorem add_at (w0 : World) (b x : Nat) (C : Cn) (a : Option Addr) (n c : Nat) (l : List Nat) (w : World) (h : PC w b x C) (hs : Src w a n c l) (he : Env w0 w b) (hC : C.st = 0 → C = Cn.new) (hx : x < w.heap.size) :
    Calls Tryz.prog 11 #[.pointer (some ⟨b, 0, none⟩), .slice a n c] w fun e w' => e = .returned (.int .i64 ((addC C l).2 : Nat)) ∧ PC w' b x (addC C l).1 ∧ Kept b b w w' := by
  have H := hide h
  obtain ⟨r, sa, sn, sc, h1, h2, h3, h4, h5⟩ := h
  have HM := hide (isMade_at b w (h1.cell 0))
  have c1 : w.cell? ⟨b, 1, none⟩ = some (.int .i64 (C.st : Nat)) := h1.cell 1
  by_cases hst : C.st = 0
  · have hCn := hC hst
    subst hCn
    have HRQ := hide (request2_at a n c l w hs he.V he.E)
    have HAD : Hid (addC Cn.new l = readC l) := by show _ = _; unfold addC; rw [if_pos hst]
    have HRD : Hid (readC l = if is6 (request l).2.2 = true then (Cn.new, 0) else if (request l).2.2 ≠ .ok then (ansC 400, l.length) else (takeC (request l).1, (request l).2.1)) := rfl
    have HNL : Hid (l.length = n) := hs.hlen
    have HRR : Hid ((request l).2.2 = .ok → ∃ r : Rc, Rc.of (request l).1.1 r ∧ r.Ok ∧ Fit (request l).1.2) := request_rc
    obtain ⟨Q, hQ⟩ : ∃ Q, Q = request l := ⟨_, rfl⟩
    rw [← hQ] at HRQ HRD HRR
    obtain ⟨m, x0, x1, x2, x3, s, p, t, hrow⟩ := request_row l
    rw [← hQ] at hrow
    rw [HAD.out]
    obtain ⟨⟨q, fs⟩, N, E⟩ := Q
    simp only at HRQ HRD HRR hrow
    simp only [hrow] at HRQ
    have HROW := hide hrow
    have HE := hide he
    have HH := hide h1
    have HX := hide hx
    have c1' : w.cell? ⟨b, 1, none⟩ = some (.int .i64 0) := c1
    have HOK : Hid (E ≠ .ok → is6 E = false → readC l = (ansC 400, n)) := fun h6 h7 => by
      rw [HRD.out, if_neg (by simp [h7]), if_pos h6, HNL.out]
    have HSH : Hid (is6 E = true → readC l = (Cn.new, 0)) := fun h6 => by rw [HRD.out, if_pos h6]
    have HTK : Hid (E = .ok → readC l = (takeC (q, fs), N)) := fun h6 => by rw [HRD.out, if_neg (by rw [h6]; decide), if_neg (by simp [h6])]
    obtain ⟨D, hD⟩ : ∃ D, D = readC l := ⟨_, rfl⟩
    rw [← hD] at HOK HSH HTK ⊢
    clear hrow hQ HAD h1 h2 h3 h4 h5 hst he hs hC hx c1 hD HRD HNL
    go_enter Tryz.func11, Tryz.ntmps11
    go_wp2_with fail
    refine HM.out.mono ?_
    rintro e w1 ⟨rfl, rfl⟩
    go_wp2_with fail
    refine HRQ.out.mono ?_
    rintro e w2 ⟨ad, cap, v, rfl, hsf, hih, k2, hfr⟩
    obtain ⟨fn, hfn⟩ : ∃ fn, fn = fs.length := ⟨_, rfl⟩
    rw [← hfn] at hsf ⊢
    obtain ⟨W3, hW3⟩ : ∃ W3, W3 = w2.alloc (.cells #[.string m, .int .u8 (x0 : Nat), .int .u8 (x1 : Nat), .int .u8 (x2 : Nat), .int .u8 (x3 : Nat), .string s, .int .i64 (p : Nat), .string t, .slice ad fn cap] 34) := ⟨_, rfl⟩
    have b3 : Below w2.heap.size w2 W3 := by rw [hW3]; exact (Below.refl _ _).alloc (Nat.le_refl _) _
    have b13 : Below w.heap.size w W3 := k2.trans (b3.mono k2.size)
    obtain ⟨G, hG⟩ : ∃ G, G = w2.heap.size := ⟨_, rfl⟩
    have g3 : W3.heap[G]? = some (.cells #[.string m, .int .u8 (x0 : Nat), .int .u8 (x1 : Nat), .int .u8 (x2 : Nat), .int .u8 (x3 : Nat), .string s, .int .i64 (p : Nat), .string t, .slice ad fn cap] 34) := by rw [hW3, hG]; exact alloc_new _ _
    have HIS := hide (is6_at E v W3 (hih.below b3))
    have r3 : Row W3 b 80 (cnA Cn.new.st r (.slice sa sn sc) Cn.new.said) := HH.out.below b13 HH.out.lt
    have R3 := hide r3
    have S3 := hide (hsf.below b3)
    have K3 : Hid (Kept b b w W3) := Kept.of_below b13
    have E3 := hide (HE.out.kept K3.out)
    have HW3 := hide hW3.symm
    have HG := hide hG.symm
    have hbf : b < w.heap.size := HH.out.lt
    have HOF : Hid (OffF ad fn b ∧ OffF ad fn x) := ⟨fun _ g o e => by have := hfr g o e; omega, fun _ g o e => by have := hfr g o e; have := HX.out; omega⟩
    have HB := hide hbf
    have HP3 : Hid (PC W3 b x Cn.new) := H.out.below b13
    have HFN := hide hfn
    cases h6 : is6 E with
    | true =>
      have HD2 := hide (HSH.out h6)
      rw [h6] at HIS
      clear h6 hsf hih k2 hfr hW3 b3 b13 hG g3 r3 hbf hfn HRQ HOK HSH HTK HRR
      go_wp2_with (first | (rw [HW3.out]))
      try (rw [HW3.out]; go_wp2_with fail)
      refine HIS.out.mono ?_
      rintro e w4 ⟨rfl, rfl⟩
      go_wp2_with fail
      go_ret
      rw [HD2.out]
      exact ⟨rfl, HP3.out, K3.out⟩
    | false =>
      rw [h6] at HIS
      by_cases hok : E = .ok
      · have HD2 := hide (HTK.out hok)
        subst hok
        obtain rfl : v = .nilIface := hih
        obtain ⟨rr, hrr, hrok, hfit⟩ := HRR.out rfl
        have hrw := (HROW.out (.slice ad fn cap)).symm.trans (Rc.of_rqC hrr _)
        have g3' : W3.heap[G]? = some (.cells (rr.arr (.slice ad fn cap)) 34) := by rw [← hrw]; exact g3
        have HTA := hide (take_at b x r rr (.slice sa sn sc) ad fn cap fs W3 r3 hrok S3.out hfit HOF.out E3.out.V E3.out.P)
        have HQQ : Hid (((byt rr.m, rr.de, byt rr.t), fs) = (q, fs)) := by show _ = _; rw [show q = (byt rr.m, rr.de, byt rr.t) from hrr]
        rw [HQQ.out] at HTA
        rw [← hrw] at HTA
        have e0 : W3.cell? ⟨G, 0, none⟩ = some (.string m) := by simp [World.cell?, g3]
        have e1 : W3.cell? ⟨G, 1, none⟩ = some (.int .u8 (x0 : Nat)) := by simp [World.cell?, g3]
        have e2 : W3.cell? ⟨G, 2, none⟩ = some (.int .u8 (x1 : Nat)) := by simp [World.cell?, g3]
        have e3 : W3.cell? ⟨G, 3, none⟩ = some (.int .u8 (x2 : Nat)) := by simp [World.cell?, g3]
        have e4 : W3.cell? ⟨G, 4, none⟩ = some (.int .u8 (x3 : Nat)) := by simp [World.cell?, g3]
        have e5 : W3.cell? ⟨G, 5, none⟩ = some (.string s) := by simp [World.cell?, g3]
        have e6 : W3.cell? ⟨G, 6, none⟩ = some (.int .i64 (p : Nat)) := by simp [World.cell?, g3]
        have e7 : W3.cell? ⟨G, 7, none⟩ = some (.string t) := by simp [World.cell?, g3]
        have e8 : W3.cell? ⟨G, 8, none⟩ = some (.slice ad fn cap) := by simp [World.cell?, g3]
        have hnn : ∀ w, (binOp .neq 59 .nilIface .nilIface).run Tryz.prog w = .ok (.bool false) w := fun w => by kernel_rfl
        clear h6 hsf k2 hfr hW3 b3 b13 hG g3 r3 hbf hfn HRQ HOK HSH HTK HRR hrr hrok hfit hrw g3' HQQ
        go_wp2_with (first | (rw [HW3.out, HG.out]))
        try (rw [HW3.out, HG.out]; go_wp2_with fail)
        refine HIS.out.mono ?_
        rintro e w4 ⟨rfl, rfl⟩
        go_wp2_with fail
        refine HTA.out.mono ?_
        rintro e w5 ⟨rfl, p5, k5⟩
        go_wp2_with fail
        go_ret
        rw [HD2.out]
        exact ⟨rfl, p5, K3.out.trans k5⟩
      · have HD2 := hide (HOK.out hok h6)
        obtain ⟨b7, rfl⟩ : ∃ b7, v = .iface 145 (.pointer (some ⟨b7, 0, none⟩)) := by
          cases E with
          | ok => exact absurd rfl hok
          | one a c => obtain ⟨b7, hv, _⟩ := hih; exact ⟨b7, hv⟩
          | wr a e => obtain ⟨_, b7, u, hv, _⟩ := hih; exact ⟨b7, hv⟩
        have HAN := hide (answer_at b x _ 400 W3 r3 (by simp [cnA]))
        have hnn : ∀ w, (binOp .neq 59 (.iface 145 (.pointer (some ⟨b7, 0, none⟩))) .nilIface).run Tryz.prog w = .ok (.bool true) w := fun w => by kernel_rfl
        clear h6 hsf hih k2 hfr hW3 b3 b13 hG g3 r3 hbf hfn HRQ HOK HSH HTK HRR hok
        go_wp2_with (first | (rw [HW3.out, HG.out]))
        try (rw [HW3.out, HG.out]; go_wp2_with fail)
        refine HIS.out.mono ?_
        rintro e w4 ⟨rfl, rfl⟩
        go_wp2_with fail
        refine HAN.out.mono ?_
        rintro e w5 ⟨rfl, p5, k5⟩
        go_wp2_with fail
        go_ret
        rw [HD2.out]
        exact ⟨rfl, p5, K3.out.trans k5⟩
  · have HAD : Hid (addC C l = (C, 0)) := by show _ = _; unfold addC; rw [if_neg hst]
    have q : ((C.st : Int) != 0) = true := by simp; omega
    have q' : ((C.st : Int) == 0) = false := by simp; omega
    rw [HAD.out]
    clear h1 h2 h3 h4 h5 hst HAD hC
    go_enter Tryz.func11, Tryz.ntmps11
    go_wp2_with fail
    refine HM.out.mono ?_
    rintro e w1 ⟨rfl, rfl⟩
    go_wp2_with fail
    go_ret
    exact ⟨rfl, H.out, Kept.refl _ _ _⟩
end Go.Proofs.YtccoddmdlbdfjaaGreatDoor
