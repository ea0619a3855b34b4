/-
  ProxySays' walk: a connection says at most one own answer, and one that no call made says nothing; conditions as each theorem has them.
-/
import Derived.Test.YtccoddmdlbdfjaaGreatDoorSA
import Derived.Test.YtccoddmdlbdfjaaGreatDoorSB
import Derived.Test.YtccoddmdlbdfjaaGreatDoorSC
import Derived.Test.YtccoddmdlbdfjaaGreatDoorEB
set_option linter.unusedSimpArgs false
set_option linter.unusedVariables false
set_option linter.constructorNameAsVariable false
set_option maxRecDepth 100000
namespace Go.Proofs.YtccoddmdlbdfjaaGreatDoor
open Go.RowKit

/-- The connection, the one that no call made, and what was said. -/
structure SI (w W : World) (b1 b2 B : Nat) (C : Cn) (X : List Nat) (v : Value) : Prop where
  p : PC W b1 b1 C
  e : Env w W b1
  z : W.cell? ⟨b2, 0, none⟩ = some (.bool false)
  o : Own W B 5 v (nums .u8 X)
  lo : w.heap.size ≤ b1
  h1 : b1 < b2
  h2 : b2 < B
  hB : B ≤ W.heap.size
theorem SI.kept {w W W' : World} {b1 b2 B : Nat} {C C' : Cn} {X : List Nat} {v : Value} (h : SI w W b1 b2 B C X v) (k : Kept b1 b1 W W') (p : PC W' b1 b1 C') : SI w W' b1 b2 B C' X v := by
  have h1 := h.h1
  have h2 := h.h2
  have hB := h.hB
  have e := k.block b2 (by omega) (by omega) (by omega)
  refine ⟨p, h.e.kept k, by have := h.z; unfold World.cell? at this ⊢; simp only at this ⊢; rw [e]; exact this, h.o.keep fun g hg => ?_, h.lo, h1, h2, Nat.le_trans hB k.size⟩
  obtain ⟨hg1, cur, hg2⟩ := h.o.block hg
  exact k.block g (lt_of_some hg2) (by omega) (by omega)
theorem SI.app {w W W' : World} {b1 b2 B : Nat} {C : Cn} {X Y : List Nat} {v v' : Value} (h : SI w W b1 b2 B C X v) (hf : C.fs = []) (k : Below B W W') (o : Own W' B 5 v' (nums .u8 Y)) : SI w W' b1 b2 B C Y v' := by
  have h1 := h.h1
  have h2 := h.h2
  have hB := h.hB
  have lo := h.lo
  obtain ⟨r, a, n, c, g1, g2, g3, g4, g5⟩ := h.p
  have hn : n = 0 := by have := g3.hlen; rw [hf] at this; simpa using this.symm
  subst hn
  have e := k.block b2 h2
  exact ⟨⟨r, a, 0, c, g1.keep (k.block b1 (by omega)), g2, g3.keep (fun h0 => by omega) k.size, (fun h0 => by omega), (fun h0 => by omega)⟩,
    ⟨h.e.be.trans (k.mono (by omega)), h.e.hb, h.e.v, h.e.p, h.e.e⟩, by have := h.z; unfold World.cell? at this ⊢; simp only at this ⊢; rw [e]; exact this, o, lo, h1, h2, Nat.le_trans hB k.size⟩
theorem SI.bare {w W : World} {b1 b2 B : Nat} {C : Cn} {X : List Nat} {v : Value} (h : SI w W b1 b2 B C X v) : Bare W (some ⟨b2, 0, none⟩) := Or.inr ⟨b2, rfl, h.z⟩
theorem app_none {w : World} {B : Nat} {v : Value} {l : List Nat} (hown : Own w B 5 v (nums .u8 l)) : (Builtin.append_ #[35, 35] 35 #[v, .slice none 0 0]).run Tryz.prog w = .ok v w := by
  obtain ⟨i, hi, hz, hsz, hby⟩ := info5p
  exact run_append_owned_none (P := Tryz.prog) w B 35 35 5 i 1 Tryz.underlying35 hi v _ (nums .u8 l) hown

set_option maxHeartbeats 8000000 in
theorem says_walk (a : Option Addr) (len cap : Nat) (f : Nat → Ac) (w : World) (hE : E0 w) (hA : IsActs w a len cap f) : Calls Tryz.prog 7 #[.slice a len cap] w fun e w' => e = .returned (.bool true) ∧ Below w.heap.size w w' := by
  obtain ⟨hlc, hcm, hI⟩ := hA
  have HA := hide hI
  have HW := hide (works_at w hE)
  have HE := hide hE
  clear hI hE
  go_enter Tryz.func7, Tryz.ntmps7
  go_wp2_with fail
  refine HW.out.mono ?_
  rintro e w1 ⟨rfl, k1⟩
  have K1 := hide k1
  have HN := hide (new_at w1.heap.size w1)
  clear k1 HW
  go_wp2_with fail
  refine HN.out.mono ?_
  rintro e w2 ⟨rfl, p2, k2, z2⟩
  have hlo : w.heap.size ≤ w1.heap.size := K1.out.size
  have hz := zeroConn
  obtain ⟨w3, hw3⟩ : ∃ w3, w3 = w2.alloc (.cells #[.bool false, .int .i64 0, .string ⟨#[]⟩, .int .u8 0, .int .u8 0, .int .u8 0, .int .u8 0, .string ⟨#[]⟩, .int .i64 0, .string ⟨#[]⟩, .slice none 0 0, .int .i64 0] 80) := ⟨_, rfl⟩
  have k3 : Below w2.heap.size w2 w3 := by rw [hw3]; exact (Below.refl _ _).alloc (Nat.le_refl _) _
  have g3 : w3.heap[w2.heap.size]? = some (.cells #[.bool false, .int .i64 0, .string ⟨#[]⟩, .int .u8 0, .int .u8 0, .int .u8 0, .int .u8 0, .string ⟨#[]⟩, .int .i64 0, .string ⟨#[]⟩, .slice none 0 0, .int .i64 0] 80) := by rw [hw3]; exact alloc_new _ _
  have hs3 : w3.heap.size = w2.heap.size + 1 := by rw [hw3]; simp
  obtain ⟨w4, hw4⟩ : ∃ w4, w4 = w3.alloc (.cells #[] 5) := ⟨_, rfl⟩
  have k4 : Below w3.heap.size w3 w4 := by rw [hw4]; exact (Below.refl _ _).alloc (Nat.le_refl _) _
  have o4 : Own w4 w3.heap.size 5 (.slice (some ⟨w3.heap.size, 0, none⟩) 0 0) (nums .u8 []) := by rw [hw4]; exact own_new5 w3
  have S4 : Hid (SI w w4 w1.heap.size w2.heap.size w3.heap.size Cn.new [] (.slice (some ⟨w3.heap.size, 0, none⟩) 0 0)) := by
    have k24 := k3.trans (k4.mono k3.size)
    have e1 := K1.out.trans ((k2.trans (k24.mono k2.size)).mono K1.out.size)
    have g4 := keepB k4 g3
    exact ⟨p2.below k24, HE.out.env e1 hlo, by simp [World.cell?, g4], o4, hlo, by omega, by omega, k4.size⟩
  have HW3 := hide hw3.symm
  have HW4 := hide hw4.symm
  have HS3 := hide hs3
  have HZ2 := hide z2
  clear p2 k2 z2 hw3 k3 g3 hs3 hw4 k4 o4 HN
  obtain ⟨b1, hb1⟩ : ∃ b1, b1 = w1.heap.size := ⟨_, rfl⟩
  obtain ⟨b2, hb2⟩ : ∃ b2, b2 = w2.heap.size := ⟨_, rfl⟩
  obtain ⟨B, hB⟩ : ∃ B, B = w3.heap.size := ⟨_, rfl⟩
  rw [← hb1, ← hb2, ← hB] at S4
  rw [← hb1] at hlo ⊢
  have HB2 := hide hb2.symm
  have HB3 := hide hB.symm
  clear hb1 hb2 hB
  go_wp2_with (first | rw [HW3.out, HB2.out] | rw [HW4.out, HB3.out])
  try rw [HW3.out, HB2.out]
  try go_wp2_with fail
  try rw [HW4.out, HB3.out]
  try go_wp2_with fail
  clear hz
  go_loopw [6, 7] (fun v i_ wr => ∃ (i : Nat) (C : Cn) (X : List Nat), i_ = .int .i64 i ∧ i ≤ len ∧ Hid (SI w wr b1 b2 B C X v) ∧ Hid (Told C X)) (fun _ i _ => len - (intOf i).toNat)
  case atStart => exact ⟨0, Cn.new, [], rfl, Nat.zero_le _, S4, Told.new'⟩
  case round =>
    clear S4 HW3 HW4 HS3 HZ2 HB2 HB3
    obtain ⟨i, C, X, rfl, hi, HS, HT⟩ := hrel
    by_cases hil : i < len
    · have hd : decide ((i : Int) < (len : Int)) = true := decide_eq_true (by omega)
      obtain ⟨cb, co, rfl, hcb, hX⟩ := HA.out (by omega)
      have hx := (hX i hil).below HS.out.e.be hcb
      obtain ⟨x, hxx⟩ : ∃ x, x = f i := ⟨_, rfl⟩
      rw [← hxx] at hx
      have HX := hide hx.inn
      obtain ⟨xk, xc, ba, bn, bc, bs⟩ := x
      have e0 := hx.cell 0 _ rfl
      have e1 := hx.cell 1 _ rfl
      have e2 := hx.cell 2 _ rfl
      rw [Nat.add_zero] at e0
      simp only at e0 e1 e2
      clear hX hx hxx
      go_wp2_with fail
      refine (Among_at xk 4 (by omega) (by omega) _).mono ?_
      rintro e w5 ⟨k, hk, rfl, rfl⟩
      by_cases k0 : k = 0
      · have q0 : ((k : Int) == 0) = true := by simp; omega
        have HC := hide (add_at w b1 b1 C ba bn bc bs wr HS.out.p HX.out.sb HS.out.e HT.out.good.new (by have := HS.out.h1; have := HS.out.h2; have := HS.out.hB; omega))
        have HSY := hide (HT.out.add bs)
        obtain ⟨D, hD⟩ : ∃ D, D = (addC C bs).1 := ⟨_, rfl⟩
        rw [← hD] at HC HSY
        clear hD
        go_wp2_with fail
        refine HC.out.mono ?_
        rintro e w6 ⟨rfl, p6, k6⟩
        have S6 := hide (HS.out.kept k6 p6)
        clear p6 k6 HC HS HX HT e0 e1 e2
        rcases HSY.out.2 with ⟨h0, ht⟩ | ⟨rfl, c, hkn, hD⟩
        · have HO := hide (out_none_at b1 b1 D w6 S6.out.p h0)
          have T7 := hide ht.out
          clear ht h0 HSY
          go_wp2_with fail
          refine HO.out.mono ?_
          rintro e w7 ⟨rfl, p7, k7⟩
          have S7 := hide (S6.out.kept k7 p7)
          have HAP := hide (app_none S7.out.o)
          clear p7 k7 HO S6
          go_wp2_with (first | (refine wpList_app_run _ rfl _ _ 35 35 rfl _ _ rfl rfl HAP.out ?_))
          go_roundw
          case rel => exact ⟨i + 1, _, X, by go_num, by omega, S7, T7⟩
          case measure => simp [intOf] <;> omega
        · have HO := hide (out_at w b1 b1 D w6 S6.out.p S6.out.e)
          have T7 : Hid (Told (outC D) (own c)) := by rw [hD]; exact Told.ans c hkn
          have hsd : D.said = c := by rw [hD]; rfl
          have hfs : (outC D).fs = [] := by rw [hD]; rfl
          have hlen := (own_reply hkn).2.1
          rw [hsd] at HO
          clear hD HSY hsd
          go_wp2_with fail
          refine HO.out.mono ?_
          rintro e w7 ⟨oa, od, rfl, s7, p7, k7⟩
          have S7 := hide (S6.out.kept k7 p7)
          obtain ⟨v', w8, hap, o8, k8⟩ := run_app S7.out.o s7 (by simp only [List.length_nil]; omega) S7.out.hB
          rw [List.nil_append] at o8
          have S8 := hide (S7.out.app hfs k8 o8)
          have HAP := hide hap
          clear s7 p7 k7 HO S6 hap o8 k8 S7
          go_wp2_with (first | (refine wpList_app_run _ rfl _ _ 35 35 rfl _ _ rfl rfl HAP.out ?_))
          go_roundw
          case rel => exact ⟨i + 1, _, own c, by go_num, by omega, S8, T7⟩
          case measure => simp [intOf] <;> omega
      · have q0 : ((k : Int) == 0) = false := by simp; omega
        by_cases k1 : k = 1
        · have q1 : ((k : Int) == 1) = true := by simp; omega
          have HC := hide (add_at w b1 b1 C ba bn bc bs wr HS.out.p HX.out.sb HS.out.e HT.out.good.new (by have := HS.out.h1; have := HS.out.h2; have := HS.out.hB; omega))
          have HSY := hide (HT.out.add bs)
          obtain ⟨D, hD⟩ : ∃ D, D = (addC C bs).1 := ⟨_, rfl⟩
          rw [← hD] at HC HSY
          clear hD
          go_wp2_with fail
          refine HC.out.mono ?_
          rintro e w6 ⟨rfl, p6, k6⟩
          have S6 := hide (HS.out.kept k6 p6)
          clear p6 k6 HC HS HX HT e0 e1 e2
          rcases HSY.out.2 with ⟨h0, ht⟩ | ⟨rfl, c, hkn, hD⟩
          · have HO := hide (out_none_at b1 b1 D w6 S6.out.p h0)
            have T7 := hide ht.out
            clear ht h0 HSY
            go_wp2_with fail
            refine HO.out.mono ?_
            rintro e w7 ⟨rfl, p7, k7⟩
            have S7 := hide (S6.out.kept k7 p7)
            have HAP := hide (app_none S7.out.o)
            clear p7 k7 HO S6
            go_wp2_with (first | (refine wpList_app_run _ rfl _ _ 35 35 rfl _ _ rfl rfl HAP.out ?_))
            go_roundw
            case rel => exact ⟨i + 1, _, X, by go_num, by omega, S7, T7⟩
            case measure => simp [intOf] <;> omega
          · have HO := hide (out_at w b1 b1 D w6 S6.out.p S6.out.e)
            have T7 : Hid (Told (outC D) (own c)) := by rw [hD]; exact Told.ans c hkn
            have hsd : D.said = c := by rw [hD]; rfl
            have hfs : (outC D).fs = [] := by rw [hD]; rfl
            have hlen := (own_reply hkn).2.1
            rw [hsd] at HO
            clear hD HSY hsd
            go_wp2_with fail
            refine HO.out.mono ?_
            rintro e w7 ⟨oa, od, rfl, s7, p7, k7⟩
            have S7 := hide (S6.out.kept k7 p7)
            obtain ⟨v', w8, hap, o8, k8⟩ := run_app S7.out.o s7 (by simp only [List.length_nil]; omega) S7.out.hB
            rw [List.nil_append] at o8
            have S8 := hide (S7.out.app hfs k8 o8)
            have HAP := hide hap
            clear s7 p7 k7 HO S6 hap o8 k8 S7
            go_wp2_with (first | (refine wpList_app_run _ rfl _ _ 35 35 rfl _ _ rfl rfl HAP.out ?_))
            go_roundw
            case rel => exact ⟨i + 1, _, own c, by go_num, by omega, S8, T7⟩
            case measure => simp [intOf] <;> omega
        · have q1 : ((k : Int) == 1) = false := by simp; omega
          by_cases k2 : k = 2
          · have q2 : ((k : Int) == 2) = true := by simp; omega
            have HC := hide (tell_at b1 b1 C xc wr HS.out.p)
            have HSY := hide (HT.out.tell xc)
            obtain ⟨D, hD⟩ : ∃ D, D = (tellC C xc).1 := ⟨_, rfl⟩
            rw [← hD] at HC HSY
            clear hD
            go_wp2_with fail
            refine HC.out.mono ?_
            rintro e w6 ⟨rfl, p6, k6⟩
            have S6 := hide (HS.out.kept k6 p6)
            clear p6 k6 HC HS HX HT e0 e1 e2
            rcases HSY.out.2 with ⟨h0, ht⟩ | ⟨rfl, c, hkn, hD⟩
            · have HO := hide (out_none_at b1 b1 D w6 S6.out.p h0)
              have T7 := hide ht.out
              clear ht h0 HSY
              go_wp2_with fail
              refine HO.out.mono ?_
              rintro e w7 ⟨rfl, p7, k7⟩
              have S7 := hide (S6.out.kept k7 p7)
              have HAP := hide (app_none S7.out.o)
              clear p7 k7 HO S6
              go_wp2_with (first | (refine wpList_app_run _ rfl _ _ 35 35 rfl _ _ rfl rfl HAP.out ?_))
              go_roundw
              case rel => exact ⟨i + 1, _, X, by go_num, by omega, S7, T7⟩
              case measure => simp [intOf] <;> omega
            · have HO := hide (out_at w b1 b1 D w6 S6.out.p S6.out.e)
              have T7 : Hid (Told (outC D) (own c)) := by rw [hD]; exact Told.ans c hkn
              have hsd : D.said = c := by rw [hD]; rfl
              have hfs : (outC D).fs = [] := by rw [hD]; rfl
              have hlen := (own_reply hkn).2.1
              rw [hsd] at HO
              clear hD HSY hsd
              go_wp2_with fail
              refine HO.out.mono ?_
              rintro e w7 ⟨oa, od, rfl, s7, p7, k7⟩
              have S7 := hide (S6.out.kept k7 p7)
              obtain ⟨v', w8, hap, o8, k8⟩ := run_app S7.out.o s7 (by simp only [List.length_nil]; omega) S7.out.hB
              rw [List.nil_append] at o8
              have S8 := hide (S7.out.app hfs k8 o8)
              have HAP := hide hap
              clear s7 p7 k7 HO S6 hap o8 k8 S7
              go_wp2_with (first | (refine wpList_app_run _ rfl _ _ 35 35 rfl _ _ rfl rfl HAP.out ?_))
              go_roundw
              case rel => exact ⟨i + 1, _, own c, by go_num, by omega, S8, T7⟩
              case measure => simp [intOf] <;> omega
          · have q2 : ((k : Int) == 2) = false := by simp; omega
            have q3 : ((k : Int) == 3) = true := by simp; omega
            have HC := hide (pass_at b1 b1 C wr HS.out.p)
            have HSY := hide (HT.out.pass)
            obtain ⟨D, hD⟩ : ∃ D, D = (passC C).1 := ⟨_, rfl⟩
            rw [← hD] at HC HSY
            clear hD
            go_wp2_with fail
            refine HC.out.mono ?_
            rintro e w6 ⟨rfl, p6, k6⟩
            have S6 := hide (HS.out.kept k6 p6)
            clear p6 k6 HC HS HX HT e0 e1 e2
            rcases HSY.out.2 with ⟨h0, ht⟩ | ⟨rfl, c, hkn, hD⟩
            · have HO := hide (out_none_at b1 b1 D w6 S6.out.p h0)
              have T7 := hide ht.out
              clear ht h0 HSY
              go_wp2_with fail
              refine HO.out.mono ?_
              rintro e w7 ⟨rfl, p7, k7⟩
              have S7 := hide (S6.out.kept k7 p7)
              have HAP := hide (app_none S7.out.o)
              clear p7 k7 HO S6
              go_wp2_with (first | (refine wpList_app_run _ rfl _ _ 35 35 rfl _ _ rfl rfl HAP.out ?_))
              go_roundw
              case rel => exact ⟨i + 1, _, X, by go_num, by omega, S7, T7⟩
              case measure => simp [intOf] <;> omega
            · have HO := hide (out_at w b1 b1 D w6 S6.out.p S6.out.e)
              have T7 : Hid (Told (outC D) (own c)) := by rw [hD]; exact Told.ans c hkn
              have hsd : D.said = c := by rw [hD]; rfl
              have hfs : (outC D).fs = [] := by rw [hD]; rfl
              have hlen := (own_reply hkn).2.1
              rw [hsd] at HO
              clear hD HSY hsd
              go_wp2_with fail
              refine HO.out.mono ?_
              rintro e w7 ⟨oa, od, rfl, s7, p7, k7⟩
              have S7 := hide (S6.out.kept k7 p7)
              obtain ⟨v', w8, hap, o8, k8⟩ := run_app S7.out.o s7 (by simp only [List.length_nil]; omega) S7.out.hB
              rw [List.nil_append] at o8
              have S8 := hide (S7.out.app hfs k8 o8)
              have HAP := hide hap
              clear s7 p7 k7 HO S6 hap o8 k8 S7
              go_wp2_with (first | (refine wpList_app_run _ rfl _ _ 35 35 rfl _ _ rfl rfl HAP.out ?_))
              go_roundw
              case rel => exact ⟨i + 1, _, own c, by go_num, by omega, S8, T7⟩
              case measure => simp [intOf] <;> omega
    · obtain rfl : i = len := by omega
      have hd : decide ((i : Int) < (i : Int)) = false := decide_eq_false (by omega)
      have HSD := hide HT.out.said
      obtain ⟨x9, c9, rfl, s9, _⟩ := own_src HS.out.o (by rcases HT.out.said with h | ⟨c, _, h, _⟩ <;> rw [h]; (intro x hx; simp at hx); exact own_lt c)
      have S9 := hide s9
      clear s9 HA
      rcases HSD.out with rfl | ⟨c, hk, rfl, hst⟩
      · have q1 : decide ((0 : Int) < (0 : Int)) = false := by decide
        obtain ⟨W, hW⟩ : ∃ W, W = wr := ⟨_, rfl⟩
        rw [← hW] at HS S9 ⊢
        clear hW
        simp only [List.length_nil]
        have BEa := hide HS.out.e.be
        have Za := hide HS.out.bare
        have HWZ := hide (wants_bare (some ⟨b2, 0, none⟩) _ Za.out)
        go_wp2_with fail
        refine HWZ.out.mono ?_
        rintro e wa ⟨rfl, ka⟩
        obtain ⟨Wb, hWb⟩ : ∃ W, W = wa.alloc (.cells #[.string ⟨#[]⟩, .int .u8 0, .int .u8 0, .int .u8 0, .int .u8 0, .string ⟨#[]⟩, .int .i64 0, .string ⟨#[]⟩, .slice none 0 0] 34) := ⟨_, rfl⟩
        have kb : Below wa.heap.size wa Wb := by rw [hWb]; exact (Below.refl _ _).alloc (Nat.le_refl _) _
        have kab := ka.trans (kb.mono ka.size)
        have BEb := hide (BEa.out.trans (kab.mono BEa.out.size))
        have Zb := hide (Za.out.below kab)
        have HWb : Hid (wa.alloc (.cells #[.string ⟨#[]⟩, .int .u8 0, .int .u8 0, .int .u8 0, .int .u8 0, .string ⟨#[]⟩, .int .i64 0, .string ⟨#[]⟩, .slice none 0 0] 34) = Wb) := hWb.symm
        have HWN := hide (wants_bare none Wb (Or.inl rfl))
        clear ka kb kab hWb HWZ BEa Za
        go_wp2_with fail
        rw [HWb.out]
        refine HWN.out.mono ?_
        rintro e wc ⟨rfl, kc⟩
        obtain ⟨Wd, hWd⟩ : ∃ W, W = wc.alloc (.cells #[.string ⟨#[]⟩, .int .u8 0, .int .u8 0, .int .u8 0, .int .u8 0, .string ⟨#[]⟩, .int .i64 0, .string ⟨#[]⟩, .slice none 0 0] 34) := ⟨_, rfl⟩
        have kd : Below wc.heap.size wc Wd := by rw [hWd]; exact (Below.refl _ _).alloc (Nat.le_refl _) _
        obtain ⟨We, hWe⟩ : ∃ W, W = Wd.alloc (.cells #[.int .u8 120, .int .u8 13, .int .u8 10, .int .u8 13, .int .u8 10] 5 (5, 6)) := ⟨_, rfl⟩
        have hcv : (convert 35 35 (.slice (some ⟨Wd.heap.size, 0, none⟩) 5 5)).run Tryz.prog (Wd.alloc (.cells #[.int .u8 120, .int .u8 13, .int .u8 10, .int .u8 13, .int .u8 10] 5)) = .ok (.slice (some ⟨Wd.heap.size, 0, none⟩) 5 5) We := by rw [hWe]; exact Lib.run_convert_bytes_const (P := Tryz.prog) Wd 35 5 _ 5 5 Tryz.underlying35 Tryz.underlying5
        rw [show Wd.heap.size = wc.heap.size + 1 by rw [hWd]; simp, hWd] at hcv
        have ke : Below Wd.heap.size Wd We := by rw [hWe]; exact (Below.refl _ _).alloc (Nat.le_refl _) _
        have kce := (kc.trans (kd.mono kc.size)).trans (ke.mono (Nat.le_trans kc.size kd.size))
        have BEe := hide (BEb.out.trans (kce.mono BEb.out.size))
        have Ze := hide (Zb.out.below kce)
        have HWd : Hid (wc.alloc (.cells #[.string ⟨#[]⟩, .int .u8 0, .int .u8 0, .int .u8 0, .int .u8 0, .string ⟨#[]⟩, .int .i64 0, .string ⟨#[]⟩, .slice none 0 0] 34) = Wd) := hWd.symm
        have Zn : Hid (Bare We none) := Or.inl rfl
        clear kc kd ke kce hWd hWe HWN BEb Zb
        go_wp2_with fail
        clear hcv
        refine (add_bare (some ⟨b2, 0, none⟩) _ _ _ We Ze.out).mono ?_
        rintro e _ ⟨rfl, rfl⟩
        go_wp2_with fail
        refine (add_bare none _ _ _ We Zn.out).mono ?_
        rintro e _ ⟨rfl, rfl⟩
        go_wp2_with fail
        refine (tell_bare (some ⟨b2, 0, none⟩) 200 We Ze.out).mono ?_
        rintro e _ ⟨rfl, rfl⟩
        go_wp2_with fail
        refine (tell_bare none 200 We Zn.out).mono ?_
        rintro e _ ⟨rfl, rfl⟩
        go_wp2_with fail
        refine (pass_bare (some ⟨b2, 0, none⟩)  We Ze.out).mono ?_
        rintro e _ ⟨rfl, rfl⟩
        go_wp2_with fail
        refine (pass_bare none  We Zn.out).mono ?_
        rintro e _ ⟨rfl, rfl⟩
        go_wp2_with fail
        refine (out_bare (some ⟨b2, 0, none⟩)  We Ze.out).mono ?_
        rintro e _ ⟨rfl, rfl⟩
        go_wp2_with fail
        refine (out_bare none  We Zn.out).mono ?_
        rintro e _ ⟨rfl, rfl⟩
        go_wp2_with fail
        refine (sends_bare (some ⟨b2, 0, none⟩)  We Ze.out).mono ?_
        rintro e _ ⟨rfl, rfl⟩
        go_wp2_with fail
        refine (sends_bare none  We Zn.out).mono ?_
        rintro e _ ⟨rfl, rfl⟩
        go_wp2_with fail
        refine (state_bare (some ⟨b2, 0, none⟩)  We Ze.out).mono ?_
        rintro e _ ⟨rfl, rfl⟩
        go_wp2_with fail
        refine (state_bare none  We Zn.out).mono ?_
        rintro e _ ⟨rfl, rfl⟩
        go_wp2_with fail
        refine (clone_bare (some ⟨b2, 0, none⟩)  We Ze.out).mono ?_
        rintro e _ ⟨rfl, rfl⟩
        go_wp2_with fail
        refine (clone_bare none  We Zn.out).mono ?_
        rintro e _ ⟨rfl, rfl⟩
        go_wp2_with fail
        go_ret
        exact ⟨rfl, BEe.out⟩
      · have HP := hide (own_reply hk).1
        have HL := hide (own_reply hk).2.1
        have hne := (own_reply hk).2.2.1
        have hpos : 0 < (own c).length := List.length_pos_iff.2 hne
        have HOA : Hid (∀ W, Below w.heap.size w W → Calls Tryz.prog 21 #[.int .i64 c] W fun e w' => ∃ a d, e = .returned (.slice a (own c).length d) ∧ Src w' a (own c).length d (own c) ∧ Below W.heap.size W w') := fun W k => own_at c W (HE.out.p.below k)
        obtain ⟨O, hO⟩ : ∃ O, O = own c := ⟨_, rfl⟩
        rw [← hO] at HS S9 HP HL HOA hpos ⊢
        have HRP : Hid (Calls Tryz.prog 34 #[.slice x9 O.length c9] wr fun e w' => ∃ ad cap, e = .returned (.tuple #[.agg #[.int .i64 c, .string (strN (rsn c)), .slice ad (ownF c).length cap], .int .i64 (O.length : Nat), .nilIface]) ∧ Below wr.heap.size wr w') := by
          refine (reply_at x9 O.length c9 O wr S9.out HS.out.e.V HS.out.e.E).mono fun e w' ⟨ad, cap, v, he, h1, h2, h3⟩ => ?_
          rw [HP.out] at he h1 h2
          obtain rfl : v = .nilIface := h2
          refine ⟨ad, cap, ?_, h3⟩
          rw [he]
          unfold ryC
          rw [show ((c.toNat : Nat) : Int) = c by rcases hk with rfl | rfl | rfl | rfl | rfl | rfl | rfl <;> rfl]
        obtain ⟨R, hR⟩ : ∃ R, R = strN (rsn c) := ⟨_, rfl⟩
        obtain ⟨L, hL⟩ : ∃ L, L = (ownF c).length := ⟨_, rfl⟩
        rw [← hR, ← hL] at HRP
        have q1 : decide ((0 : Int) < (O.length : Int)) = true := decide_eq_true (by omega)
        have q1' : decide (0 < O.length) = true := decide_eq_true (by omega)
        have q2 : ((O.length : Int) != (O.length : Int)) = false := by simp
        have hnn : ∀ w, (binOp .neq 59 .nilIface .nilIface).run Tryz.prog w = .ok (.bool false) w := fun w => by kernel_rfl
        obtain ⟨on, hon⟩ : ∃ on, on = O.length := ⟨_, rfl⟩
        rw [← hon] at HS S9 HRP HOA q1 q1' q2 ⊢
        have HST := hide hst
        clear HP HL hne hpos hR hL hO hst hon
        go_wp2_with fail
        refine HRP.out.mono ?_
        rintro e w10 ⟨ad, ac, rfl, k10⟩
        obtain ⟨G, hG⟩ : ∃ G, G = w10.heap.size := ⟨_, rfl⟩
        obtain ⟨W11, hW11⟩ : ∃ W, W = w10.alloc (.cells #[.int .i64 c, .string R, .slice ad L ac] 73) := ⟨_, rfl⟩
        have b11 : Below w10.heap.size w10 W11 := by rw [hW11]; exact (Below.refl _ _).alloc (Nat.le_refl _) _
        have g11 : W11.heap[G]? = some (.cells #[.int .i64 c, .string R, .slice ad L ac] 73) := by rw [hW11, hG]; exact alloc_new _ _
        have e11 : W11.cell? ⟨G, 0, none⟩ = some (.int .i64 c) := by simp [World.cell?, g11]
        have b911 := k10.trans (b11.mono k10.size)
        have BE : Hid (Below w.heap.size w W11) := HS.out.e.be.trans (b911.mono HS.out.e.be.size)
        have HOW := hide (HOA.out W11 BE.out)
        have S11 := hide (S9.out.below b911)
        have P11 := hide (HS.out.p.below b911)
        have Z11 := hide (HS.out.bare.below b911)
        have HG := hide hG.symm
        have HW11 : Hid (w10.alloc (.cells #[.int .i64 c, .string R, .slice ad L ac] 73) = W11) := hW11.symm
        clear k10 b11 hG hW11 b911 HRP HS S9 HOA g11
        go_wp2_with (first | rw [HW11.out, HG.out])
        try rw [HW11.out, HG.out]
        try go_wp2_with fail
        refine HOW.out.mono ?_
        rintro e w12 ⟨oa, od, rfl, s12, k12⟩
        have HSB := hide (same_bytes w12 x9 oa on c9 on od O (S11.out.below k12) s12)
        have BE12 : Hid (Below w.heap.size w w12) := BE.out.trans (k12.mono BE.out.size)
        have P12 := hide (P11.out.below k12)
        have Z12 := hide (Z11.out.below k12)
        clear s12 k12 HOW S11 P11 Z11 BE e11
        go_wp2_with fail
        refine HSB.out.mono ?_
        rintro e W ⟨rfl, rfl⟩
        have HSA := hide (state_at b1 b1 C w12 P12.out)
        obtain ⟨st, hs⟩ : ∃ st, st = C.st := ⟨_, rfl⟩
        rw [← hs] at HSA HST
        clear hs HSB
        go_wp2_with fail
        refine HSA.out.mono ?_
        rintro e W ⟨rfl, rfl⟩
        by_cases h5 : st = 5
        · have q5 : ((st : Int) != 5) = false := by simp; omega
          have BEa := hide BE12.out
          have Za := hide Z12.out
          have HWZ := hide (wants_bare (some ⟨b2, 0, none⟩) _ Za.out)
          go_wp2_with fail
          refine HWZ.out.mono ?_
          rintro e wa ⟨rfl, ka⟩
          obtain ⟨Wb, hWb⟩ : ∃ W, W = wa.alloc (.cells #[.string ⟨#[]⟩, .int .u8 0, .int .u8 0, .int .u8 0, .int .u8 0, .string ⟨#[]⟩, .int .i64 0, .string ⟨#[]⟩, .slice none 0 0] 34) := ⟨_, rfl⟩
          have kb : Below wa.heap.size wa Wb := by rw [hWb]; exact (Below.refl _ _).alloc (Nat.le_refl _) _
          have kab := ka.trans (kb.mono ka.size)
          have BEb := hide (BEa.out.trans (kab.mono BEa.out.size))
          have Zb := hide (Za.out.below kab)
          have HWb : Hid (wa.alloc (.cells #[.string ⟨#[]⟩, .int .u8 0, .int .u8 0, .int .u8 0, .int .u8 0, .string ⟨#[]⟩, .int .i64 0, .string ⟨#[]⟩, .slice none 0 0] 34) = Wb) := hWb.symm
          have HWN := hide (wants_bare none Wb (Or.inl rfl))
          clear ka kb kab hWb HWZ BEa Za
          go_wp2_with fail
          rw [HWb.out]
          refine HWN.out.mono ?_
          rintro e wc ⟨rfl, kc⟩
          obtain ⟨Wd, hWd⟩ : ∃ W, W = wc.alloc (.cells #[.string ⟨#[]⟩, .int .u8 0, .int .u8 0, .int .u8 0, .int .u8 0, .string ⟨#[]⟩, .int .i64 0, .string ⟨#[]⟩, .slice none 0 0] 34) := ⟨_, rfl⟩
          have kd : Below wc.heap.size wc Wd := by rw [hWd]; exact (Below.refl _ _).alloc (Nat.le_refl _) _
          obtain ⟨We, hWe⟩ : ∃ W, W = Wd.alloc (.cells #[.int .u8 120, .int .u8 13, .int .u8 10, .int .u8 13, .int .u8 10] 5 (5, 6)) := ⟨_, rfl⟩
          have hcv : (convert 35 35 (.slice (some ⟨Wd.heap.size, 0, none⟩) 5 5)).run Tryz.prog (Wd.alloc (.cells #[.int .u8 120, .int .u8 13, .int .u8 10, .int .u8 13, .int .u8 10] 5)) = .ok (.slice (some ⟨Wd.heap.size, 0, none⟩) 5 5) We := by rw [hWe]; exact Lib.run_convert_bytes_const (P := Tryz.prog) Wd 35 5 _ 5 5 Tryz.underlying35 Tryz.underlying5
          rw [show Wd.heap.size = wc.heap.size + 1 by rw [hWd]; simp, hWd] at hcv
          have ke : Below Wd.heap.size Wd We := by rw [hWe]; exact (Below.refl _ _).alloc (Nat.le_refl _) _
          have kce := (kc.trans (kd.mono kc.size)).trans (ke.mono (Nat.le_trans kc.size kd.size))
          have BEe := hide (BEb.out.trans (kce.mono BEb.out.size))
          have Ze := hide (Zb.out.below kce)
          have HWd : Hid (wc.alloc (.cells #[.string ⟨#[]⟩, .int .u8 0, .int .u8 0, .int .u8 0, .int .u8 0, .string ⟨#[]⟩, .int .i64 0, .string ⟨#[]⟩, .slice none 0 0] 34) = Wd) := hWd.symm
          have Zn : Hid (Bare We none) := Or.inl rfl
          clear kc kd ke kce hWd hWe HWN BEb Zb
          go_wp2_with fail
          clear hcv
          refine (add_bare (some ⟨b2, 0, none⟩) _ _ _ We Ze.out).mono ?_
          rintro e _ ⟨rfl, rfl⟩
          go_wp2_with fail
          refine (add_bare none _ _ _ We Zn.out).mono ?_
          rintro e _ ⟨rfl, rfl⟩
          go_wp2_with fail
          refine (tell_bare (some ⟨b2, 0, none⟩) 200 We Ze.out).mono ?_
          rintro e _ ⟨rfl, rfl⟩
          go_wp2_with fail
          refine (tell_bare none 200 We Zn.out).mono ?_
          rintro e _ ⟨rfl, rfl⟩
          go_wp2_with fail
          refine (pass_bare (some ⟨b2, 0, none⟩)  We Ze.out).mono ?_
          rintro e _ ⟨rfl, rfl⟩
          go_wp2_with fail
          refine (pass_bare none  We Zn.out).mono ?_
          rintro e _ ⟨rfl, rfl⟩
          go_wp2_with fail
          refine (out_bare (some ⟨b2, 0, none⟩)  We Ze.out).mono ?_
          rintro e _ ⟨rfl, rfl⟩
          go_wp2_with fail
          refine (out_bare none  We Zn.out).mono ?_
          rintro e _ ⟨rfl, rfl⟩
          go_wp2_with fail
          refine (sends_bare (some ⟨b2, 0, none⟩)  We Ze.out).mono ?_
          rintro e _ ⟨rfl, rfl⟩
          go_wp2_with fail
          refine (sends_bare none  We Zn.out).mono ?_
          rintro e _ ⟨rfl, rfl⟩
          go_wp2_with fail
          refine (state_bare (some ⟨b2, 0, none⟩)  We Ze.out).mono ?_
          rintro e _ ⟨rfl, rfl⟩
          go_wp2_with fail
          refine (state_bare none  We Zn.out).mono ?_
          rintro e _ ⟨rfl, rfl⟩
          go_wp2_with fail
          refine (clone_bare (some ⟨b2, 0, none⟩)  We Ze.out).mono ?_
          rintro e _ ⟨rfl, rfl⟩
          go_wp2_with fail
          refine (clone_bare none  We Zn.out).mono ?_
          rintro e _ ⟨rfl, rfl⟩
          go_wp2_with fail
          go_ret
          exact ⟨rfl, BEe.out⟩
        · have h3 : st = 3 := by rcases HST.out with h | h <;> omega
          have q5 : ((st : Int) != 5) = true := by simp; omega
          have q6 : ((st : Int) != 3) = false := by simp; omega
          go_wp2_with fail
          refine HSA.out.mono ?_
          rintro e W ⟨rfl, rfl⟩
          have BEa := hide BE12.out
          have Za := hide Z12.out
          have HWZ := hide (wants_bare (some ⟨b2, 0, none⟩) _ Za.out)
          go_wp2_with fail
          refine HWZ.out.mono ?_
          rintro e wa ⟨rfl, ka⟩
          obtain ⟨Wb, hWb⟩ : ∃ W, W = wa.alloc (.cells #[.string ⟨#[]⟩, .int .u8 0, .int .u8 0, .int .u8 0, .int .u8 0, .string ⟨#[]⟩, .int .i64 0, .string ⟨#[]⟩, .slice none 0 0] 34) := ⟨_, rfl⟩
          have kb : Below wa.heap.size wa Wb := by rw [hWb]; exact (Below.refl _ _).alloc (Nat.le_refl _) _
          have kab := ka.trans (kb.mono ka.size)
          have BEb := hide (BEa.out.trans (kab.mono BEa.out.size))
          have Zb := hide (Za.out.below kab)
          have HWb : Hid (wa.alloc (.cells #[.string ⟨#[]⟩, .int .u8 0, .int .u8 0, .int .u8 0, .int .u8 0, .string ⟨#[]⟩, .int .i64 0, .string ⟨#[]⟩, .slice none 0 0] 34) = Wb) := hWb.symm
          have HWN := hide (wants_bare none Wb (Or.inl rfl))
          clear ka kb kab hWb HWZ BEa Za
          go_wp2_with fail
          rw [HWb.out]
          refine HWN.out.mono ?_
          rintro e wc ⟨rfl, kc⟩
          obtain ⟨Wd, hWd⟩ : ∃ W, W = wc.alloc (.cells #[.string ⟨#[]⟩, .int .u8 0, .int .u8 0, .int .u8 0, .int .u8 0, .string ⟨#[]⟩, .int .i64 0, .string ⟨#[]⟩, .slice none 0 0] 34) := ⟨_, rfl⟩
          have kd : Below wc.heap.size wc Wd := by rw [hWd]; exact (Below.refl _ _).alloc (Nat.le_refl _) _
          obtain ⟨We, hWe⟩ : ∃ W, W = Wd.alloc (.cells #[.int .u8 120, .int .u8 13, .int .u8 10, .int .u8 13, .int .u8 10] 5 (5, 6)) := ⟨_, rfl⟩
          have hcv : (convert 35 35 (.slice (some ⟨Wd.heap.size, 0, none⟩) 5 5)).run Tryz.prog (Wd.alloc (.cells #[.int .u8 120, .int .u8 13, .int .u8 10, .int .u8 13, .int .u8 10] 5)) = .ok (.slice (some ⟨Wd.heap.size, 0, none⟩) 5 5) We := by rw [hWe]; exact Lib.run_convert_bytes_const (P := Tryz.prog) Wd 35 5 _ 5 5 Tryz.underlying35 Tryz.underlying5
          rw [show Wd.heap.size = wc.heap.size + 1 by rw [hWd]; simp, hWd] at hcv
          have ke : Below Wd.heap.size Wd We := by rw [hWe]; exact (Below.refl _ _).alloc (Nat.le_refl _) _
          have kce := (kc.trans (kd.mono kc.size)).trans (ke.mono (Nat.le_trans kc.size kd.size))
          have BEe := hide (BEb.out.trans (kce.mono BEb.out.size))
          have Ze := hide (Zb.out.below kce)
          have HWd : Hid (wc.alloc (.cells #[.string ⟨#[]⟩, .int .u8 0, .int .u8 0, .int .u8 0, .int .u8 0, .string ⟨#[]⟩, .int .i64 0, .string ⟨#[]⟩, .slice none 0 0] 34) = Wd) := hWd.symm
          have Zn : Hid (Bare We none) := Or.inl rfl
          clear kc kd ke kce hWd hWe HWN BEb Zb
          go_wp2_with fail
          clear hcv
          refine (add_bare (some ⟨b2, 0, none⟩) _ _ _ We Ze.out).mono ?_
          rintro e _ ⟨rfl, rfl⟩
          go_wp2_with fail
          refine (add_bare none _ _ _ We Zn.out).mono ?_
          rintro e _ ⟨rfl, rfl⟩
          go_wp2_with fail
          refine (tell_bare (some ⟨b2, 0, none⟩) 200 We Ze.out).mono ?_
          rintro e _ ⟨rfl, rfl⟩
          go_wp2_with fail
          refine (tell_bare none 200 We Zn.out).mono ?_
          rintro e _ ⟨rfl, rfl⟩
          go_wp2_with fail
          refine (pass_bare (some ⟨b2, 0, none⟩)  We Ze.out).mono ?_
          rintro e _ ⟨rfl, rfl⟩
          go_wp2_with fail
          refine (pass_bare none  We Zn.out).mono ?_
          rintro e _ ⟨rfl, rfl⟩
          go_wp2_with fail
          refine (out_bare (some ⟨b2, 0, none⟩)  We Ze.out).mono ?_
          rintro e _ ⟨rfl, rfl⟩
          go_wp2_with fail
          refine (out_bare none  We Zn.out).mono ?_
          rintro e _ ⟨rfl, rfl⟩
          go_wp2_with fail
          refine (sends_bare (some ⟨b2, 0, none⟩)  We Ze.out).mono ?_
          rintro e _ ⟨rfl, rfl⟩
          go_wp2_with fail
          refine (sends_bare none  We Zn.out).mono ?_
          rintro e _ ⟨rfl, rfl⟩
          go_wp2_with fail
          refine (state_bare (some ⟨b2, 0, none⟩)  We Ze.out).mono ?_
          rintro e _ ⟨rfl, rfl⟩
          go_wp2_with fail
          refine (state_bare none  We Zn.out).mono ?_
          rintro e _ ⟨rfl, rfl⟩
          go_wp2_with fail
          refine (clone_bare (some ⟨b2, 0, none⟩)  We Ze.out).mono ?_
          rintro e _ ⟨rfl, rfl⟩
          go_wp2_with fail
          refine (clone_bare none  We Zn.out).mono ?_
          rintro e _ ⟨rfl, rfl⟩
          go_wp2_with fail
          go_ret
          exact ⟨rfl, BEe.out⟩
end Go.Proofs.YtccoddmdlbdfjaaGreatDoor
