/-
  The reference's turn of a block ('block' of the reference); conditions as each theorem has them.
-/
import Derived.Test.YtaibdmmacncejaaDoorR
set_option linter.unusedSimpArgs false
set_option linter.unusedVariables false
namespace Go.Proofs.YtaibdmmacncejaaDoor
open Go.RowKit

theorem words_new (w : World) (a b c d e f g h : Nat) : Words (w.alloc (.cells #[.int .u32 (a : Nat), .int .u32 (b : Nat), .int .u32 (c : Nat), .int .u32 (d : Nat), .int .u32 (e : Nat), .int .u32 (f : Nat), .int .u32 (g : Nat), .int .u32 (h : Nat)] 36)) w.heap.size 0 ⟨a, b, c, d, e, f, g, h⟩ := fun j hj => by
  rw [Nat.zero_add]
  exact (show Row _ w.heap.size 36 (nums .u32 (St.list ⟨a, b, c, d, e, f, g, h⟩)) from Row.new w _ 36).num0 hj

set_option maxRecDepth 100000 in
set_option maxHeartbeats 8000000 in
theorem rblock_at (hb ho hcap bb bo bcap : Nat) (s : St) (b : List Nat) (w : World) (hs : s.Ok) (hw : Words w hb ho s) (hhc : 8 ≤ hcap) (hb0 : ∀ i, b.getD i 0 < 256) (hl : b.length = 64) (hbb : bb < w.heap.size) (h : BytesAt w bb bo b) (hbc : 64 ≤ bcap) :
    Calls Tryd.prog 23 #[.slice (some ⟨hb, ho, none⟩) 8 hcap, .slice (some ⟨bb, bo, none⟩) 64 bcap] w fun e w' => ∃ g cap, e = .returned (.slice (some ⟨g, 0, none⟩) 8 cap) ∧ 8 ≤ cap ∧ Words w' g 0 (comp s b) ∧ w.heap.size ≤ g ∧ Below w.heap.size w w' := by
  have hz := run_make32
  have HB := hide hb0
  have H := hide h
  have HL := hide hl
  have HW := hide hw
  have HS := hide hs
  have hhb := hw.lt
  clear hb0 h hl hw hs
  go_enter Tryd.func23, Tryd.ntmps23
  go_wp2_with fail
  clear hz
  go_loopw [6] (fun i wr => ∃ k : Nat, k ≤ 16 ∧ i = .int .i64 k ∧ Hid (Row wr w.heap.size 36 (nums .u32 (wsz b k)) ∧ Below w.heap.size w wr)) (fun i _ => 16 - (intOf i).toNat)
  case atStart =>
    refine ⟨0, by omega, rfl, ?_, (Below.refl _ _).alloc (Nat.le_refl _) _⟩
    exact Row.new w z64 36
  case round =>
    obtain ⟨k, hk, rfl, HI⟩ := hrel
    by_cases h1 : k < 16
    · obtain ⟨i2, i3⟩ := HI.out
      obtain ⟨b0, hb0⟩ : ∃ x, x = b.getD (4 * k) 0 := ⟨_, rfl⟩
      obtain ⟨b1, hb1⟩ : ∃ x, x = b.getD (4 * k + 1) 0 := ⟨_, rfl⟩
      obtain ⟨b2, hb2⟩ : ∃ x, x = b.getD (4 * k + 2) 0 := ⟨_, rfl⟩
      obtain ⟨b3, hb3⟩ : ∃ x, x = b.getD (4 * k + 3) 0 := ⟨_, rfl⟩
      have l0 : b0 < 256 := by rw [hb0]; exact HB.out _
      have l1 : b1 < 256 := by rw [hb1]; exact HB.out _
      have l2 : b2 < 256 := by rw [hb2]; exact HB.out _
      have l3 : b3 < 256 := by rw [hb3]; exact HB.out _
      have hcell : ∀ j, j < 64 → wr.cell? ⟨bb, bo + j, none⟩ = some (.int .u8 (b.getD j 0 : Nat)) := fun j hj => (i3.cell (p := ⟨bb, bo + j, none⟩) hbb).trans (H.out j (by rw [HL.out]; exact hj))
      obtain ⟨A0, hA0⟩ : ∃ x, x = 4 * k := ⟨_, rfl⟩
      obtain ⟨A1, hA1⟩ : ∃ x, x = 4 * k + 1 := ⟨_, rfl⟩
      obtain ⟨A2, hA2⟩ : ∃ x, x = 4 * k + 2 := ⟨_, rfl⟩
      obtain ⟨A3, hA3⟩ : ∃ x, x = 4 * k + 3 := ⟨_, rfl⟩
      rw [← hA0] at hb0
      rw [← hA1] at hb1
      rw [← hA2] at hb2
      rw [← hA3] at hb3
      have u0 : (A0 : Int) < 64 := by omega
      have u1 : (A1 : Int) < 64 := by omega
      have u2 : (A2 : Int) < 64 := by omega
      have u3 : (A3 : Int) < 64 := by omega
      have v0 : IntKind.i64.wrap (4 * (k : Int)) = A0 := by simp [IntKind.wrap, IntKind.signed, IntKind.bits]; omega
      have v1 : IntKind.i64.wrap ((A0 : Int) + 1) = A1 := by simp [IntKind.wrap, IntKind.signed, IntKind.bits]; omega
      have v2 : IntKind.i64.wrap ((A0 : Int) + 2) = A2 := by simp [IntKind.wrap, IntKind.signed, IntKind.bits]; omega
      have v3 : IntKind.i64.wrap ((A0 : Int) + 3) = A3 := by simp [IntKind.wrap, IntKind.signed, IntKind.bits]; omega
      have e0 := hcell A0 (by omega)
      have e1 := hcell A1 (by omega)
      have e2 := hcell A2 (by omega)
      have e3 := hcell A3 (by omega)
      rw [← hb0] at e0
      rw [← hb1] at e1
      rw [← hb2] at e2
      rw [← hb3] at e3
      have ef : wr.frozen? ⟨w.heap.size, k, none⟩ = false := i2.frozen k
      have ec : wr.cell? ⟨w.heap.size, k, none⟩ = some (.int .u32 ((wsz b k).getD k 0 : Nat)) := i2.num0 (by rw [wsz_length b k (by omega)]; omega)
      obtain ⟨z, hz⟩ : ∃ z, z = (wsz b k).getD k 0 := ⟨_, rfl⟩
      rw [← hz] at ec
      clear hcell hz
      have HA := hide hA0
      have HA1 := hide hA1
      have HA2 := hide hA2
      have HA3 := hide hA3
      have HB0 := hide hb0
      have HB1 := hide hb1
      have HB2 := hide hb2
      have HB3 := hide hb3
      clear hb0 hb1 hb2 hb3 hA0 hA1 hA2 hA3 i2 i3
      have hk2 : (k : Int) < 64 := by omega
      have hne : bb ≠ w.heap.size := by omega
      have hne' : w.heap.size ≠ bb := by omega
      obtain ⟨X, hX⟩ : ∃ x, x = be4 b0 b1 b2 b3 := ⟨_, rfl⟩
      have hbe := fold_be4 b0 b1 b2 b3 l0 l1 l2 l3
      rw [← hX] at hbe
      have HX := hide hX
      clear hX
      go_wp2_with fail
      go_region_held3 (fun w' => w'.cell? ⟨bb, bo + A0, none⟩ = some (.int .u8 b0) ∧ w'.cell? ⟨bb, bo + A1, none⟩ = some (.int .u8 b1) ∧ w'.cell? ⟨bb, bo + A2, none⟩ = some (.int .u8 b2) ∧ w'.cell? ⟨bb, bo + A3, none⟩ = some (.int .u8 b3)) (go_keep) (fail)
      all_goals
        clear hbe v0 v1 v2 v3
        go_wp2_with fail
        go_roundw
        case rel =>
          obtain ⟨i2, i3⟩ := HI.out
          have e : X = if k < 16 then be4 (b.getD (4 * k) 0) (b.getD (4 * k + 1) 0) (b.getD (4 * k + 2) 0) (b.getD (4 * k + 3) 0) else ext (sch b k) k := by
            rw [if_pos h1, HX.out, HB0.out, HB1.out, HB2.out, HB3.out, HA.out, HA1.out, HA2.out, HA3.out]
          refine ⟨k + 1, by omega, by go_num, ?_, ?_⟩
          · have := i2.setNum0 k X
            rwa [wsz_set b k X (by omega) e] at this
          · exact i3.trans ((sets_keep (w.heap.size) wr k (.int .u32 X)).below (by omega) (by omega) i3.size)
        case measure => simp [intOf]; omega
    · have HK : Hid (k = 16) := by show k = 16; omega
      have h16 : 16 ≤ k := by omega
      clear h1
      go_wp2_with fail
      go_loopw [7] (fun i wr => ∃ k : Nat, 16 ≤ k ∧ k ≤ 64 ∧ i = .int .i64 k ∧ Hid (Row wr w.heap.size 36 (nums .u32 (wsz b k)) ∧ Below w.heap.size w wr)) (fun i _ => 64 - (intOf i).toNat)
      case atStart => exact ⟨16, by omega, by omega, rfl, by rw [← HK.out]; exact HI.out⟩
      case round =>
        clear HI
        obtain ⟨k, hk0, hk, rfl, HI⟩ := hrel
        by_cases h2 : k < 64
        · obtain ⟨i2, i3⟩ := HI.out
          have hlt : ∀ j, (sch b k).getD j 0 < 4294967296 := sch_getD_lt b HB.out k
          obtain ⟨k2, hk2⟩ : ∃ x, x = k - 2 := ⟨_, rfl⟩
          obtain ⟨k7, hk7⟩ : ∃ x, x = k - 7 := ⟨_, rfl⟩
          obtain ⟨k15, hk15⟩ : ∃ x, x = k - 15 := ⟨_, rfl⟩
          obtain ⟨k16, hk16⟩ : ∃ x, x = k - 16 := ⟨_, rfl⟩
          have m2 : (k : Int) - 2 = k2 := by omega
          have m7 : (k : Int) - 7 = k7 := by omega
          have m15 : (k : Int) - 15 = k15 := by omega
          have m16 : (k : Int) - 16 = k16 := by omega
          have lt2 : (k2 : Int) < 64 := by omega
          have lt7 : (k7 : Int) < 64 := by omega
          have lt15 : (k15 : Int) < 64 := by omega
          have lt16 : (k16 : Int) < 64 := by omega
          have v2 : IntKind.i64.wrap (k2 : Int) = k2 := wrap_i _ (by omega) (by omega)
          have v7 : IntKind.i64.wrap (k7 : Int) = k7 := wrap_i _ (by omega) (by omega)
          have v15 : IntKind.i64.wrap (k15 : Int) = k15 := wrap_i _ (by omega) (by omega)
          have v16 : IntKind.i64.wrap (k16 : Int) = k16 := wrap_i _ (by omega) (by omega)
          have hcell : ∀ j, j < k → wr.cell? ⟨w.heap.size, j, none⟩ = some (.int .u32 ((sch b k).getD j 0 : Nat)) := fun j hj => by
            rw [← wsz_old b k j hj]
            exact i2.num0 (by rw [wsz_length b k hk]; omega)
          have e2 := hcell k2 (by omega)
          have e7 := hcell k7 (by omega)
          have e15 := hcell k15 (by omega)
          have e16 := hcell k16 (by omega)
          have l2 := hlt k2
          have l7 := hlt k7
          have l15 := hlt k15
          have l16 := hlt k16
          obtain ⟨y2, hy2⟩ : ∃ x, x = (sch b k).getD k2 0 := ⟨_, rfl⟩
          obtain ⟨y7, hy7⟩ : ∃ x, x = (sch b k).getD k7 0 := ⟨_, rfl⟩
          obtain ⟨y15, hy15⟩ : ∃ x, x = (sch b k).getD k15 0 := ⟨_, rfl⟩
          obtain ⟨y16, hy16⟩ : ∃ x, x = (sch b k).getD k16 0 := ⟨_, rfl⟩
          rw [← hy2] at e2 l2
          rw [← hy7] at e7 l7
          rw [← hy15] at e15 l15
          rw [← hy16] at e16 l16
          have ef : wr.frozen? ⟨w.heap.size, k, none⟩ = false := i2.frozen k
          have ec : wr.cell? ⟨w.heap.size, k, none⟩ = some (.int .u32 ((wsz b k).getD k 0 : Nat)) := i2.num0 (by rw [wsz_length b k hk]; omega)
          obtain ⟨z, hz⟩ : ∃ z, z = (wsz b k).getD k 0 := ⟨_, rfl⟩
          rw [← hz] at ec
          have g1 := fold_ss1 y2 l2
          have g0 := fold_ss0 y15 l15
          have ge := fold_ext (ss1 y2) y7 (ss0 y15) y16
          obtain ⟨X, hX⟩ : ∃ x, x = (ss1 y2 + y7 + ss0 y15 + y16) % 4294967296 := ⟨_, rfl⟩
          rw [← hX] at ge
          have e : X = if k < 16 then be4 (b.getD (4 * k) 0) (b.getD (4 * k + 1) 0) (b.getD (4 * k + 2) 0) (b.getD (4 * k + 3) 0) else ext (sch b k) k := by
            rw [if_neg (by omega), hX, ext, hy2, hy7, hy15, hy16, hk2, hk7, hk15, hk16]
          have E := hide e
          have hk3 : (k : Int) < 64 := by omega
          have d2 : k2 ≠ k := by omega
          have d7 : k7 ≠ k := by omega
          have d15 : k15 ≠ k := by omega
          have d16 : k16 ≠ k := by omega
          have f7 : k ≠ k7 := by omega
          have f16 : k ≠ k16 := by omega
          have a7 : (⟨w.heap.size, k7, none⟩ : Addr) ≠ ⟨w.heap.size, k, none⟩ := by intro h; cases h; omega
          have a16 : (⟨w.heap.size, k16, none⟩ : Addr) ≠ ⟨w.heap.size, k, none⟩ := by intro h; cases h; omega
          clear e hX hy2 hy7 hy15 hy16 hk2 hk7 hk15 hk16 hcell hlt hz i2 i3
          go_wp2_with fail
          go_quiet (fail)
          go_wp2_with fail
          go_region_held3 (fun w' => w'.cell? ⟨w.heap.size, k7, none⟩ = some (.int .u32 y7) ∧ w'.cell? ⟨w.heap.size, k16, none⟩ = some (.int .u32 y16)) (first | go_keep | (exact ⟨cell_set_off (w := wr.drewN _) e7 d7, cell_set_off (w := wr.drewN _) e16 d16⟩)) (first
            | (go_at_call 32; refine (rright_at _ _ _ (by omega) (by omega) (by omega)).mono ?_; rintro e w1 ⟨rfl, rfl⟩))
          all_goals
            clear g1 g0 ge v2 v7 v15 v16 m2 m7 m15 m16
            go_wp2_with fail
            go_roundw
            case rel =>
              obtain ⟨i2, i3⟩ := HI.out
              have KK : Kept (w.heap.size) (w.heap.size) wr ((wr.drewN (nq + 1)).setCell ⟨w.heap.size, k, none⟩ (.int .u32 (X : Nat))) := ((Kept.refl _ _ wr).drewN (nq + 1)).set _ _
              refine ⟨k + 1, by omega, by omega, by go_num, ?_, ?_⟩
              · have := (i2.drewN (nq + 1)).setNum0 k X
                rwa [wsz_set b k X (by omega) E.out] at this
              · exact i3.trans (KK.below (by omega) (by omega) i3.size)
            case measure => simp [intOf]; omega
        · have HK : Hid (k = 64) := by show k = 64; omega
          have h64 : 64 ≤ k := by omega
          obtain ⟨i2, i3⟩ := HI.out
          rw [HK.out, wsz_all] at i2
          have hd64 : decide ((k : Int) < 64) = false := by simp; omega
          have I2 := hide i2
          have I3 := hide i3
          have hsz := i3.size
          have hGl := i2.lt
          clear i2 i3 HI h2
          go_wp2_with fail
          refine (cubes_at _).mono ?_
          rintro e w2 ⟨rfl, rk, bk⟩
          obtain ⟨KB, hKB⟩ : ∃ KB, KB = wr.heap.size := ⟨_, rfl⟩
          rw [← hKB] at rk ⊢
          have hs2 := bk.size
          have r2 : Row w2 w.heap.size 36 (nums .u32 (sch b 64)) := I2.out.below bk hGl
          have b2 : Below w.heap.size w w2 := I3.out.trans (bk.mono hsz)
          have hw2 : Words w2 hb ho s := HW.out.keep (b2.block hb hhb)
          obtain ⟨W3, hW3⟩ : ∃ W3, W3 = w2.alloc (.cells #[] 36) := ⟨_, rfl⟩
          have hs3 : W3.heap.size = w2.heap.size + 1 := by rw [hW3]; simp
          have b3 : Below w2.heap.size w2 W3 := by rw [hW3]; exact (Below.refl _ _).alloc (Nat.le_refl _) _
          have o3 : Own32 W3 w2.heap.size (.slice (some ⟨w2.heap.size, 0, none⟩) 0 0) [] := by rw [hW3]; exact own32_new_at _ _ rfl
          have hw3 : Words W3 hb ho s := hw2.keep (b3.block hb (by omega))
          obtain ⟨v', W4, hap, o4, b4⟩ := run_app32 (c := hcap) 52 o3 (bs := s.list) (m := 8) rfl hw3 (by simp) (by omega)
          obtain ⟨g0, cap0, rfl, hc0, hcm0, hg0, hgl0, hcell0⟩ := o4.form (by simp [St.list])
          have hcc0 : ([] ++ s.list).length = 8 := rfl
          rw [hcc0] at hap hc0 hcell0
          have hb24 : Below w2.heap.size w2 W4 := b3.trans (b4.mono (Nat.le_refl _))
          have r4 : Row W4 w.heap.size 36 (nums .u32 (sch b 64)) := r2.below hb24 (by omega)
          have rk4 : Row W4 KB 36 (nums .u32 kt) := rk.below hb24 rk.lt
          have hw4 : Words W4 hb ho s := hw2.keep (hb24.block hb (by omega))
          have bel4 : Below w.heap.size w W4 := b2.trans (hb24.mono (by omega))
          have hv4 : Words W4 g0 0 (rounds (sch b 64) 0 s) := fun j hj => by rw [Nat.zero_add]; exact hcell0 j hj
          have HAP := hide hap
          have HKB := hide hKB
          have hKBl : w.heap.size < KB := by omega
          have hg0l : w.heap.size ≤ g0 := by omega
          have R4 := hide r4
          have RK4 := hide rk4
          have HW4 := hide hw4
          have BEL4 := hide bel4
          have HV4 := hide hv4
          have HW3 := hide hW3
          clear rk bk r2 b2 hw2 hW3 hs3 b3 o3 hw3 hap o4 b4 hcell0 hcc0 hb24 r4 rk4 hw4 bel4 hv4 hKB
          go_wp2_with (rw [← HW3.out]; refine wpList_app_run _ rfl _ _ 52 52 rfl _ _ rfl rfl HAP.out ?_)
          clear hd64
          go_loopw [11, 12] (fun v i wr => ∃ (j g c : Nat), j ≤ 64 ∧ i = .int .i64 j ∧ v = .slice (some ⟨g, 0, none⟩) 8 c ∧ 8 ≤ c ∧ w.heap.size ≤ g ∧ Hid (Words wr g 0 (rounds (sch b 64) j s) ∧ Row wr w.heap.size 36 (nums .u32 (sch b 64)) ∧ Row wr KB 36 (nums .u32 kt) ∧ Words wr hb ho s ∧ Below w.heap.size w wr)) (fun _ i _ => 64 - (intOf i).toNat)
          case atStart => exact ⟨0, g0, cap0, by omega, rfl, rfl, hc0, hg0l, HV4.out, R4.out, RK4.out, HW4.out, BEL4.out⟩
          case round =>
            clear HAP HV4 R4 RK4 HW4 BEL4 HW3
            obtain ⟨j, g, c, hj, rfl, rfl, hc8, hgl, HI⟩ := hrel
            by_cases h3 : j < 64
            · obtain ⟨iv, ir, ik, iw, ib⟩ := HI.out
              obtain ⟨S, hS⟩ : ∃ S, S = rounds (sch b 64) j s := ⟨_, rfl⟩
              rw [← hS] at iv
              have hSo : S.Ok := by rw [hS]; exact rounds_ok _ _ HS.out
              have c0 : wr.cell? ⟨g, 0, none⟩ = some (.int .u32 S.a) := by have := iv 0 (by omega); rw [Nat.zero_add] at this; exact this
              have c1 : wr.cell? ⟨g, 1, none⟩ = some (.int .u32 S.b) := by have := iv 1 (by omega); rw [Nat.zero_add] at this; exact this
              have c2 : wr.cell? ⟨g, 2, none⟩ = some (.int .u32 S.c) := by have := iv 2 (by omega); rw [Nat.zero_add] at this; exact this
              have c3 : wr.cell? ⟨g, 3, none⟩ = some (.int .u32 S.d) := by have := iv 3 (by omega); rw [Nat.zero_add] at this; exact this
              have c4 : wr.cell? ⟨g, 4, none⟩ = some (.int .u32 S.e) := by have := iv 4 (by omega); rw [Nat.zero_add] at this; exact this
              have c5 : wr.cell? ⟨g, 5, none⟩ = some (.int .u32 S.f) := by have := iv 5 (by omega); rw [Nat.zero_add] at this; exact this
              have c6 : wr.cell? ⟨g, 6, none⟩ = some (.int .u32 S.g) := by have := iv 6 (by omega); rw [Nat.zero_add] at this; exact this
              have c7 : wr.cell? ⟨g, 7, none⟩ = some (.int .u32 S.h) := by have := iv 7 (by omega); rw [Nat.zero_add] at this; exact this
              have ck : wr.cell? ⟨KB, j, none⟩ = some (.int .u32 (kt.getD j 0 : Nat)) := ik.num0 (by rw [kt_length]; exact h3)
              have cw : wr.cell? ⟨w.heap.size, j, none⟩ = some (.int .u32 ((sch b 64).getD j 0 : Nat)) := ir.num0 (by rw [sch_length]; exact h3)
              have lk := kt_lt j
              have lw := sch_getD_lt b HB.out 64 j
              have hnx : rounds (sch b 64) (j + 1) s = step S (((sch b 64).getD j 0 + kt.getD j 0) % 4294967296) := by rw [rounds, ← hS]
              obtain ⟨kk, hkk⟩ : ∃ x, x = kt.getD j 0 := ⟨_, rfl⟩
              obtain ⟨ww, hww⟩ : ∃ x, x = (sch b 64).getD j 0 := ⟨_, rfl⟩
              rw [← hkk] at ck lk hnx
              rw [← hww] at cw lw hnx
              obtain ⟨X, hX⟩ : ∃ X, X = (ww + kk) % 4294967296 := ⟨_, rfl⟩
              rw [← hX] at hnx
              obtain ⟨O, hO⟩ : ∃ O, O = one S X := ⟨_, rfl⟩
              obtain ⟨T, hT⟩ : ∃ T, T = two S := ⟨_, rfl⟩
              have la := hSo.a
              have lb := hSo.b
              have lc := hSo.c
              have ld := hSo.d
              have le := hSo.e
              have lf := hSo.f
              have lg := hSo.g
              have lh := hSo.h
              have g1 := fold_bs1 S.e le
              have g0' := fold_bs0 S.a la
              have gc := fold_ch S.e S.f S.g le lf lg
              have gm := fold_maj S.a S.b S.c la lb lc
              have z1 := bs1_lt le
              have z0 := bs0_lt la
              have zc := ch_lt (f := S.f) le lg
              have zm := maj_lt (c := S.c) la lb
              have eO : O = (S.h + bs1 S.e + ch S.e S.f S.g + kk + ww) % 4294967296 := by rw [hO, one, hX]; omega
              have eT : T = (bs0 S.a + maj S.a S.b S.c) % 4294967296 := by rw [hT, two]
              have pO : IntKind.u32.wrap (IntKind.u32.wrap (IntKind.u32.wrap (IntKind.u32.wrap ((S.h : Int) + (bs1 S.e : Nat)) + (ch S.e S.f S.g : Nat)) + kk) + ww) = O := by simp only [IntKind.wrap_u32]; omega
              have pT : IntKind.u32.wrap ((bs0 S.a : Nat) + (maj S.a S.b S.c : Nat) : Int) = T := by rw [IntKind.wrap_u32]; omega
              have pO2 : ((S.h : Int) + (bs1 S.e : Nat) + (ch S.e S.f S.g : Nat) + kk + ww) % 4294967296 = O := by omega
              have pO3 : (((S.h : Int) + (bs1 S.e : Nat) + (ch S.e S.f S.g : Nat) + kk) % 4294967296 + ww) % 4294967296 = O := by omega
              have pT2 : ((bs0 S.a : Nat) + (maj S.a S.b S.c : Nat) : Int) % 4294967296 = T := by omega
              obtain ⟨N0, hN0⟩ : ∃ N, N = (O + T) % 4294967296 := ⟨_, rfl⟩
              obtain ⟨N4, hN4⟩ : ∃ N, N = (S.d + O) % 4294967296 := ⟨_, rfl⟩
              have p0 : IntKind.u32.wrap ((O : Int) + T) = N0 := by rw [IntKind.wrap_u32]; omega
              have p4 : IntKind.u32.wrap ((S.d : Int) + O) = N4 := by rw [IntKind.wrap_u32]; omega
              have E0 : Hid (((((S.h : Int) + (bs1 S.e : Nat) + (ch S.e S.f S.g : Nat) + kk + ww) % 4294967296 + T) % 4294967296) = (N0 : Nat)) := by show _ = _; omega
              have E4 : Hid ((((S.d : Int) + ((S.h : Int) + (bs1 S.e : Nat) + (ch S.e S.f S.g : Nat) + kk + ww) % 4294967296) % 4294967296) = (N4 : Nat)) := by show _ = _; omega
              have hst : step S X = ⟨N0, S.a, S.b, S.c, N4, S.e, S.f, S.g⟩ := by rw [step, ← hO, ← hT, hN0, hN4]
              rw [hst] at hnx
              have HNX := hide hnx
              have sg : IntKind.u32.signed = false := rfl
              have hjI : (j : Int) < 64 := by omega
              have hcI : (8 : Int) ≤ c := by omega
              have IV := hide iv
              have IR := hide ir
              have IK := hide ik
              have IW := hide iw
              have IB := hide ib
              have hgs := iv.lt
              have hIS := ib.size
              clear hS hSo hkk hww hX hO hT eO eT hN0 hN4 hst hnx iv ir ik iw ib HI
              go_wp2_with fail
              go_quiet (fail)
              go_wp2_with fail
              go_quiet (first | (go_at_call 32; refine (rright_at _ _ _ (by omega) (by omega) (by omega)).mono ?_; rintro e w1 ⟨rfl, rfl⟩; exact ⟨rfl, _, rfl⟩))
              go_wp2_with fail
              go_quiet (first | (go_at_call 32; refine (rright_at _ _ _ (by omega) (by omega) (by omega)).mono ?_; rintro e w1 ⟨rfl, rfl⟩; exact ⟨rfl, _, rfl⟩))
              clear pO pT pO2 pO3 pT2 g1 g0' gc gm
              go_wp2_with fail
              have hgn : g ≠ wr.heap.size := by omega
              have hgn' : wr.heap.size ≠ g := by omega
              go_region_held3 (fun w' => w'.cell? ⟨g, 0, none⟩ = some (.int .u32 S.a) ∧ w'.cell? ⟨g, 1, none⟩ = some (.int .u32 S.b) ∧ w'.cell? ⟨g, 2, none⟩ = some (.int .u32 S.c) ∧ w'.cell? ⟨g, 3, none⟩ = some (.int .u32 S.d) ∧ w'.cell? ⟨g, 4, none⟩ = some (.int .u32 S.e) ∧ w'.cell? ⟨g, 5, none⟩ = some (.int .u32 S.f) ∧ w'.cell? ⟨g, 6, none⟩ = some (.int .u32 S.g)) (go_keep) (fail)
              all_goals
                clear p0 p4
                go_wp2_with fail
                go_roundw
                case rel =>
                  rw [E0.out, E4.out]
                  refine ⟨j + 1, wr.heap.size, 8, by omega, by go_num, rfl, by omega, by omega, ?_, (IR.out.drewN _).alloc _, (IK.out.drewN _).alloc _, IW.out.keep (Below.heap_alloc _ _ _ IW.out.lt), (below_drewN IB.out _).alloc (by exact hIS) _⟩
                  rw [HNX.out]
                  exact words_new (wr.drewN _) _ _ _ _ _ _ _ _
                case measure => simp [intOf]; omega
            · have HJ : Hid (j = 64) := by show j = 64; omega
              have h64j : 64 ≤ j := by omega
              obtain ⟨iv, ir, ik, iw, ib⟩ := HI.out
              rw [HJ.out] at iv
              obtain ⟨S, hS⟩ : ∃ S, S = rounds (sch b 64) 64 s := ⟨_, rfl⟩
              rw [← hS] at iv
              have hSo : S.Ok := by rw [hS]; exact rounds_ok _ _ HS.out
              have hcomp : comp s b = add8 s S := by rw [comp, ← hS]
              have hdj : decide ((j : Int) < 64) = false := by simp; omega
              obtain ⟨W5, hW5⟩ : ∃ W5, W5 = wr.alloc (.cells #[] 36) := ⟨_, rfl⟩
              have o5 : Own32 W5 wr.heap.size (.slice (some ⟨wr.heap.size, 0, none⟩) 0 0) [] := by rw [hW5]; exact own32_new_at _ _ rfl
              have v5 : Words W5 g 0 S := iv.keep (by rw [hW5]; exact Below.heap_alloc _ _ _ iv.lt)
              have w5 : Words W5 hb ho s := iw.keep (by rw [hW5]; exact Below.heap_alloc _ _ _ iw.lt)
              have hIS := ib.size
              have b5 : Below w.heap.size w W5 := by rw [hW5]; exact ib.alloc hIS _
              have s5 : W5.heap.size = wr.heap.size + 1 := by rw [hW5]; simp
              have hgs := iv.lt
              have hAl : wr.alloc (.cells #[] 36) = W5 := hW5.symm
              have O5 := hide o5
              have V5 := hide v5
              have U5 := hide w5
              have B5 := hide b5
              have HCO := hide hcomp
              have hbs : hb < wr.heap.size := iw.lt
              clear hS hSo hcomp o5 v5 w5 b5 hW5 iv ir ik iw ib HI
              obtain ⟨Q, hQ⟩ : ∃ Q, Q = wr.heap.size := ⟨_, rfl⟩
              rw [← hQ] at O5 s5 hgs hbs hIS
              go_wp2_with fail
              rw [← hQ]
              clear hQ hAl hdj
              go_loopw [17, 18] (fun v i wr => ∃ n : Nat, n ≤ 8 ∧ i = .int .i64 n ∧ Hid (Own32 wr Q v ((add8 s S).list.take n) ∧ Words wr g 0 S ∧ Words wr hb ho s ∧ Below w.heap.size w wr ∧ Q ≤ wr.heap.size)) (fun _ i _ => 8 - (intOf i).toNat)
              case atStart => exact ⟨0, by omega, rfl, O5.out, V5.out, U5.out, B5.out, by omega⟩
              case round =>
                clear O5 V5 U5 B5
                obtain ⟨n, hn, rfl, HI⟩ := hrel
                by_cases h4 : n < 8
                · obtain ⟨io, iv, iw, ib, iq⟩ := HI.out
                  have e1 : wr.cell? ⟨hb, ho + n, none⟩ = some (.int .u32 (s.list.getD n 0 : Nat)) := iw n h4
                  have e2 : wr.cell? ⟨g, n, none⟩ = some (.int .u32 (S.list.getD n 0 : Nat)) := by have := iv n h4; rw [Nat.zero_add] at this; exact this
                  have hl8 : n < (add8 s S).list.length := h4
                  have hgt : (add8 s S).list[n] = (s.list.getD n 0 + S.list.getD n 0) % 4294967296 := by
                    match n, h4 with
                    | 0, _ => rfl
                    | 1, _ => rfl
                    | 2, _ => rfl
                    | 3, _ => rfl
                    | 4, _ => rfl
                    | 5, _ => rfl
                    | 6, _ => rfl
                    | 7, _ => rfl
                  have htk : (add8 s S).list.take (n + 1) = (add8 s S).list.take n ++ [(s.list.getD n 0 + S.list.getD n 0) % 4294967296] := by rw [List.take_succ_eq_append_getElem hl8, hgt]
                  obtain ⟨y1, hy1⟩ : ∃ y, y = s.list.getD n 0 := ⟨_, rfl⟩
                  obtain ⟨y2, hy2⟩ : ∃ y, y = S.list.getD n 0 := ⟨_, rfl⟩
                  rw [← hy1, ← hy2] at htk
                  rw [← hy1] at e1
                  rw [← hy2] at e2
                  obtain ⟨X, hX⟩ : ∃ X, X = (y1 + y2) % 4294967296 := ⟨_, rfl⟩
                  rw [← hX] at htk
                  have pX : IntKind.u32.wrap ((y1 : Int) + y2) = X := by rw [IntKind.wrap_u32]; omega
                  obtain ⟨W6, hW6⟩ : ∃ W6, W6 = (wr.alloc (.cells #[.int .u32 (X : Nat)] 36)).drew := ⟨_, rfl⟩
                  have r6 : Row W6 wr.heap.size 36 (nums .u32 [X]) := by rw [hW6]; exact Row.new wr #[.int .u32 (X : Nat)] 36
                  have o6 : Own32 W6 Q u17 ((add8 s S).list.take n) := by rw [hW6]; exact io.keep fun g _ hg => Below.heap_alloc _ _ _ hg
                  have s6 : wr.heap.size ≤ W6.heap.size := by rw [hW6]; simp
                  have b6 : Below w.heap.size w W6 := by rw [hW6]; exact below_drewN (ib.alloc ib.size _) 1
                  have v6 : Words W6 g 0 S := iv.keep (by rw [hW6]; exact Below.heap_alloc _ _ _ iv.lt)
                  have w6 : Words W6 hb ho s := iw.keep (by rw [hW6]; exact Below.heap_alloc _ _ _ iw.lt)
                  obtain ⟨v', W7, hap, o7, b7⟩ := run_app32 (b := wr.heap.size) (o := 0) (c := 1) 52 o6 (bs := [X]) (m := 1) rfl (fun j hj => by rw [Nat.zero_add]; exact r6.num0 hj) (by rw [List.length_take]; omega) (by omega)
                  rw [← htk] at o7
                  rw [hW6] at hap
                  have v7 : Words W7 g 0 S := v6.keep (b7.block g hgs)
                  have w7 : Words W7 hb ho s := w6.keep (b7.block hb hbs)
                  have d1 : W7.cell? ⟨hb, ho + n, none⟩ = some (.int .u32 (y1 : Nat)) := by rw [hy1]; exact w7 n h4
                  have d2 : W7.cell? ⟨g, n, none⟩ = some (.int .u32 (y2 : Nat)) := by rw [hy2]; have := v7 n h4; rw [Nat.zero_add] at this; exact this
                  have O7 := hide o7
                  have V7 := hide v7
                  have U7 := hide w7
                  have B7 : Hid (Below w.heap.size w W7) := b6.trans (b7.mono hIS)
                  have S7 : Hid (Q ≤ W7.heap.size) := by show _ ≤ _; have := b7.size; omega
                  have HAP := hide hap
                  have hne1 : hb ≠ wr.heap.size := by omega
                  have hne2 : g ≠ wr.heap.size := by omega
                  have hnI : (n : Int) < 8 := by omega
                  clear hl8 hgt htk hy1 hy2 hX hW6 r6 o6 s6 b6 v6 w6 hap o7 b7 v7 w7 io iv iw ib iq HI
                  go_wp2_with fail
                  go_region_held3 (fun w' => w'.cell? ⟨hb, ho + n, none⟩ = some (.int .u32 y1) ∧ w'.cell? ⟨g, n, none⟩ = some (.int .u32 y2)) (go_keep) ((refine step_app_run (by rfl) _ _ 52 52 (by rfl) _ _ (by rfl) (by rfl) HAP.out ?_))
                  all_goals
                    clear pX
                    go_wp2_with fail
                    go_roundw
                    case rel => exact ⟨n + 1, by omega, by go_num, O7.out, V7.out, U7.out, B7.out, S7.out⟩
                    case measure => simp [intOf]; omega
                · obtain ⟨io, iv, iw, ib, iq⟩ := HI.out
                  have hn8 : n = 8 := by omega
                  rw [hn8, List.take_of_length_le (by rw [St.list_length]; omega)] at io
                  obtain ⟨g5, cap5, rfl, hc5, hcm5, hg5, hgl5, hcell5⟩ := io.form (by rw [St.list_length]; omega)
                  have el : (add8 s S).list.length = 8 := rfl
                  have IB := hide ib
                  have HC5 : Hid (Words wr g5 0 (add8 s S)) := fun j hj => by rw [Nat.zero_add]; exact hcell5 j hj
                  rw [el] at hc5 ⊢
                  have hge : w.heap.size ≤ g5 := by omega
                  clear io iv iw ib iq HI hn8 hcell5 el
                  go_wp2_with fail
                  go_ret
                  refine ⟨g5, cap5, rfl, hc5, ?_, hge, IB.out⟩
                  rw [HCO.out]
                  exact HC5.out
end Go.Proofs.YtaibdmmacncejaaDoor
