/-
  The words drawn from a block ('draw' of package digest); conditions as each theorem has them.
-/
import Derived.Test.YtaibdmmacncejaaDoorC
set_option linter.unusedSimpArgs false
set_option linter.unusedVariables false
namespace Go.Proofs.YtaibdmmacncejaaDoor
open Go.RowKit

def z64 : Array Value := (nums .u32 (List.replicate 64 0)).toArray
theorem zero65 (w : World) : (zeroValue 65).run Tryd.prog w = .ok (.agg z64) w := by kernel_rfl
theorem info65 : (Tryd.prog.info? 65).map (·.size) = some 64 := by kernel_rfl

/-- A whole row is stored; the world behind it bears a name. -/
theorem wpList_store_rowW {P : Program} {ops : Array Oper} {rest : List Oper} {o : Oper} {a : Act} {w : World} {Q : Exit → Act → World → Prop} (hgd : o.guard = none) (ty : TypeId) (x y : Operand) (ho : o.op = .store ty x y)
    (g : Nat) (cells : Array Value) (hx : a.eval x = .pointer (some ⟨g, 0, none⟩)) (hy : a.eval y = .agg cells)
    (t : TypeId) (old : Array Value) (hg : w.heap[g]? = some (.cells old t (0, 0))) (hi : (P.info? ty).map (·.size) = some cells.size)
    (hold : old.size = cells.size) (h1 : cells.all (·.oneCell') = true) (W2 : World) (hW : W2 = w.setRow g cells)
    (h : wpList P ops Q rest (a.put o.dst undef) W2) : wpList P ops Q (o :: rest) a w :=
  wpList_store_row hgd ty x y ho g cells hx hy t old hg hi hold h1 (by rw [← hW]; exact h)

theorem sets_keep (g : Nat) (wr : World) (k : Nat) (v : Value) : Kept g g wr (wr.setCell ⟨g, k, none⟩ v).drew := ((Kept.refl g g wr).set k v).drewN 1

theorem cell_set_off {w : World} {g o p : Nat} {v u : Value} (h : w.cell? ⟨g, o, none⟩ = some u) (hne : o ≠ p) : (w.setCell ⟨g, p, none⟩ v).cell? ⟨g, o, none⟩ = some u := by
  rw [World.cell?_setCell_other]
  · exact h
  · intro e; cases e; omega

/-- The bytes b lie from a cell on. -/
def BytesAt (w : World) (r o : Nat) (b : List Nat) : Prop := ∀ j, j < b.length → w.cell? ⟨r, o + j, none⟩ = some (.int .u8 (b.getD j 0 : Nat))

theorem w32 (a : Nat) (h : a < 4294967296) : IntKind.u32.wrap (a : Int) = a := by rw [IntKind.wrap_u32]; omega
theorem fold_be4 (a b c d : Nat) (ha : a < 256) (hb : b < 256) (hc : c < 256) (hd : d < 256) :
    bits .or .u32 (bits .or .u32 (bits .or .u32 (IntKind.u32.wrap (IntKind.u32.wrap (a : Int) * 16777216)) (IntKind.u32.wrap (IntKind.u32.wrap (b : Int) * 65536))) (IntKind.u32.wrap (IntKind.u32.wrap (c : Int) * 256))) (IntKind.u32.wrap (d : Int)) = (be4 a b c d : Nat) := by
  have e1 : IntKind.u32.wrap (IntKind.u32.wrap (a : Int) * 16777216) = ((a * 16777216 : Nat) : Int) := by rw [w32 a (by omega), IntKind.wrap_u32]; omega
  have e2 : IntKind.u32.wrap (IntKind.u32.wrap (b : Int) * 65536) = ((b * 65536 : Nat) : Int) := by rw [w32 b (by omega), IntKind.wrap_u32]; omega
  have e3 : IntKind.u32.wrap (IntKind.u32.wrap (c : Int) * 256) = ((c * 256 : Nat) : Int) := by rw [w32 c (by omega), IntKind.wrap_u32]; omega
  rw [e1, e2, e3, w32 d (by omega), or_nat _ _ (by omega) (by omega), or_nat _ _ (or_lt (by omega) (by omega)) (by omega), or_nat _ _ (or_lt (or_lt (by omega) (by omega)) (by omega)) (by omega), be4]
theorem fold_ss1 (x : Nat) (hx : x < 4294967296) : bits .xor .u32 (bits .xor .u32 (rr x 17 : Nat) (rr x 19 : Nat)) ((x : Int) / 1024) = (ss1 x : Nat) := by
  have e : (x : Int) / 1024 = ((x / 1024 : Nat) : Int) := by simp
  rw [e, u32_xor_nat _ _ (rr_lt _ hx) (rr_lt _ hx), u32_xor_nat _ _ (xor_lt (rr_lt _ hx) (rr_lt _ hx)) (div_lt' _ hx)]; rfl
theorem fold_ss0 (x : Nat) (hx : x < 4294967296) : bits .xor .u32 (bits .xor .u32 (rr x 7 : Nat) (rr x 18 : Nat)) ((x : Int) / 8) = (ss0 x : Nat) := by
  have e : (x : Int) / 8 = ((x / 8 : Nat) : Int) := by simp
  rw [e, u32_xor_nat _ _ (rr_lt _ hx) (rr_lt _ hx), u32_xor_nat _ _ (xor_lt (rr_lt _ hx) (rr_lt _ hx)) (div_lt' _ hx)]; rfl
theorem fold_ext (a b c d : Nat) : IntKind.u32.wrap (IntKind.u32.wrap (IntKind.u32.wrap ((a : Int) + b) + c) + d) = ((a + b + c + d) % 4294967296 : Nat) := by
  rw [IntKind.wrap_u32, IntKind.wrap_u32, IntKind.wrap_u32]; omega
/-- The words drawn so far, and zeros behind them. -/
def wsz (b : List Nat) (k : Nat) : List Nat := sch b k ++ List.replicate (64 - k) 0
theorem wsz_length (b : List Nat) (k : Nat) (h : k ≤ 64) : (wsz b k).length = 64 := by simp [wsz, sch_length]; omega
theorem wsz_old (b : List Nat) (k j : Nat) (h : j < k) : (wsz b k).getD j 0 = (sch b k).getD j 0 := by
  unfold wsz
  rw [List.getD, List.getElem?_append_left (by rw [sch_length]; exact h)]; rfl
theorem wsz_set (b : List Nat) (k x : Nat) (h : k < 64) (hx : x = if k < 16 then be4 (b.getD (4 * k) 0) (b.getD (4 * k + 1) 0) (b.getD (4 * k + 2) 0) (b.getD (4 * k + 3) 0) else ext (sch b k) k) : (wsz b k).set k x = wsz b (k + 1) := by
  unfold wsz
  rw [List.set_append_right _ _ (by rw [sch_length]; omega), sch_length, Nat.sub_self, show 64 - k = (64 - (k + 1)) + 1 by omega, List.replicate_succ, List.set_cons_zero, sch, ← hx]
  simp
theorem wsz_all (b : List Nat) : wsz b 64 = sch b 64 := by simp [wsz]
theorem wrap_i (a : Int) (h1 : 0 ≤ a) (h2 : a < 9223372036854775808) : IntKind.i64.wrap a = a := by simp [IntKind.wrap, IntKind.signed, IntKind.bits]; omega

set_option maxRecDepth 100000 in
set_option maxHeartbeats 4000000 in
theorem draw_at (r o : Nat) (b : List Nat) (w : World) (hb : ∀ i, b.getD i 0 < 256) (hl : b.length = 64) (hr : r < w.heap.size) (h : BytesAt w r o b) :
    Calls Tryd.prog 34 #[.pointer (some ⟨r, o, none⟩)] w fun e w' => e = .returned (.agg (nums .u32 (sch b 64)).toArray) ∧ Below w.heap.size w w' := by
  have hz := zero65
  have HB := hide hb
  have H := hide h
  have HL := hide hl
  clear hb h hl
  go_enter Tryd.func34, Tryd.ntmps34
  go_wp2_with fail
  clear hz
  go_loopw [8] (fun i wr => ∃ k : Nat, k ≤ 16 ∧ i = .int .i64 k ∧ Hid (Row wr w.heap.size 65 z64.toList ∧ Row wr (w.heap.size + 1) 65 (nums .u32 (wsz b k)) ∧ Below w.heap.size w wr)) (fun i _ => 16 - (intOf i).toNat)
  case atStart =>
    refine ⟨0, by omega, rfl, ?_, ?_, ?_⟩
    · exact (Row.new w z64 65).alloc _
    · have := Row.new (w.alloc (.cells z64 65)) z64 65
      rw [show (w.alloc (.cells z64 65)).heap.size = w.heap.size + 1 by simp] at this
      exact this
    · exact ((Below.refl _ _).alloc (Nat.le_refl _) _).alloc (by simp) _
  case round =>
    obtain ⟨k, hk, rfl, HI⟩ := hrel
    by_cases h1 : k < 16
    · obtain ⟨i1, i2, i3⟩ := HI.out
      obtain ⟨b0, hb0⟩ : ∃ x, x = b.getD (4 * k) 0 := ⟨_, rfl⟩
      obtain ⟨b1, hb1⟩ : ∃ x, x = b.getD (4 * k + 1) 0 := ⟨_, rfl⟩
      obtain ⟨b2, hb2⟩ : ∃ x, x = b.getD (4 * k + 2) 0 := ⟨_, rfl⟩
      obtain ⟨b3, hb3⟩ : ∃ x, x = b.getD (4 * k + 3) 0 := ⟨_, rfl⟩
      have l0 : b0 < 256 := by rw [hb0]; exact HB.out _
      have l1 : b1 < 256 := by rw [hb1]; exact HB.out _
      have l2 : b2 < 256 := by rw [hb2]; exact HB.out _
      have l3 : b3 < 256 := by rw [hb3]; exact HB.out _
      have hcell : ∀ j, j < 64 → wr.cell? ⟨r, o + j, none⟩ = some (.int .u8 (b.getD j 0 : Nat)) := fun j hj => (i3.cell (p := ⟨r, o + j, none⟩) hr).trans (H.out j (by rw [HL.out]; exact hj))
      obtain ⟨A0, hA0⟩ : ∃ x, x = 4 * k := ⟨_, rfl⟩
      obtain ⟨A1, hA1⟩ : ∃ x, x = 4 * k + 1 := ⟨_, rfl⟩
      obtain ⟨A2, hA2⟩ : ∃ x, x = 4 * k + 2 := ⟨_, rfl⟩
      obtain ⟨A3, hA3⟩ : ∃ x, x = 4 * k + 3 := ⟨_, rfl⟩
      rw [← hA0] at hb0
      rw [← hA1] at hb1
      rw [← hA2] at hb2
      rw [← hA3] at hb3
      have u0 : (A0 : Int) < 64 := by omega
      have u1 : (A1 : Int) < 64 := by omega
      have u2 : (A2 : Int) < 64 := by omega
      have u3 : (A3 : Int) < 64 := by omega
      have v0 : IntKind.i64.wrap (4 * (k : Int)) = A0 := by simp [IntKind.wrap, IntKind.signed, IntKind.bits]; omega
      have v1 : IntKind.i64.wrap ((A0 : Int) + 1) = A1 := by simp [IntKind.wrap, IntKind.signed, IntKind.bits]; omega
      have v2 : IntKind.i64.wrap ((A0 : Int) + 2) = A2 := by simp [IntKind.wrap, IntKind.signed, IntKind.bits]; omega
      have v3 : IntKind.i64.wrap ((A0 : Int) + 3) = A3 := by simp [IntKind.wrap, IntKind.signed, IntKind.bits]; omega
      have e0 := hcell A0 (by omega)
      have e1 := hcell A1 (by omega)
      have e2 := hcell A2 (by omega)
      have e3 := hcell A3 (by omega)
      rw [← hb0] at e0
      rw [← hb1] at e1
      rw [← hb2] at e2
      rw [← hb3] at e3
      have ef : wr.frozen? ⟨w.heap.size + 1, k, none⟩ = false := i2.frozen k
      have ec : wr.cell? ⟨w.heap.size + 1, k, none⟩ = some (.int .u32 ((wsz b k).getD k 0 : Nat)) := i2.num0 (by rw [wsz_length b k (by omega)]; omega)
      obtain ⟨z, hz⟩ : ∃ z, z = (wsz b k).getD k 0 := ⟨_, rfl⟩
      rw [← hz] at ec
      clear hcell hz
      have HA := hide hA0
      have HA1 := hide hA1
      have HA2 := hide hA2
      have HA3 := hide hA3
      have HB0 := hide hb0
      have HB1 := hide hb1
      have HB2 := hide hb2
      have HB3 := hide hb3
      clear hb0 hb1 hb2 hb3 hA0 hA1 hA2 hA3 i1 i2 i3
      have hk2 : (k : Int) < 64 := by omega
      have hne : r ≠ w.heap.size + 1 := by omega
      have hne' : w.heap.size + 1 ≠ r := by omega
      obtain ⟨X, hX⟩ : ∃ x, x = be4 b0 b1 b2 b3 := ⟨_, rfl⟩
      have hbe := fold_be4 b0 b1 b2 b3 l0 l1 l2 l3
      rw [← hX] at hbe
      have HX := hide hX
      clear hX
      go_wp2_with fail
      go_region_held3 (fun w' => w'.cell? ⟨r, o + A0, none⟩ = some (.int .u8 b0) ∧ w'.cell? ⟨r, o + A1, none⟩ = some (.int .u8 b1) ∧ w'.cell? ⟨r, o + A2, none⟩ = some (.int .u8 b2) ∧ w'.cell? ⟨r, o + A3, none⟩ = some (.int .u8 b3)) (go_keep) (fail)
      all_goals
        clear hbe v0 v1 v2 v3
        go_wp2_with fail
        go_roundw
        case rel =>
          obtain ⟨i1, i2, i3⟩ := HI.out
          have e : X = if k < 16 then be4 (b.getD (4 * k) 0) (b.getD (4 * k + 1) 0) (b.getD (4 * k + 2) 0) (b.getD (4 * k + 3) 0) else ext (sch b k) k := by
            rw [if_pos h1, HX.out, HB0.out, HB1.out, HB2.out, HB3.out, HA.out, HA1.out, HA2.out, HA3.out]
          refine ⟨k + 1, by omega, by go_num, ?_, ?_, ?_⟩
          · exact i1.kept (sets_keep (w.heap.size + 1) wr k (.int .u32 X)) (by omega) (by omega)
          · have := i2.setNum0 k X
            rwa [wsz_set b k X (by omega) e] at this
          · exact i3.trans ((sets_keep (w.heap.size + 1) wr k (.int .u32 X)).below (by omega) (by omega) i3.size)
        case measure => simp [intOf]; omega
    · have HK : Hid (k = 16) := by show k = 16; omega
      have h16 : 16 ≤ k := by omega
      clear h1
      go_wp2_with fail
      go_loopw [5] (fun i wr => ∃ k : Nat, 16 ≤ k ∧ k ≤ 64 ∧ i = .int .i64 k ∧ Hid (Row wr w.heap.size 65 z64.toList ∧ Row wr (w.heap.size + 1) 65 (nums .u32 (wsz b k)) ∧ Below w.heap.size w wr)) (fun i _ => 64 - (intOf i).toNat)
      case atStart => exact ⟨16, by omega, by omega, rfl, by rw [← HK.out]; exact HI.out⟩
      case round =>
        clear HI
        obtain ⟨k, hk0, hk, rfl, HI⟩ := hrel
        by_cases h2 : k < 64
        · obtain ⟨i1, i2, i3⟩ := HI.out
          have hlt : ∀ j, (sch b k).getD j 0 < 4294967296 := sch_getD_lt b HB.out k
          obtain ⟨k2, hk2⟩ : ∃ x, x = k - 2 := ⟨_, rfl⟩
          obtain ⟨k7, hk7⟩ : ∃ x, x = k - 7 := ⟨_, rfl⟩
          obtain ⟨k15, hk15⟩ : ∃ x, x = k - 15 := ⟨_, rfl⟩
          obtain ⟨k16, hk16⟩ : ∃ x, x = k - 16 := ⟨_, rfl⟩
          have m2 : (k : Int) - 2 = k2 := by omega
          have m7 : (k : Int) - 7 = k7 := by omega
          have m15 : (k : Int) - 15 = k15 := by omega
          have m16 : (k : Int) - 16 = k16 := by omega
          have lt2 : (k2 : Int) < 64 := by omega
          have lt7 : (k7 : Int) < 64 := by omega
          have lt15 : (k15 : Int) < 64 := by omega
          have lt16 : (k16 : Int) < 64 := by omega
          have v2 : IntKind.i64.wrap (k2 : Int) = k2 := wrap_i _ (by omega) (by omega)
          have v7 : IntKind.i64.wrap (k7 : Int) = k7 := wrap_i _ (by omega) (by omega)
          have v15 : IntKind.i64.wrap (k15 : Int) = k15 := wrap_i _ (by omega) (by omega)
          have v16 : IntKind.i64.wrap (k16 : Int) = k16 := wrap_i _ (by omega) (by omega)
          have hcell : ∀ j, j < k → wr.cell? ⟨w.heap.size + 1, j, none⟩ = some (.int .u32 ((sch b k).getD j 0 : Nat)) := fun j hj => by
            rw [← wsz_old b k j hj]
            exact i2.num0 (by rw [wsz_length b k hk]; omega)
          have e2 := hcell k2 (by omega)
          have e7 := hcell k7 (by omega)
          have e15 := hcell k15 (by omega)
          have e16 := hcell k16 (by omega)
          have l2 := hlt k2
          have l7 := hlt k7
          have l15 := hlt k15
          have l16 := hlt k16
          obtain ⟨y2, hy2⟩ : ∃ x, x = (sch b k).getD k2 0 := ⟨_, rfl⟩
          obtain ⟨y7, hy7⟩ : ∃ x, x = (sch b k).getD k7 0 := ⟨_, rfl⟩
          obtain ⟨y15, hy15⟩ : ∃ x, x = (sch b k).getD k15 0 := ⟨_, rfl⟩
          obtain ⟨y16, hy16⟩ : ∃ x, x = (sch b k).getD k16 0 := ⟨_, rfl⟩
          rw [← hy2] at e2 l2
          rw [← hy7] at e7 l7
          rw [← hy15] at e15 l15
          rw [← hy16] at e16 l16
          have ef : wr.frozen? ⟨w.heap.size + 1, k, none⟩ = false := i2.frozen k
          have ec : wr.cell? ⟨w.heap.size + 1, k, none⟩ = some (.int .u32 ((wsz b k).getD k 0 : Nat)) := i2.num0 (by rw [wsz_length b k hk]; omega)
          obtain ⟨z, hz⟩ : ∃ z, z = (wsz b k).getD k 0 := ⟨_, rfl⟩
          rw [← hz] at ec
          have g1 := fold_ss1 y2 l2
          have g0 := fold_ss0 y15 l15
          have ge := fold_ext (ss1 y2) y7 (ss0 y15) y16
          obtain ⟨X, hX⟩ : ∃ x, x = (ss1 y2 + y7 + ss0 y15 + y16) % 4294967296 := ⟨_, rfl⟩
          rw [← hX] at ge
          have e : X = if k < 16 then be4 (b.getD (4 * k) 0) (b.getD (4 * k + 1) 0) (b.getD (4 * k + 2) 0) (b.getD (4 * k + 3) 0) else ext (sch b k) k := by
            rw [if_neg (by omega), hX, ext, hy2, hy7, hy15, hy16, hk2, hk7, hk15, hk16]
          have E := hide e
          have hk3 : (k : Int) < 64 := by omega
          have d2 : k2 ≠ k := by omega
          have d7 : k7 ≠ k := by omega
          have d15 : k15 ≠ k := by omega
          have d16 : k16 ≠ k := by omega
          have f7 : k ≠ k7 := by omega
          have f16 : k ≠ k16 := by omega
          have a7 : (⟨w.heap.size + 1, k7, none⟩ : Addr) ≠ ⟨w.heap.size + 1, k, none⟩ := by intro h; cases h; omega
          have a16 : (⟨w.heap.size + 1, k16, none⟩ : Addr) ≠ ⟨w.heap.size + 1, k, none⟩ := by intro h; cases h; omega
          clear e hX hy2 hy7 hy15 hy16 hk2 hk7 hk15 hk16 hcell hlt hz i1 i2 i3
          go_wp2_with fail
          go_quiet (fail)
          go_wp2_with fail
          go_region_held3 (fun w' => w'.cell? ⟨w.heap.size + 1, k7, none⟩ = some (.int .u32 y7) ∧ w'.cell? ⟨w.heap.size + 1, k16, none⟩ = some (.int .u32 y16)) (first | go_keep | (exact ⟨cell_set_off (w := wr.drewN _) e7 d7, cell_set_off (w := wr.drewN _) e16 d16⟩)) (first
            | (go_at_call 36; refine (right_at _ _ _ (by omega) (by omega) (by omega)).mono ?_; rintro e w1 ⟨rfl, rfl⟩))
          all_goals
            clear g1 g0 ge v2 v7 v15 v16 m2 m7 m15 m16
            go_wp2_with fail
            go_roundw
            case rel =>
              obtain ⟨i1, i2, i3⟩ := HI.out
              have KK : Kept (w.heap.size + 1) (w.heap.size + 1) wr ((wr.drewN (nq + 1)).setCell ⟨w.heap.size + 1, k, none⟩ (.int .u32 (X : Nat))) := ((Kept.refl _ _ wr).drewN (nq + 1)).set _ _
              refine ⟨k + 1, by omega, by omega, by go_num, ?_, ?_, ?_⟩
              · exact i1.kept KK (by omega) (by omega)
              · have := (i2.drewN (nq + 1)).setNum0 k X
                rwa [wsz_set b k X (by omega) E.out] at this
              · exact i3.trans (KK.below (by omega) (by omega) i3.size)
            case measure => simp [intOf]; omega
        · obtain rfl : k = 64 := by omega
          obtain ⟨i1, i2, i3⟩ := HI.out
          rw [wsz_all] at i2
          have I1 := hide i1
          have I2 := hide i2
          have I3 := hide i3
          clear i1 i2 i3 HI
          obtain ⟨W2, hW2⟩ : ∃ W2, W2 = wr.setRow w.heap.size (nums .u32 (sch b 64)).toArray := ⟨_, rfl⟩
          have hsz : (nums .u32 (sch b 64)).toArray.size = 64 := by simp [nums, sch_length]
          have HW2 := hide hW2
          have HSZ := hide hsz
          clear hW2 hsz
          go_wp2_with (first
            | (refine wpList_load_row rfl 65 _ rfl (w.heap.size + 1) rfl 65 (nums .u32 (sch b 64)).toArray _ _ I2.out Tryd.underlying65 rfl ?_ ?_; (rw [HSZ.out]; exact info65))
            | (refine wpList_store_rowW rfl 65 _ _ rfl w.heap.size (nums .u32 (sch b 64)).toArray rfl rfl 65 z64 (I1.out) ?_ ?_ ?_ W2 HW2.out ?_; (rw [HSZ.out]; exact info65); (rw [HSZ.out]; rfl); (rw [Array.all_eq_true_iff_forall_mem]; intro v hv; exact nums_one _ _ v (by simpa using hv))))
          have hrow : Row W2 w.heap.size 65 (nums .u32 (sch b 64)) := by rw [HW2.out]; exact setRow_heap _ _ _ _ _ _ I1.out
          refine bodyPost_ret (results_cell_row rfl _ _ w.heap.size 65 (nums .u32 (sch b 64)).toArray _ _ rfl hrow Tryd.underlying65 rfl (by rw [HSZ.out]; exact info65)) rfl ⟨rfl, ?_⟩
          rw [HW2.out]
          exact I3.out.trans (((Kept.refl w.heap.size w.heap.size wr).setRow (Or.inl rfl) _).below (Nat.le_refl _) (Nat.le_refl _) I3.out.size)
end Go.Proofs.YtaibdmmacncejaaDoor
