/-
  A block turned ('turn' of package digest): the words behind it; conditions as each theorem has them.
-/
import Derived.Test.YtaibdmmacncejaaDoorD
set_option linter.unusedSimpArgs false
set_option linter.unusedVariables false
namespace Go.Proofs.YtaibdmmacncejaaDoor
open Go.RowKit

theorem nums_all (k : IntKind) (l : List Nat) : (nums k l).toArray.all (·.oneCell') = true := by
  rw [Array.all_eq_true_iff_forall_mem]; intro v hv; exact nums_one _ _ v (by simpa using hv)

theorem Kept.trans' {r g : Nat} {a b c : World} (h : Kept r r a b) (k : Kept g g b c) (hg : a.heap.size ≤ g) : Kept r r a c :=
  ⟨k.os.trans h.os, k.tape.trans h.tape, k.output.trans h.output, Nat.le_trans h.size k.size, fun i hi h1 _ => (k.block i (Nat.lt_of_lt_of_le hi h.size) (by omega) (by omega)).trans (h.block i hi h1 h1)⟩

/-- The two tables of package digest lie in their variables. -/
structure Tabs (w : World) : Prop where
  first : ∀ j, j < 8 → w.cell? ⟨0, j, none⟩ = some (.int .u32 (h0.list.getD j 0 : Nat))
  round : ∀ j, j < 64 → w.cell? ⟨1, j, none⟩ = some (.int .u32 (kt.getD j 0 : Nat))
theorem Tabs.size {w : World} (h : Tabs w) : 2 ≤ w.heap.size := by have := lt_of_cell (h.round 0 (by omega)); exact this
theorem Tabs.keep {w w' : World} (h : Tabs w) (e0 : w'.heap[0]? = w.heap[0]?) (e1 : w'.heap[1]? = w.heap[1]?) : Tabs w' :=
  ⟨fun j hj => (World.cell?_of_block e0).trans (h.first j hj), fun j hj => (World.cell?_of_block e1).trans (h.round j hj)⟩
theorem Tabs.below {w w' : World} {B : Nat} (h : Tabs w) (k : Below B w w') (hB : 2 ≤ B) : Tabs w' := h.keep (k.block 0 (by omega)) (k.block 1 (by omega))
theorem Tabs.kept {w w' : World} {a g : Nat} (h : Tabs w) (k : Kept a g w w') (h1 : 2 ≤ a) (h2 : 2 ≤ g) : Tabs w' :=
  h.keep (k.block 0 (by have := h.size; omega) (by omega) (by omega)) (k.block 1 (by have := h.size; omega) (by omega) (by omega))
theorem St.list_length (s : St) : s.list.length = 8 := rfl

theorem round_at0 (r t x : Nat) (ty : TypeId) (s : St) (w : World) (hs : s.Ok) (hx : x < 4294967296) (ht : t < 64) (h : Row w r ty (nums .u32 (perm s t))) :
    Calls Tryd.prog 35 #[.pointer (some ⟨r, 0, none⟩), .int .i64 t, .int .u32 x] w fun e w' => e = .returned (.tuple #[]) ∧ Row w' r ty (nums .u32 (perm (step s x) (t + 1))) ∧ Kept r r w w' := by
  refine (round_at r 0 t x ty [] [] s w hs hx ht rfl (by simpa using h)).mono ?_
  rintro e w' ⟨rfl, h1, h2⟩
  exact ⟨rfl, by simpa using h1, h2⟩

/-- The words s, to the first k of which those of t were added. -/
def part (s t : St) (k : Nat) : List Nat := (List.range 8).map fun i => if i < k then (s.list.getD i 0 + t.list.getD i 0) % 4294967296 else s.list.getD i 0
theorem part_length (s t : St) (k : Nat) : (part s t k).length = 8 := by simp [part]
theorem part_zero (s t : St) : part s t 0 = s.list := rfl
theorem part_all (s t : St) : part s t 8 = (add8 s t).list := rfl
theorem part_at (s t : St) (k : Nat) (h : k < 8) : (part s t k).getD k 0 = s.list.getD k 0 := by
  unfold part
  rw [List.getD, List.getElem?_map, List.getElem?_range h]
  simp
theorem part_set (s t : St) (k : Nat) (h : k < 8) : (part s t k).set k ((s.list.getD k 0 + t.list.getD k 0) % 4294967296) = part s t (k + 1) := by
  match k, h with
  | 0, _ => rfl
  | 1, _ => rfl
  | 2, _ => rfl
  | 3, _ => rfl
  | 4, _ => rfl
  | 5, _ => rfl
  | 6, _ => rfl
  | 7, _ => rfl

set_option maxRecDepth 100000 in
set_option maxHeartbeats 4000000 in
theorem turn_at (r : Nat) (ty : TypeId) (pre post : List Value) (s : St) (q : Nat) (b : List Nat) (w : World) (hp : pre.length = 1) (hs : s.Ok) (hT : Tabs w) (hr2 : 2 ≤ r)
    (h : Row w r ty (pre ++ nums .u32 s.list ++ post)) (hb : ∀ i, b.getD i 0 < 256) (hl : b.length = 64) (hB : BytesAt w r q b) :
    Calls Tryd.prog 26 #[.pointer (some ⟨r, 1, none⟩), .pointer (some ⟨r, q, none⟩)] w fun e w' => e = .returned (.tuple #[]) ∧ Row w' r ty (pre ++ nums .u32 (comp s b).list ++ post) ∧ Kept r r w w' := by
  have HR := hide h
  have HB := hide hB
  have Hb := hide hb
  have HL := hide hl
  have HT := hide hT
  have HS := hide hs
  have hr := h.lt
  have HP := hide hp
  clear h hB hb hl hT hs hp
  have hz := zero65
  go_enter Tryd.func26, Tryd.ntmps26
  go_wp2_with fail
  refine (draw_at r q b _ Hb.out HL.out hr HB.out).mono ?_
  rintro e w1 ⟨rfl, b1⟩
  have B1 := hide b1
  have hsz1 := b1.size
  have r1 : Row w1 r ty (pre ++ nums .u32 s.list ++ post) := HR.out.below b1 hr
  have c0 : w1.cell? ⟨r, 1, none⟩ = some (.int .u32 s.a) := r1.num (j := 0) (by rw [HP.out]) (by rw [St.list_length]; omega)
  have c1 : w1.cell? ⟨r, 2, none⟩ = some (.int .u32 s.b) := r1.num (j := 1) (by rw [HP.out]) (by rw [St.list_length]; omega)
  have c2 : w1.cell? ⟨r, 3, none⟩ = some (.int .u32 s.c) := r1.num (j := 2) (by rw [HP.out]) (by rw [St.list_length]; omega)
  have c3 : w1.cell? ⟨r, 4, none⟩ = some (.int .u32 s.d) := r1.num (j := 3) (by rw [HP.out]) (by rw [St.list_length]; omega)
  have c4 : w1.cell? ⟨r, 5, none⟩ = some (.int .u32 s.e) := r1.num (j := 4) (by rw [HP.out]) (by rw [St.list_length]; omega)
  have c5 : w1.cell? ⟨r, 6, none⟩ = some (.int .u32 s.f) := r1.num (j := 5) (by rw [HP.out]) (by rw [St.list_length]; omega)
  have c6 : w1.cell? ⟨r, 7, none⟩ = some (.int .u32 s.g) := r1.num (j := 6) (by rw [HP.out]) (by rw [St.list_length]; omega)
  have c7 : w1.cell? ⟨r, 8, none⟩ = some (.int .u32 s.h) := r1.num (j := 7) (by rw [HP.out]) (by rw [St.list_length]; omega)
  have R1 := hide r1
  have hsz : (nums .u32 (sch b 64)).toArray.size = 64 := by simp [nums, sch_length]
  obtain ⟨V, hV⟩ : ∃ V, V = (nums .u32 (sch b 64)).toArray := ⟨_, rfl⟩
  rw [← hV] at hsz
  have hall : V.all (·.oneCell') = true := by rw [hV]; exact nums_all _ _
  rw [← hV]
  obtain ⟨W2, hW2⟩ : ∃ W2, W2 = (w1.alloc (.cells z64 65)).setRow w1.heap.size V := ⟨_, rfl⟩
  have hbel : Below w1.heap.size w1 W2 := by rw [hW2]; exact (((Kept.refl w1.heap.size w1.heap.size w1).alloc _).setRow (Or.inl rfl) _).below (Nat.le_refl _) (Nat.le_refl _) (Nat.le_refl _)
  have hsz2 : W2.heap.size = w1.heap.size + 1 := by rw [hW2]; simp
  have hrow : Row W2 w1.heap.size 65 V.toList := by
    rw [hW2]
    have := setRow_heap (w1.alloc (.cells z64 65)) w1.heap.size z64 V 65 (0, 0) (alloc_new _ _)
    simpa [Row] using this
  have hrl : r < w1.heap.size := by omega
  have c0 : W2.cell? ⟨r, 1, none⟩ = some (.int .u32 s.a) := (hbel.cell (p := ⟨r, 1, none⟩) hrl).trans c0
  have c1 : W2.cell? ⟨r, 2, none⟩ = some (.int .u32 s.b) := (hbel.cell (p := ⟨r, 2, none⟩) hrl).trans c1
  have c2 : W2.cell? ⟨r, 3, none⟩ = some (.int .u32 s.c) := (hbel.cell (p := ⟨r, 3, none⟩) hrl).trans c2
  have c3 : W2.cell? ⟨r, 4, none⟩ = some (.int .u32 s.d) := (hbel.cell (p := ⟨r, 4, none⟩) hrl).trans c3
  have c4 : W2.cell? ⟨r, 5, none⟩ = some (.int .u32 s.e) := (hbel.cell (p := ⟨r, 5, none⟩) hrl).trans c4
  have c5 : W2.cell? ⟨r, 6, none⟩ = some (.int .u32 s.f) := (hbel.cell (p := ⟨r, 6, none⟩) hrl).trans c5
  have c6 : W2.cell? ⟨r, 7, none⟩ = some (.int .u32 s.g) := (hbel.cell (p := ⟨r, 7, none⟩) hrl).trans c6
  have c7 : W2.cell? ⟨r, 8, none⟩ = some (.int .u32 s.h) := (hbel.cell (p := ⟨r, 8, none⟩) hrl).trans c7
  have HV := hide hV
  have HW2 := hide hW2
  have HROW := hide hrow
  have HBEL := hide hbel
  have HSZ := hide hsz
  have HALL := hide hall
  clear hV hW2 hrow hbel hsz hall
  clear r1 b1
  go_wp2_with (refine wpList_store_rowW rfl 65 _ _ rfl w1.heap.size V rfl rfl 65 z64 (alloc_new _ _) (by rw [HSZ.out]; exact info65) (by rw [HSZ.out]; rfl) HALL.out W2 HW2.out ?_)
  obtain ⟨G, hG⟩ : ∃ G, G = w1.heap.size := ⟨_, rfl⟩
  obtain ⟨W3, hW3⟩ : ∃ W3, W3 = W2.alloc (.cells #[Value.int IntKind.u32 ↑s.a, Value.int IntKind.u32 ↑s.b, Value.int IntKind.u32 ↑s.c, Value.int IntKind.u32 ↑s.d, Value.int IntKind.u32 ↑s.e, Value.int IntKind.u32 ↑s.f, Value.int IntKind.u32 ↑s.g, Value.int IntKind.u32 ↑s.h] 38) := ⟨_, rfl⟩
  have hrow3 : Row W3 (G + 1) 38 (nums .u32 (perm (rounds (sch b 64) 0 s) 0)) := by
    rw [hW3, hG, ← hsz2, rounds, perm_zero]
    exact Row.new W2 _ 38
  have hb3 : Below w.heap.size w W3 := by rw [hW3]; exact (B1.out.trans (HBEL.out.mono hsz1)).alloc (by omega) _
  have hd3 : Row W3 G 65 (nums .u32 (sch b 64)) := by
    rw [hW3, hG]
    have := HROW.out
    rw [HV.out] at this
    simpa using Row.alloc this _
  rw [← hW3, ← hG]
  have hG1 : w.heap.size ≤ G := by omega
  have HROW3 := hide hrow3
  have HB3 := hide hb3
  have HD3 := hide hd3
  clear hW3 hG hrow3 hb3 hd3 HROW HBEL HSZ HALL HV HW2 c0 c1 c2 c3 c4 c5 c6 c7 hz hsz1 hsz2 hrl R1 B1
  go_loopw [13] (fun i wr => ∃ k : Nat, k ≤ 64 ∧ i = .int .i64 k ∧ Hid (Row wr (G + 1) 38 (nums .u32 (perm (rounds (sch b 64) k s) k)) ∧ Kept (G + 1) (G + 1) W3 wr)) (fun i _ => 64 - (intOf i).toNat)
  case atStart => exact ⟨0, by omega, rfl, HROW3.out, Kept.refl _ _ _⟩
  case round =>
    obtain ⟨k, hk, rfl, HI⟩ := hrel
    have hW3s : 2 ≤ w.heap.size := HT.out.size
    have hG3 : G < W3.heap.size := HD3.out.lt
    by_cases h1 : k < 64
    · obtain ⟨i1, i2⟩ := HI.out
      have hsch := sch_getD_lt b Hb.out 64 k
      have e1 : wr.cell? ⟨G, k, none⟩ = some (.int .u32 ((sch b 64).getD k 0 : Nat)) := (HD3.out.kept i2 (by omega) (by omega)).num0 (by rw [sch_length]; exact h1)
      have e2 : wr.cell? ⟨1, k, none⟩ = some (.int .u32 (kt.getD k 0 : Nat)) := ((HT.out.below HB3.out hW3s).kept i2 (by omega) (by omega)).round k h1
      have hX0 : IntKind.u32.wrap (((sch b 64).getD k 0 : Nat) + (kt.getD k 0 : Nat) : Int) = (((sch b 64).getD k 0 + kt.getD k 0) % 4294967296 : Nat) := by rw [IntKind.wrap_u32]; omega
      obtain ⟨y1, hy1⟩ : ∃ y, y = (sch b 64).getD k 0 := ⟨_, rfl⟩
      obtain ⟨y2, hy2⟩ : ∃ y, y = kt.getD k 0 := ⟨_, rfl⟩
      rw [← hy1] at e1 hX0
      rw [← hy2] at e2 hX0
      obtain ⟨X, hX⟩ : ∃ X, X = (y1 + y2) % 4294967296 := ⟨_, rfl⟩
      rw [← hX] at hX0
      have hXl : X < 4294967296 := by rw [hX]; exact mod_lt' _
      have HX : Hid (rounds (sch b 64) (k + 1) s = step (rounds (sch b 64) k s) X) := by show _ = _; rw [rounds, hX, hy1, hy2]
      obtain ⟨S, hS⟩ : ∃ S, S = rounds (sch b 64) k s := ⟨_, rfl⟩
      rw [← hS] at i1 HX
      have hSo : S.Ok := by rw [hS]; exact rounds_ok _ _ HS.out
      have I1 := hide i1
      have I2 := hide i2
      have HSo := hide hSo
      have hk3 : (k : Int) < 64 := by omega
      clear hX hy1 hy2 hS hSo hsch i1 i2 HI
      go_wp2_with fail
      go_region_held3 (fun w' => w'.cell? ⟨G, k, none⟩ = some (.int .u32 y1) ∧ w'.cell? ⟨1, k, none⟩ = some (.int .u32 y2)) (first | go_keep | (exact ⟨((World.cell?_of_block (k3.block G (show G < wr.heap.size by have := I2.out.size; omega) (by omega) (by omega))).trans e1), ((World.cell?_of_block (k3.block 1 (show 1 < wr.heap.size by have := I2.out.size; omega) (by omega) (by omega))).trans e2)⟩)) (first
        | (go_at_call 35; refine (round_at0 (G + 1) k X 38 S _ HSo.out hXl h1 (by exact I1.out)).mono ?_; rintro e w3 ⟨rfl, r3, k3⟩))
      all_goals
        have K3 := hide k3
        have R3 := hide r3
        clear k3 r3 hX0
        go_wp2_with fail
        go_roundw
        case rel =>
          refine ⟨k + 1, by omega, by go_num, ?_, I2.out.trans (Kept.of_drewN (n := 1) K3.out)⟩
          rw [HX.out]
          exact R3.out
        case measure => simp [intOf]; omega
    · have HK : Hid (k = 64) := by show k = 64; omega
      have h64 : 64 ≤ k := by omega
      have hd64 : decide ((k : Int) < 64) = false := by simp; omega
      obtain ⟨i1, i2⟩ := HI.out
      obtain ⟨T, hT⟩ : ∃ T, T = rounds (sch b 64) 64 s := ⟨_, rfl⟩
      have hTo : T.Ok := by rw [hT]; exact rounds_ok _ _ HS.out
      have i3 : Row wr (G + 1) 38 (nums .u32 T.list) := by
        rw [HK.out] at i1
        rw [hT, ← perm_all (rounds (sch b 64) 64 s) 64 rfl]
        exact i1
      have i4 : Row wr r ty (pre ++ nums .u32 (part s T 0) ++ post) := (HR.out.below HB3.out hr).kept i2 (by omega) (by omega)
      have I3 := hide i3
      have I4 := hide i4
      have HTo := hide hTo
      have HTT := hide hT
      have I2 := hide i2
      clear i1 i2 i3 i4 hTo hT h1 HI
      obtain ⟨wq, hwq⟩ : ∃ wq, wq = wr := ⟨_, rfl⟩
      go_wp2_with fail
      rw [← hwq] at I2 I3 I4 ⊢
      clear hwq
      go_loopw [26] (fun i wr => ∃ j : Nat, j ≤ 8 ∧ i = .int .i64 j ∧ Hid (Row wr r ty (pre ++ nums .u32 (part s T j) ++ post) ∧ Kept r r wq wr)) (fun i _ => 8 - (intOf i).toNat)
      case atStart => exact ⟨0, by omega, rfl, I4.out, Kept.refl _ _ _⟩
      case round =>
        obtain ⟨j, hj, rfl, HI⟩ := hrel
        by_cases h2 : j < 8
        · obtain ⟨i1, i5⟩ := HI.out
          have e1 : wr.cell? ⟨r, 1 + j, none⟩ = some (.int .u32 ((part s T j).getD j 0 : Nat)) := i1.num (by rw [HP.out]) (by rw [part_length]; exact h2)
          rw [part_at s T j h2] at e1
          have e2 : wr.cell? ⟨G + 1, j, none⟩ = some (.int .u32 (T.list.getD j 0 : Nat)) := (I3.out.kept i5 (by omega) (by omega)).num0 (by rw [St.list_length]; exact h2)
          have ef : wr.frozen? ⟨r, 1 + j, none⟩ = false := i1.frozen _
          have i6 := i1.setNum (o := 1 + j) (j := j) (by rw [HP.out]) (by rw [part_length]; exact h2) ((s.list.getD j 0 + T.list.getD j 0) % 4294967296)
          rw [part_set s T j h2] at i6
          have hX0 : IntKind.u32.wrap ((s.list.getD j 0 : Nat) + (T.list.getD j 0 : Nat) : Int) = ((s.list.getD j 0 + T.list.getD j 0) % 4294967296 : Nat) := by rw [IntKind.wrap_u32]; omega
          obtain ⟨y1, hy1⟩ : ∃ y, y = s.list.getD j 0 := ⟨_, rfl⟩
          obtain ⟨y2, hy2⟩ : ∃ y, y = T.list.getD j 0 := ⟨_, rfl⟩
          rw [← hy1, ← hy2] at i6 hX0
          rw [← hy1] at e1
          rw [← hy2] at e2
          obtain ⟨X, hX⟩ : ∃ X, X = (y1 + y2) % 4294967296 := ⟨_, rfl⟩
          rw [← hX] at i6 hX0
          have I5 := hide i5
          have I6 := hide i6
          have hj3 : (j : Int) < 8 := by omega
          clear hX hy1 hy2 i1 i5 i6 HI
          go_wp2_with fail
          go_region
          all_goals
            clear hX0
            go_wp2_with fail
            go_roundw
            case rel => exact ⟨j + 1, by omega, by go_num, I6.out.drewN 1, I5.out.trans (sets_keep r wr (1 + j) (.int .u32 X))⟩
            case measure => simp [intOf]; omega
        · obtain ⟨i1, i5⟩ := HI.out
          have HJ : Hid (j = 8) := by show j = 8; omega
          have I1 := hide i1
          have I5 := hide i5
          clear i1 i5 HI
          go_wp2_with fail
          go_end0
          have i1 := I1.out
          rw [HJ.out, part_all] at i1
          refine ⟨rfl, ?_, ?_⟩
          · rw [comp, ← HTT.out]; exact i1
          · have kw : Kept r r w W3 := Kept.of_below HB3.out
            have k2 : Kept r r w wq := (kw.wide (Or.inl rfl)).trans' I2.out (by omega)
            exact k2.trans I5.out
end Go.Proofs.YtaibdmmacncejaaDoor
