/-
  Numbers as bytes ('highestFirst'), and the words as bytes ('bytes' of package digest); conditions as each theorem has them.
-/
import Derived.Test.YtaibdmmacncejaaDoorE
set_option linter.unusedSimpArgs false
set_option linter.unusedVariables false
namespace Go.Proofs.YtaibdmmacncejaaDoor
open Go.RowKit

theorem info5 : (Tryd.prog.info? 5).map (·.size) = some 1 := by kernel_rfl
theorem info5' : (Tryd.prog.info? 5).map (fun i => (i.zero, i.size, i.bytes)) = some (some (.int .u8 0), 1, 1) := by kernel_rfl
theorem run_make0 (n : Nat) (hn : n ≤ 140737488355328) (w : World) : (Instr.makeSlice 28 (.int .i64 n) (.int .i64 n)).run Tryd.prog w = .ok (.slice (some ⟨w.heap.size, 0, none⟩) n n) (w.alloc (.cells (nums .u8 (List.replicate n 0)).toArray 5)) := by
  have h := run_make_row' (P := Tryd.prog) 28 5 (.int .u8 0) 1 Tryd.underlying28 info5' rfl .i64 .i64 n (by omega) (by omega) w
  rw [h]
  have e : madeCells #[Value.int .u8 0] n = (nums .u8 (List.replicate n 0)).toArray := by
    rw [← Array.toList_inj, toList_madeCells_one]
    simp [nums]
  rw [e]

/-- The first k bytes of hf x n, and zeros behind them. -/
def hfz (x n k : Nat) : List Nat := (hf x n).take k ++ List.replicate (n - k) 0
theorem hfz_length (x n k : Nat) (h : k ≤ n) : (hfz x n k).length = n := by simp [hfz, hf_length]; omega
theorem hf_get (x n k : Nat) (h : k < n) : (hf x n).getD k 0 = x / 2 ^ (8 * (n - 1 - k)) % 256 := by
  simp [hf, List.getD, List.getElem?_map, List.getElem?_range h]
theorem hfz_set (x n k : Nat) (h : k < n) : (hfz x n k).set k (x / 2 ^ (8 * (n - 1 - k)) % 256) = hfz x n (k + 1) := by
  have hl : ((hf x n).take k).length = k := by rw [List.length_take, hf_length]; omega
  unfold hfz
  rw [List.set_append_right _ _ (by omega), hl, Nat.sub_self, show n - k = (n - (k + 1)) + 1 by omega, List.replicate_succ, List.set_cons_zero, List.take_succ_eq_append_getElem (by rw [hf_length]; exact h), ← hf_get x n k h]
  have e : (hf x n)[k]?.getD 0 = (hf x n)[k]'(by rw [hf_length]; exact h) := by rw [List.getElem?_eq_getElem (show k < (hf x n).length by rw [hf_length]; exact h)]; rfl
  rw [List.getD, e, List.append_assoc]
  rfl
theorem hfz_zero (x n : Nat) : hfz x n 0 = List.replicate n 0 := by simp [hfz]
theorem hfz_all (x n : Nat) : hfz x n n = hf x n := by
  have := hf_length x n
  simp [hfz, List.take_of_length_le (Nat.le_of_eq this)]

set_option maxHeartbeats 1000000 in
theorem hf_at (x n : Nat) (w : World) (hx : x < 18446744073709551616) (hn : n ≤ 8) :
    Calls Tryd.prog 31 #[.int .u64 x, .int .i64 n] w fun e w' => e = .returned (.slice (some ⟨w.heap.size, 0, none⟩) n n) ∧ Row w' w.heap.size 5 (nums .u8 (hf x n)) ∧ Below w.heap.size w w' := by
  have hmk := run_make0 n (by omega)
  go_enter Tryd.func31, Tryd.ntmps31
  go_wp2_with fail
  clear hmk
  go_loopw [11] (fun i wr => ∃ k : Nat, k ≤ n ∧ i = .int .i64 k ∧ Hid (Row wr w.heap.size 5 (nums .u8 (hfz x n k)) ∧ Below w.heap.size w wr)) (fun i _ => n - (intOf i).toNat)
  case atStart =>
    refine ⟨0, by omega, rfl, ?_, (Below.refl _ _).alloc (Nat.le_refl _) _⟩
    rw [hfz_zero]
    exact Row.new w (nums .u8 (List.replicate n 0)).toArray 5
  case round =>
    obtain ⟨k, hk, rfl, HI⟩ := hrel
    by_cases h1 : k < n
    · obtain ⟨i1, i2⟩ := HI.out
      have ec : wr.cell? ⟨w.heap.size, k, none⟩ = some (.int .u8 ((hfz x n k).getD k 0 : Nat)) := i1.num0 (by rw [hfz_length x n k hk]; exact h1)
      have ef : wr.frozen? ⟨w.heap.size, k, none⟩ = false := i1.frozen k
      have i3 := i1.setNum0 k (x / 2 ^ (8 * (n - 1 - k)) % 256)
      rw [hfz_set x n k h1] at i3
      have i4 := i2.trans (((Kept.refl w.heap.size w.heap.size wr).set k (.int .u8 (x / 2 ^ (8 * (n - 1 - k)) % 256 : Nat))).below (Nat.le_refl _) (Nat.le_refl _) i2.size)
      obtain ⟨z, hz⟩ : ∃ z, z = (hfz x n k).getD k 0 := ⟨_, rfl⟩
      rw [← hz] at ec
      have I3 := hide i3
      have I4 := hide i4
      clear hz i1 i2 i3 i4 HI
      go_wp2_with fail
      have e : ((x : Int) / 2 ^ (8 * (n - 1 - k)) % 256) = ((x / 2 ^ (8 * (n - 1 - k)) % 256 : Nat) : Int) := by simp
      rw [e]
      go_roundw
      case rel => exact ⟨k + 1, by omega, by go_num, I3.out, I4.out⟩
      case measure => simp [intOf]; omega
    · have HK : Hid (k = n) := by show k = n; omega
      go_wp2_with fail
      go_ret
      obtain ⟨i1, i2⟩ := HI.out
      rw [HK.out, hfz_all] at i1
      exact ⟨rfl, i1, i2⟩

theorem below_of_drewN {B : Nat} {w w' : World} {n : Nat} (h : Below B (w.drewN n) w') : Below B w w' := ⟨h.os, h.tape, h.output, h.size, h.block⟩

def z32 : Array Value := (nums .u8 (List.replicate 32 0)).toArray
theorem zero24 (w : World) : (zeroValue 24).run Tryd.prog w = .ok (.agg z32) w := by kernel_rfl
theorem info24 : (Tryd.prog.info? 24).map (·.size) = some 32 := by kernel_rfl

theorem und24 : Tryd.prog.underlying 24 = some (.array (Tryd.prog.arrayLen 24) (Tryd.prog.elem 24)) := by kernel_rfl
theorem len24 : Tryd.prog.arrayLen 24 = 32 := by kernel_rfl
theorem und40 : Tryd.prog.underlying 40 = some (.array (Tryd.prog.arrayLen 40) (Tryd.prog.elem 40)) := by kernel_rfl
theorem len40 : Tryd.prog.arrayLen 40 = 64 := by kernel_rfl
theorem size24 (w : World) : (sizeOf (Tryd.prog.elem 24)).run Tryd.prog w = .ok 1 w := by kernel_rfl
theorem size40 (w : World) : (sizeOf (Tryd.prog.elem 40)).run Tryd.prog w = .ok 1 w := by kernel_rfl
/-- 's[A:]' of an array of 32 bytes. -/
theorem run_cut24 (g o A L : Nat) (h : A + L = 32) (h1 : 0 < L) (w : World) : (Instr.sliceAt 24 (.pointer (some ⟨g, o, none⟩)) (some (.int .i64 A)) none none).run Tryd.prog w = .ok (.slice (some ⟨g, o + A, none⟩) L L) w := by
  rw [run_sliceAt_array_l w 24 ⟨g, o, none⟩ und24 .i64 A (by omega) (by rw [len24]; omega), size24, len24]
  simp only [Result.andThen_ok, slicedAt, Int.toNat_natCast, add_none]
  rw [if_neg (by omega), Nat.mul_one, show 32 - A = L by omega]
/-- 'p[A:]' of an array of 64 bytes. -/
theorem run_cut40 (g o A L : Nat) (h : A + L = 64) (h1 : 0 < L) (w : World) : (Instr.sliceAt 40 (.pointer (some ⟨g, o, none⟩)) (some (.int .i64 A)) none none).run Tryd.prog w = .ok (.slice (some ⟨g, o + A, none⟩) L L) w := by
  rw [run_sliceAt_array_l w 40 ⟨g, o, none⟩ und40 .i64 A (by omega) (by rw [len40]; omega), size40, len40]
  simp only [Result.andThen_ok, slicedAt, Int.toNat_natCast, add_none]
  rw [if_neg (by omega), Nat.mul_one, show 64 - A = L by omega]

/-- 'copy' into a row that is known whole: cs goes over, nothing else turns. -/
theorem run_copy_seg {P : Program} (w : World) (dT sT ty elem : TypeId) (hu : P.underlying dT = some (.slice elem)) (hsz : (P.info? elem).map (·.size) = some 1)
    (dp sp : Option Addr) (dLen dCap sLen sCap : Nat)
    (g off : Nat) (cur : List Value) (t : TypeId) (hg : Row w g t cur) (cs : List Value) (hn : cs.length = Nat.min sLen dLen)
    (hpos : 0 < cs.length → dp = some ⟨g, off, none⟩ ∧ ∃ ad, sp = some ad ∧ ∀ j v, cs[j]? = some v → w.cell? (ad.add j) = some v)
    (hfit : off + cs.length ≤ cur.length) (h1 : ∀ v ∈ cs, v.oneCell' = true) :
    ∃ w', (Builtin.copy_ #[dT, sT] ty #[.slice dp dLen dCap, .slice sp sLen sCap]).run P w = .ok (goInt cs.length) w' ∧ Row w' g t (splice cur off cs) ∧ Kept g g w w' := by
  by_cases h0 : cs.length = 0
  · obtain rfl : cs = [] := List.eq_nil_of_length_eq_zero h0
    exact ⟨w, run_copy_none (P := P) w dT sT ty elem dp sp dLen dCap sLen sCap hu hsz (by simpa using hn.symm), by simpa [splice] using hg, Kept.refl _ _ _⟩
  · obtain ⟨rfl, ad, rfl, hsrc⟩ := hpos (by omega)
    refine ⟨_, run_copy_row (P := P) w dT sT ty elem g off dLen dCap ad sLen sCap cur.toArray t cs hu hsz hg hn hsrc (by simpa using hfit) h1, ?_, (Kept.refl _ _ _).setRow (Or.inl rfl) _⟩
    have := setRow_heap w g _ (splice cur off cs).toArray t _ hg
    simpa [splice, Row] using this

theorem St.Ok.get {s : St} (h : s.Ok) (j : Nat) : s.list.getD j 0 < 4294967296 := by
  match j with
  | 0 => exact h.a
  | 1 => exact h.b
  | 2 => exact h.c
  | 3 => exact h.d
  | 4 => exact h.e
  | 5 => exact h.f
  | 6 => exact h.g
  | 7 => exact h.h
  | n + 8 => exact (by decide : 0 < 4294967296)
/-- The first k words' bytes, and zeros behind them. -/
def bz (s : St) (k : Nat) : List Nat := (bytesOf s).take (4 * k) ++ List.replicate (32 - 4 * k) 0
theorem bz_length (s : St) (k : Nat) (h : k ≤ 8) : (bz s k).length = 32 := by simp [bz, bytesOf_length]; omega
theorem bz_zero (s : St) : bz s 0 = List.replicate 32 0 := by simp [bz]
theorem bz_all (s : St) : bz s 8 = bytesOf s := by
  have := bytesOf_length s
  simp [bz, List.take_of_length_le (Nat.le_of_eq this)]
theorem hf4 (x : Nat) : hf x 4 = [x / 16777216 % 256, x / 65536 % 256, x / 256 % 256, x % 256] := by simp [hf, List.range_succ]
theorem bytesOf_lay (s : St) : bytesOf s = [s.a / 16777216 % 256, s.a / 65536 % 256, s.a / 256 % 256, s.a % 256, s.b / 16777216 % 256, s.b / 65536 % 256, s.b / 256 % 256, s.b % 256, s.c / 16777216 % 256, s.c / 65536 % 256, s.c / 256 % 256, s.c % 256, s.d / 16777216 % 256, s.d / 65536 % 256, s.d / 256 % 256, s.d % 256, s.e / 16777216 % 256, s.e / 65536 % 256, s.e / 256 % 256, s.e % 256, s.f / 16777216 % 256, s.f / 65536 % 256, s.f / 256 % 256, s.f % 256, s.g / 16777216 % 256, s.g / 65536 % 256, s.g / 256 % 256, s.g % 256, s.h / 16777216 % 256, s.h / 65536 % 256, s.h / 256 % 256, s.h % 256] := by
  simp [bytesOf, hf4]
theorem bz_next (s : St) (k : Nat) (h : k < 8) : splice (nums .u8 (bz s k)) (4 * k) (nums .u8 (hf (s.list.getD k 0) 4)) = nums .u8 (bz s (k + 1)) := by
  have e : ∀ (a b : List Nat) (o : Nat), splice (nums .u8 a) o (nums .u8 b) = nums .u8 (a.take o ++ b ++ a.drop (o + b.length)) := by intro a b o; simp [splice, nums]
  rw [e]
  congr 1
  rw [hf4, bz, bz, bytesOf_lay]
  match k, h with
  | 0, _ => rfl
  | 1, _ => rfl
  | 2, _ => rfl
  | 3, _ => rfl
  | 4, _ => rfl
  | 5, _ => rfl
  | 6, _ => rfl
  | 7, _ => rfl

theorem cp_run (w : World) (g A L h y : Nat) (cur : List Nat) (hr : Row w g 24 (nums .u8 cur)) (hh : Row w h 5 (nums .u8 (hf y 4))) (hA : A + 4 ≤ cur.length) (hL : 4 ≤ L) :
    ∃ w4, (Builtin.copy_ #[28, 28] 3 #[.slice (some ⟨g, A, none⟩) L L, .slice (some ⟨h, 0, none⟩) 4 4]).run Tryd.prog w = .ok (.int .i64 4) w4 ∧ Row w4 g 24 (splice (nums .u8 cur) A (nums .u8 (hf y 4))) ∧ Kept g g w w4 := by
  have hl : (nums .u8 (hf y 4)).length = 4 := by rw [nums_length, hf_length]
  obtain ⟨w4, h1, h2, h3⟩ := run_copy_seg (P := Tryd.prog) w 28 28 3 5 Tryd.underlying28 info5 (some ⟨g, A, none⟩) (some ⟨h, 0, none⟩) L L 4 4 g A (nums .u8 cur) 24 hr (nums .u8 (hf y 4))
    (by rw [hl]; show 4 = min 4 L; omega) (fun _ => ⟨rfl, _, rfl, fun j v hv => by
      obtain ⟨hj, rfl⟩ := nums_at _ _ _ _ hv
      rw [add_none, Nat.zero_add]
      exact hh.num0 hj⟩) (by rw [hl, nums_length]; exact hA) (nums_one _ _)
  rw [hl] at h1
  exact ⟨w4, h1, h2, h3⟩

set_option maxRecDepth 100000 in
set_option maxHeartbeats 4000000 in
theorem bytes_at (r : Nat) (s : St) (w : World) (hs : s.Ok) (hc : ∀ j, j < 8 → w.cell? ⟨r, 1 + j, none⟩ = some (.int .u32 (s.list.getD j 0 : Nat))) (hr : r < w.heap.size) :
    Calls Tryd.prog 28 #[.pointer (some ⟨r, 1, none⟩)] w fun e w' => e = .returned (.agg (nums .u8 (bytesOf s)).toArray) ∧ Below w.heap.size w w' := by
  have HC := hide hc
  have HS := hide hs
  clear hc hs
  have hz := zero24
  go_enter Tryd.func28, Tryd.ntmps28
  go_wp2_with fail
  clear hz
  go_loopw [7] (fun i wr => ∃ k : Nat, k ≤ 8 ∧ i = .int .i64 k ∧ Hid (Row wr w.heap.size 24 z32.toList ∧ Row wr (w.heap.size + 1) 24 (nums .u8 (bz s k)) ∧ Below w.heap.size w wr)) (fun i _ => 8 - (intOf i).toNat)
  case atStart =>
    refine ⟨0, by omega, rfl, ?_, ?_, ?_⟩
    · exact (Row.new w z32 24).alloc _
    · have := Row.new (w.alloc (.cells z32 24)) z32 24
      rw [show (w.alloc (.cells z32 24)).heap.size = w.heap.size + 1 by simp] at this
      rw [bz_zero]
      exact this
    · exact ((Below.refl _ _).alloc (Nat.le_refl _) _).alloc (by simp) _
  case round =>
    obtain ⟨k, hk, rfl, HI⟩ := hrel
    by_cases h1 : k < 8
    · obtain ⟨i1, i2, i3⟩ := HI.out
      have e1 : wr.cell? ⟨r, 1 + k, none⟩ = some (.int .u32 (s.list.getD k 0 : Nat)) := (i3.cell (p := ⟨r, 1 + k, none⟩) hr).trans (HC.out k h1)
      have hyl := HS.out.get k
      have hnx := bz_next s k h1
      obtain ⟨y, hy⟩ : ∃ y, y = s.list.getD k 0 := ⟨_, rfl⟩
      rw [← hy] at e1 hyl hnx
      have hk3 : (k : Int) < 8 := by omega
      obtain ⟨A, hA⟩ : ∃ A, A = 4 * k := ⟨_, rfl⟩
      obtain ⟨L, hL⟩ : ∃ L, L = 32 - 4 * k := ⟨_, rfl⟩
      rw [← hA] at hnx
      have HN := hide hnx
      have v0 : IntKind.i64.wrap (4 * (k : Int)) = A := by simp [IntKind.wrap, IntKind.signed, IntKind.bits]; omega
      have v1 : IntKind.u64.wrap (y : Int) = y := by rw [IntKind.wrap_u64]; omega
      have hA2 : (A : Int) < 32 := by omega
      have hA3 : A + 4 ≤ 32 := by omega
      have hL4 : 4 ≤ L := by omega
      have hcut := run_cut24 (w.heap.size + 1) 0 A L (by omega) (by omega)
      rw [Nat.zero_add] at hcut
      have I1 := hide i1
      have I2 := hide i2
      have I3 := hide i3
      clear i1 i2 i3 HI hy hA hL hnx
      go_wp2_with fail
      go_quiet (fail)
      go_wp2_with fail
      go_region_held3 (fun w' => True) (trivial) (first
        | (go_at_call 31; refine (hf_at y 4 _ (by omega) (by omega)).mono ?_; rintro e w3 ⟨rfl, r3, b3⟩; obtain ⟨w4, hrun, r4, k4⟩ := cp_run w3 (w.heap.size + 1) A L wr.heap.size y (bz s k) (by exact (I2.out.drewN _).below b3 I2.out.lt) (by exact r3) (by rw [bz_length s k hk]; exact hA3) hL4))
      all_goals
        have R4 := hide r4
        have K4 := hide k4
        have B3 := hide b3
        clear r3 b3 r4 k4 hrun hcut v0 v1
        go_wp2_with fail
        go_roundw
        case rel =>
          have l1 := I1.out.lt
          have l2 := I2.out.lt
          have b4 : Below wr.heap.size wr w3 := below_of_drewN B3.out
          have r4 := R4.out
          rw [HN.out] at r4
          refine ⟨k + 1, by omega, by go_num, (I1.out.below b4 l1).kept K4.out (by omega) (by omega), r4, ?_⟩
          exact (I3.out.trans (b4.mono I3.out.size)).trans (K4.out.below (by omega) (by omega) (Nat.le_trans I3.out.size b4.size))
        case measure => simp [intOf]; omega
    · have HK : Hid (k = 8) := by show k = 8; omega
      obtain ⟨i1, i2, i3⟩ := HI.out
      rw [HK.out, bz_all] at i2
      have I1 := hide i1
      have I2 := hide i2
      have I3 := hide i3
      clear i1 i2 i3 HI
      obtain ⟨V, hV⟩ : ∃ V, V = (nums .u8 (bytesOf s)).toArray := ⟨_, rfl⟩
      have hsz : V.size = 32 := by rw [hV]; simp [nums, bytesOf_length]
      have hall : V.all (·.oneCell') = true := by rw [hV]; exact nums_all _ _
      obtain ⟨W2, hW2⟩ : ∃ W2, W2 = wr.setRow w.heap.size V := ⟨_, rfl⟩
      have i2 : wr.heap[w.heap.size + 1]? = some (.cells V 24) := by rw [hV]; exact I2.out
      have hrow : W2.heap[w.heap.size]? = some (.cells V 24) := by rw [hW2]; exact setRow_heap _ _ _ _ _ _ I1.out
      have HV := hide hV
      have HW2 := hide hW2
      have HSZ := hide hsz
      have HALL := hide hall
      have J2 := hide i2
      have HROW := hide hrow
      clear hV hW2 hsz hall i2 hrow
      go_wp2_with (first
        | (refine wpList_load_row rfl 24 _ rfl (w.heap.size + 1) rfl 24 V _ _ J2.out Tryd.underlying24 rfl ?_ ?_; (rw [HSZ.out]; exact info24))
        | (refine wpList_store_rowW rfl 24 _ _ rfl w.heap.size V rfl rfl 24 z32 I1.out ?_ ?_ HALL.out W2 HW2.out ?_; (rw [HSZ.out]; exact info24); (rw [HSZ.out]; rfl)))
      refine bodyPost_ret (results_cell_row rfl _ _ w.heap.size 24 V _ _ rfl HROW.out Tryd.underlying24 rfl (by rw [HSZ.out]; exact info24)) rfl ⟨by rw [HV.out], ?_⟩
      rw [HW2.out]
      exact I3.out.trans (((Kept.refl w.heap.size w.heap.size wr).setRow (Or.inl rfl) _).below (Nat.le_refl _) (Nat.le_refl _) I3.out.size)
end Go.Proofs.YtaibdmmacncejaaDoor
