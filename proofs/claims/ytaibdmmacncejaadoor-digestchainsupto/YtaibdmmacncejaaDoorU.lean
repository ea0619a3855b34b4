/-
  The reference's digest of parts ('Sum' of the reference); conditions as each theorem has them.
-/
import Derived.Test.YtaibdmmacncejaaDoorS
set_option linter.unusedSimpArgs false
set_option linter.unusedVariables false
namespace Go.Proofs.YtaibdmmacncejaaDoor
open Go.RowKit

theorem flat_byte {w : World} {a : Option Addr} {n cap : Nat} {ps : List (List Nat)} (h : Parts w a n cap ps) : ∀ x ∈ ps.flatten, x < 256 := by
  intro x hx
  rw [List.mem_flatten] at hx
  obtain ⟨l, hl, hx⟩ := hx
  obtain ⟨i, hi⟩ := List.getElem?_of_mem hl
  have hin : i < n := by rw [← h.hlen]; exact (List.getElem?_eq_some_iff.1 hi).1
  obtain ⟨b, o, _, _, hc⟩ := h.lies (by omega)
  obtain ⟨ai, li, ci, _, hs⟩ := hc i hin
  have e : ps.getD i [] = l := by rw [List.getD, hi]; rfl
  rw [e] at hs
  exact hs.byte x hx
theorem Own.form {w : World} {B : Nat} {v : Value} {l : List Nat} (h : Own w B v l) (h0 : 0 < l.length) : ∃ g cap, v = .slice (some ⟨g, 0, none⟩) l.length cap ∧ l.length ≤ cap ∧ cap ≤ maxLen ∧ B ≤ g ∧ g < w.heap.size ∧ BytesAt w g 0 l := by
  rcases h.2 with ⟨rfl, h1⟩ | ⟨g, cap, cur, rfl, hg, hh, hc, hm, hs, ht⟩
  · omega
  · refine ⟨g, cap, rfl, hc, hm, hg, lt_of_some hh, fun i hi => ?_⟩
    rw [Nat.mul_one] at ht
    have e1 : cur[i]? = (nums .u8 l)[i]? := by rw [← ht, List.getElem?_take, if_pos hi]; simp
    rw [Nat.zero_add]
    simp only [World.cell?, hh]
    rw [e1]
    exact nums_get .u8 l i hi
theorem full_eq (M : List Nat) : M ++ [128] ++ List.replicate (zerosN M.length) 0 ++ hf (M.length * 8) 8 = full M := by simp [full, pad]
theorem full_byte (M : List Nat) (h : ∀ x ∈ M, x < 256) : ∀ x ∈ full M, x < 256 := by
  intro x hx
  rcases List.mem_append.1 hx with hx | hx
  · exact h x hx
  · exact pad_byte _ x hx
theorem first_words (w : World) : Words (w.alloc (.cells #[.int .u32 1779033703, .int .u32 3144134277, .int .u32 1013904242, .int .u32 2773480762, .int .u32 1359893119, .int .u32 2600822924, .int .u32 528734635, .int .u32 1541459225] 36)) w.heap.size 0 h0 :=
  words_new w 0x6a09e667 0xbb67ae85 0x3c6ef372 0xa54ff53a 0x510e527f 0x9b05688c 0x1f83d9ab 0x5be0cd19
theorem alloc_cell' {w : World} {a : Addr} {v : Value} (h : w.cell? a = some v) (o : Obj) : (w.alloc o).cell? a = some v := by
  rw [World.cell?_of_block (w := w) (Below.heap_alloc _ _ _ (lt_of_cell h))]; exact h
theorem bytes_cut {w : World} {g : Nat} {F : List Nat} (h : BytesAt w g 0 F) (A : Nat) (hA : A + 64 ≤ F.length) : BytesAt w g A ((F.drop A).take 64) := by
  intro j hj
  rw [List.length_take, List.length_drop] at hj
  have := h (A + j) (by omega)
  rw [Nat.zero_add] at this
  rw [this]
  congr 3
  simp only [List.getD, List.getElem?_take, List.getElem?_drop]
  rw [if_pos (by omega)]

/-- 'm[A:B]' of a slice of bytes. -/
theorem run_cut28b (b N C A B C2 : Nat) (hB : A + 64 = B) (hN : B ≤ N) (hC : N ≤ C) (hC2 : A + C2 = C) (w : World) : (Instr.sliceAt 28 (.slice (some ⟨b, 0, none⟩) N C) (some (.int .i64 A)) (some (.int .i64 B)) none).run Tryd.prog w = .ok (.slice (some ⟨b, A, none⟩) 64 C2) w ∧
    (Instr.slice 28 (.slice (some ⟨b, 0, none⟩) N C) (some (.int .i64 A)) (some (.int .i64 B)) none).run Tryd.prog w = .ok (.slice (some ⟨b, A, none⟩) 64 C2) w := by
  have key : (Instr.slice 28 (.slice (some ⟨b, 0, none⟩) N C) (some (.int .i64 A)) (some (.int .i64 B)) none).run Tryd.prog w = .ok (.slice (some ⟨b, A, none⟩) 64 C2) w := by
    rw [run_slice_lh w 28 _ N C und28 .i64 .i64 A B (by omega) (by omega) (by omega), size28]
    simp only [Result.andThen_ok, sliced, Int.toNat_natCast]
    rw [if_neg (by omega), show B - A = 64 by omega, show C - A = C2 by omega, Option.map_some, add_none, Nat.mul_one, Nat.zero_add]
  exact ⟨by rw [run_sliceAt_slice w 28 _ _ _ _ und28, key], key⟩
theorem list_lt {s : St} (h : s.Ok) {i : Nat} (hi : i < 8) : s.list.getD i 0 < 4294967296 := by
  obtain ⟨h1, h2, h3, h4, h5, h6, h7, h8⟩ := h
  match i, hi with
  | 0, _ => exact h1
  | 1, _ => exact h2
  | 2, _ => exact h3
  | 3, _ => exact h4
  | 4, _ => exact h5
  | 5, _ => exact h6
  | 6, _ => exact h7
  | 7, _ => exact h8
  | n + 8, h => omega
theorem bytesOf_at (s : St) (i : Nat) (h : i < 32) : (bytesOf s).getD i 0 = s.list.getD (i / 4) 0 / 2 ^ (24 - 8 * (i % 4)) % 256 := by
  rw [bytesOf_lay]
  have : ∀ j : Fin 32, True := fun _ => trivial
  match i, h with
  | 0, _ => simp [St.list]
  | 1, _ => simp [St.list]
  | 2, _ => simp [St.list]
  | 3, _ => simp [St.list]
  | 4, _ => simp [St.list]
  | 5, _ => simp [St.list]
  | 6, _ => simp [St.list]
  | 7, _ => simp [St.list]
  | 8, _ => simp [St.list]
  | 9, _ => simp [St.list]
  | 10, _ => simp [St.list]
  | 11, _ => simp [St.list]
  | 12, _ => simp [St.list]
  | 13, _ => simp [St.list]
  | 14, _ => simp [St.list]
  | 15, _ => simp [St.list]
  | 16, _ => simp [St.list]
  | 17, _ => simp [St.list]
  | 18, _ => simp [St.list]
  | 19, _ => simp [St.list]
  | 20, _ => simp [St.list]
  | 21, _ => simp [St.list]
  | 22, _ => simp [St.list]
  | 23, _ => simp [St.list]
  | 24, _ => simp [St.list]
  | 25, _ => simp [St.list]
  | 26, _ => simp [St.list]
  | 27, _ => simp [St.list]
  | 28, _ => simp [St.list]
  | 29, _ => simp [St.list]
  | 30, _ => simp [St.list]
  | 31, _ => simp [St.list]
  | n + 32, h => omega

set_option maxRecDepth 100000 in
set_option maxHeartbeats 8000000 in
theorem rsum_at (a : Option Addr) (n cap : Nat) (ps : List (List Nat)) (w : World) (hp : Parts w a n cap ps) (hl : ps.flatten.length < 1000000000000) :
    Calls Tryd.prog 10 #[.slice a n cap] w fun e w' => e = .returned (.agg (nums .u8 (dig ps.flatten)).toArray) ∧ Below w.heap.size w w' := by
  have HP := hide hp
  have hz24 := zero24
  have HZ24 := hide hz24
  have hcm := hp.hmax
  have hnc := hp.hcap
  unfold maxLen at hcm
  have hby := flat_byte hp
  have HBy := hide hby
  clear hp hby
  go_enter Tryd.func10, Tryd.ntmps10
  go_wp2_with fail
  clear hz24
  go_loopw [3, 4] (fun v i wr => ∃ k : Nat, k ≤ n ∧ i = .int .i64 k ∧ Hid (Own wr (w.heap.size + 1) v (ps.take k).flatten ∧ Row wr w.heap.size 24 z32.toList ∧ Below w.heap.size w wr ∧ w.heap.size + 1 ≤ wr.heap.size)) (fun _ i _ => n - (intOf i).toNat)
  case atStart =>
    refine ⟨0, by omega, rfl, own_new_at _ _ (by simp), (Row.new w z32 24).alloc _, ((Below.refl _ _).alloc (Nat.le_refl _) _).alloc (by simp) _, by simp⟩
  case round =>
    obtain ⟨k, hk, rfl, HI⟩ := hrel
    by_cases h1 : k < n
    · obtain ⟨i1, i2, i3, i4⟩ := HI.out
      obtain ⟨b, o, rfl, hb, hc⟩ := HP.out.lies (by omega)
      obtain ⟨ai, li, ci, hcell, hsrc⟩ := hc k h1
      have e1 : wr.cell? ⟨b, o + k, none⟩ = some (.slice ai li ci) := (i3.cell (p := ⟨b, o + k, none⟩) hb).trans hcell
      have hs := hsrc.below i3
      have htf := take_flat ps k (by rw [HP.out.hlen]; exact h1)
      have hle := flat_le ps (k + 1)
      rw [htf, List.length_append, hsrc.hlen] at hle
      obtain ⟨v', W2, hap, o2, b2⟩ := run_app 28 i1 hs (by omega) i4
      rw [← htf] at o2
      have O2 := hide o2
      have Z2 : Hid (Row W2 w.heap.size 24 z32.toList) := i2.below b2 (by omega)
      have B2 : Hid (Below w.heap.size w W2) := i3.trans (b2.mono (by omega))
      have S2 : Hid (w.heap.size + 1 ≤ W2.heap.size) := by show _ ≤ _; have := b2.size; omega
      have HAP := hide hap
      have hkI : (k : Int) < n := by omega
      clear i1 i2 i3 i4 hc hcell hsrc hs htf hap o2 b2 HI
      go_wp2_with (refine wpList_app_run _ rfl _ _ 28 28 rfl _ _ rfl rfl HAP.out ?_)
      go_roundw
      case rel => exact ⟨k + 1, by omega, by go_num, O2.out, Z2.out, B2.out, S2.out⟩
      case measure => simp [intOf]; omega
    · obtain ⟨i1, i2, i3, i4⟩ := HI.out
      have hkn : Hid (k = n) := by show k = n; omega
      rw [List.take_of_length_le (by rw [HP.out.hlen]; omega)] at i1
      obtain ⟨M, hM⟩ : ∃ M, M = ps.flatten := ⟨_, rfl⟩
      rw [← hM] at i1 hl
      have hMb : ∀ x ∈ M, x < 256 := by rw [hM]; exact HBy.out
      obtain ⟨av, cv, rfl, hsv, _⟩ := own_src i1 hMb
      have hcv := hsv.hcap
      have hcm2 := hsv.hmax
      unfold maxLen at hcm2
      obtain ⟨L, hL⟩ : ∃ L, L = M.length := ⟨_, rfl⟩
      rw [← hL] at hl hcv
      obtain ⟨L8, hL8⟩ : ∃ L8, L8 = L * 8 := ⟨_, rfl⟩
      have q8 : (L : Int) * 8 = L8 := by omega
      have HL8 := hide hL8
      have hL8l : L8 < 8000000000000 := by omega
      clear hL8
      obtain ⟨W2, hW2⟩ : ∃ W2, W2 = wr.alloc (.cells #[.int .u8 128] 5) := ⟨_, rfl⟩
      have r2 : Row W2 wr.heap.size 5 (nums .u8 [128]) := by rw [hW2]; exact Row.new wr #[.int .u8 128] 5
      have o2 : Own W2 (w.heap.size + 1) (.slice av M.length cv) M := by rw [hW2]; exact i1.alloc _
      have hsrc := r2.src (by simp) (n := 1) rfl (by unfold maxLen; omega)
      have s2 : W2.heap.size = wr.heap.size + 1 := by rw [hW2]; simp
      obtain ⟨v', W3, hap, o3, b3⟩ := run_app 28 o2 hsrc (by omega) (by omega)
      have z3 : Row W3 w.heap.size 24 z32.toList := (by rw [hW2]; exact i2.alloc _ : Row W2 w.heap.size 24 z32.toList).below b3 (by omega)
      have bel3 : Below w.heap.size w W3 := (by rw [hW2]; exact i3.alloc (by omega) _ : Below w.heap.size w W2).trans (b3.mono (by omega))
      have s3 : w.heap.size + 1 ≤ W3.heap.size := by have := b3.size; omega
      rw [← hL] at hap ⊢
      have HAP := hide hap
      have O3 : Hid (Own W3 (w.heap.size + 1) v' (M ++ [128] ++ List.replicate 0 0)) := by show Own _ _ _ _; rw [List.replicate_zero, List.append_nil]; exact o3
      have Z3 := hide z3
      have B3 := hide bel3
      have S3 := hide s3
      have HW2 := hide hW2
      have HM := hide hM
      have HMb := hide hMb
      have HL := hide hL
      clear i1 i2 i3 i4 HI hsv hW2 r2 o2 hsrc s2 hap o3 b3 z3 bel3 s3 hM hMb hL
      go_wp2_with (rw [← HW2.out]; refine wpList_app_run _ rfl _ _ 28 28 rfl _ _ rfl rfl HAP.out ?_)
      obtain ⟨Zn, hZn⟩ : ∃ Z, Z = zerosN L := ⟨_, rfl⟩
      have hZ63 : Zn ≤ 63 := by rw [hZn, zerosN]; omega
      have HZn := hide hZn
      clear q8 hZn
      go_loopw [3] (fun v wr => ∃ z : Nat, z ≤ Zn ∧ Hid (Own wr (w.heap.size + 1) v (M ++ [128] ++ List.replicate z 0) ∧ Row wr w.heap.size 24 z32.toList ∧ Below w.heap.size w wr ∧ w.heap.size + 1 ≤ wr.heap.size)) (fun v _ => L + 65 - (match v with | .slice _ n _ => n | _ => 0))
      case atStart => exact ⟨0, by omega, O3.out, Z3.out, B3.out, S3.out⟩
      case round =>
        clear O3 Z3 B3 S3 HAP HW2
        obtain ⟨z, hz, HI⟩ := hrel
        obtain ⟨i1, i2, i3, i4⟩ := HI.out
        have hzb : ∀ x ∈ M ++ [128] ++ List.replicate z 0, x < 256 := by
          intro x hx
          simp only [List.mem_append, List.mem_singleton] at hx
          rcases hx with (hx | rfl) | hx
          · exact HMb.out x hx
          · omega
          · rw [List.eq_of_mem_replicate hx]; omega
        obtain ⟨ab, cb, rfl, hsb, _⟩ := own_src i1 hzb
        have hlen : (M ++ [128] ++ List.replicate z 0).length = L + 1 + z := by rw [List.length_append, List.length_append, List.length_replicate, HL.out]; rfl
        have hcb := hsb.hcap
        have hcm3 := hsb.hmax
        unfold maxLen at hcm3
        rw [hlen] at hcb ⊢
        rw [hlen] at i1
        obtain ⟨N, hN⟩ : ∃ N, N = L + 1 + z := ⟨_, rfl⟩
        rw [← hN] at hcb i1 ⊢
        have hNl : N < 2000000000000 := by omega
        by_cases h2 : z < Zn
        · have hne : ((N : Int) % 64 != 56) = true := by
            have := HZn.out
            simp only [zerosN] at this
            simp; omega
          have hne' : ((N : Int) % 64 == 56) = false := by
            have := HZn.out
            simp only [zerosN] at this
            simp; omega
          obtain ⟨W2, hW2⟩ : ∃ W2, W2 = wr.alloc (.cells #[.int .u8 0] 5) := ⟨_, rfl⟩
          have r2 : Row W2 wr.heap.size 5 (nums .u8 [0]) := by rw [hW2]; exact Row.new wr #[.int .u8 0] 5
          have o2 : Own W2 (w.heap.size + 1) (.slice ab N cb) (M ++ [128] ++ List.replicate z 0) := by rw [hW2]; exact Own.alloc i1 _
          have hsrc := r2.src (by simp) (n := 1) rfl (by unfold maxLen; omega)
          have s2 : W2.heap.size = wr.heap.size + 1 := by rw [hW2]; simp
          obtain ⟨v2, W3, hap, o3, b3⟩ := run_app 28 o2 hsrc (by rw [hlen]; omega) (by omega)
          have z3 : Row W3 w.heap.size 24 z32.toList := (by rw [hW2]; exact i2.alloc _ : Row W2 w.heap.size 24 z32.toList).below b3 (by omega)
          have bel3 : Below w.heap.size w W3 := (by rw [hW2]; exact i3.alloc (by omega) _ : Below w.heap.size w W2).trans (b3.mono (by omega))
          have s3 : w.heap.size + 1 ≤ W3.heap.size := by have := b3.size; omega
          have o4 : Own W3 (w.heap.size + 1) v2 (M ++ [128] ++ List.replicate (z + 1) 0) := by
            have e : M ++ [128] ++ List.replicate (z + 1) 0 = M ++ [128] ++ List.replicate z 0 ++ [0] := by rw [List.replicate_succ', ← List.append_assoc]
            rw [e]; exact o3
          obtain ⟨a3, c3, ev, hs3, _⟩ := own_src o4 (by
            intro x hx
            simp only [List.mem_append, List.mem_singleton] at hx
            rcases hx with (hx | rfl) | hx
            · exact HMb.out x hx
            · omega
            · rw [List.eq_of_mem_replicate hx]; omega)
          have hl3 : (M ++ [128] ++ List.replicate (z + 1) 0).length = N + 1 := by rw [List.length_append, List.length_append, List.length_replicate, List.length_singleton, ← HL.out]; omega
          rw [hl3] at ev
          have hNz : N < L + 65 := by omega
          have EV := hide ev
          have HAP := hide hap
          have O4 := hide o4
          have Z3 := hide z3
          have B3 := hide bel3
          have S3 := hide s3
          have HW2 := hide hW2
          clear i1 i2 i3 i4 HI hzb hsb hlen hW2 r2 o2 hsrc s2 hap o3 b3 z3 bel3 s3 o4 ev hs3 hl3 hN
          go_wp2_with (rw [← HW2.out]; refine wpList_app_run _ rfl _ _ 28 28 rfl _ _ rfl rfl HAP.out ?_)
          go_roundw
          case rel => exact ⟨z + 1, by omega, O4.out, Z3.out, B3.out, S3.out⟩
          case measure => rw [EV.out]; show L + 65 - (N + 1) < L + 65 - N; omega
        · have hze : z = Zn := by omega
          have hne : ((N : Int) % 64 != 56) = false := by
            have := HZn.out
            simp only [zerosN] at this
            simp; omega
          have hne' : ((N : Int) % 64 == 56) = true := by
            have := HZn.out
            simp only [zerosN] at this
            simp; omega
          have hM64 : (N + 8) % 64 = 0 := by
            have := HZn.out
            simp only [zerosN] at this
            omega
          rw [hze] at i1
          have I1 : Hid (Own wr (w.heap.size + 1) (.slice ab N cb) (M ++ [128] ++ List.replicate Zn 0 ++ (hf L8 8).take 0)) := by show Own _ _ _ _; rw [List.take_zero, List.append_nil]; exact i1
          have I2 := hide i2
          have I3 := hide i3
          have I4 := hide i4
          have HN : Hid (N = L + 1 + Zn) := by show _ = _; omega
          clear i1 i2 i3 i4 HI hzb hsb hlen hN hze
          go_wp2_with fail
          clear hne hne'
          go_loopw [3, 6] (fun v i wr => ∃ q : Nat, q ≤ 8 ∧ i = .int .i64 q ∧ Hid (Own wr (w.heap.size + 1) v (M ++ [128] ++ List.replicate Zn 0 ++ (hf L8 8).take q) ∧ Row wr w.heap.size 24 z32.toList ∧ Below w.heap.size w wr ∧ w.heap.size + 1 ≤ wr.heap.size)) (fun _ i _ => 8 - (intOf i).toNat)
          case atStart => exact ⟨0, by omega, rfl, I1.out, I2.out, I3.out, I4.out⟩
          case round =>
            clear I1 I2 I3 I4
            obtain ⟨q, hq, rfl, HI⟩ := hrel
            by_cases h3 : q < 8
            · obtain ⟨i1, i2, i3, i4⟩ := HI.out
              obtain ⟨Y, hY⟩ : ∃ Y, Y = L8 / 2 ^ (56 - 8 * q) % 256 := ⟨_, rfl⟩
              have hYl : Y < 256 := by omega
              have htk : (hf L8 8).take (q + 1) = (hf L8 8).take q ++ [Y] := by
                have hl8 : q < (hf L8 8).length := by rw [hf_length]; exact h3
                rw [List.take_succ_eq_append_getElem hl8]
                have := hf_get L8 8 q h3
                rw [List.getD, List.getElem?_eq_getElem hl8] at this
                rw [hY, show 56 - 8 * q = 8 * (8 - 1 - q) by omega, ← this]
                rfl
              have pY : (L8 : Int) / 2 ^ (56 - 8 * q) % 256 = Y := by rw [hY]; simp
              obtain ⟨W2, hW2⟩ : ∃ W2, W2 = wr.alloc (.cells #[.int .u8 (Y : Nat)] 5) := ⟨_, rfl⟩
              have r2 : Row W2 wr.heap.size 5 (nums .u8 [Y]) := by rw [hW2]; exact Row.new wr #[.int .u8 (Y : Nat)] 5
              have o2 : Own W2 (w.heap.size + 1) u3 (M ++ [128] ++ List.replicate Zn 0 ++ (hf L8 8).take q) := by rw [hW2]; exact i1.alloc _
              have hsrc := r2.src (by simp; omega) (n := 1) rfl (by unfold maxLen; omega)
              have s2 : W2.heap.size = wr.heap.size + 1 := by rw [hW2]; simp
              obtain ⟨v2, W3, hap, o3, b3⟩ := run_app 28 o2 hsrc (by
                rw [List.length_append, List.length_append, List.length_append, List.length_replicate, List.length_take, ← HL.out]
                simp; omega) (by omega)
              have z3 : Row W3 w.heap.size 24 z32.toList := (by rw [hW2]; exact i2.alloc _ : Row W2 w.heap.size 24 z32.toList).below b3 (by omega)
              have bel3 : Below w.heap.size w W3 := (by rw [hW2]; exact i3.alloc (by omega) _ : Below w.heap.size w W2).trans (b3.mono (by omega))
              have s3 : w.heap.size + 1 ≤ W3.heap.size := by have := b3.size; omega
              rw [List.append_assoc, ← htk] at o3
              have HAP := hide hap
              have O3 := hide o3
              have Z3 := hide z3
              have B3 := hide bel3
              have S3 := hide s3
              have HW2 := hide hW2
              clear i1 i2 i3 i4 HI hY htk hW2 r2 o2 hsrc s2 hap o3 b3 z3 bel3 s3
              go_wp2_with (rw [← HW2.out]; refine wpList_app_run _ rfl _ _ 28 28 rfl _ _ rfl rfl HAP.out ?_)
              go_roundw
              case rel => exact ⟨q + 1, by omega, by go_num, O3.out, Z3.out, B3.out, S3.out⟩
              case measure => simp [intOf]; omega
            · obtain ⟨i1, i2, i3, i4⟩ := HI.out
              have hq8 : q = 8 := by omega
              obtain ⟨F, hF⟩ : ∃ F, F = full M := ⟨_, rfl⟩
              have eF : M ++ [128] ++ List.replicate Zn 0 ++ (hf L8 8).take q = F := by
                rw [hq8, List.take_of_length_le (by rw [hf_length]; omega), HZn.out, HL8.out, HL.out, hF]
                exact full_eq M
              rw [eF] at i1
              have hFl : F.length = N + 8 := by
                rw [hF, full, List.length_append, pad_length, ← HL.out, ← HZn.out]
                have := HN.out
                omega
              have hFb : ∀ x ∈ F, x < 256 := by rw [hF]; exact full_byte M HMb.out
              obtain ⟨gm, cm, rfl, hcm5, hcm6, hgm, hgml, hby⟩ := i1.form (by omega)
              unfold maxLen at hcm6
              rw [hFl] at hcm5 ⊢
              obtain ⟨NF, hNF⟩ : ∃ NF, NF = N + 8 := ⟨_, rfl⟩
              rw [← hNF] at hcm5 hFl ⊢
              obtain ⟨NB, hNB⟩ : ∃ NB, NB = NF / 64 := ⟨_, rfl⟩
              have hNB64 : 64 * NB = NF := by omega
              obtain ⟨W4, hW4⟩ : ∃ W4, W4 = wr.alloc (.cells #[.int .u32 1779033703, .int .u32 3144134277, .int .u32 1013904242, .int .u32 2773480762, .int .u32 1359893119, .int .u32 2600822924, .int .u32 528734635, .int .u32 1541459225] 36) := ⟨_, rfl⟩
              have w4 : Words W4 wr.heap.size 0 (eat F 0) := by rw [hW4]; exact first_words wr
              have by4 : BytesAt W4 gm 0 F := fun j hj => (by rw [hW4]; exact alloc_cell' (hby j hj) _)
              have z4 : Row W4 w.heap.size 24 z32.toList := by rw [hW4]; exact i2.alloc _
              have b4 : Below w.heap.size w W4 := by rw [hW4]; exact i3.alloc (by omega) _
              have s4 : wr.heap.size < W4.heap.size := by rw [hW4]; simp
              have hAl : wr.alloc (.cells #[.int .u32 1779033703, .int .u32 3144134277, .int .u32 1013904242, .int .u32 2773480762, .int .u32 1359893119, .int .u32 2600822924, .int .u32 528734635, .int .u32 1541459225] 36) = W4 := hW4.symm
              have hnfl : NF < 3000000000000 := by omega
              have X4 := hide w4
              have Y4 := hide by4
              have Z4 := hide z4
              have B4 := hide b4
              have HFb := hide hFb
              have HFl := hide hFl
              have HF : Hid (F = full ps.flatten) := by show _ = _; rw [hF, HM.out]
              have HNB := hide hNB64
              clear i1 i2 i3 HI hq8 eF hF hFl hFb hby hNF hNB hW4 w4 by4 z4 b4 hM64 hNB64 HN HZn
              have hdq : decide ((q : Int) < 8) = false := by simp; omega
              go_wp2_with fail
              clear hAl hdq
              go_loopw [7, 8] (fun v i wr => ∃ (p g c A : Nat), p ≤ NB ∧ i = .int .i64 A ∧ v = .slice (some ⟨g, 0, none⟩) 8 c ∧ 8 ≤ c ∧ Hid (A = 64 * p) ∧ Hid (Words wr g 0 (eat F p) ∧ BytesAt wr gm 0 F ∧ Row wr w.heap.size 24 z32.toList ∧ Below w.heap.size w wr ∧ gm < wr.heap.size ∧ w.heap.size + 1 ≤ wr.heap.size)) (fun _ i _ => NF - (intOf i).toNat)
              case atStart => exact ⟨0, _, 8, 0, by omega, rfl, rfl, by omega, rfl, X4.out, Y4.out, Z4.out, B4.out, by omega, by omega⟩
              case round =>
                clear X4 Y4 Z4 B4
                obtain ⟨p, g, c, A, hp, rfl, rfl, hc8, HA, HI⟩ := hrel
                by_cases h4 : A < NF
                · obtain ⟨i1, i2, i3, i4, i5, i6⟩ := HI.out
                  have hAp := HA.out
                  have hnb := HNB.out
                  have hpN : p < NB := by omega
                  obtain ⟨A2, hA2⟩ : ∃ A2, A2 = A + 64 := ⟨_, rfl⟩
                  have hA2N : A2 ≤ NF := by omega
                  have qA : (A : Int) + 64 = A2 := by omega
                  obtain ⟨C2, hC2⟩ : ∃ C2, C2 = cm - A := ⟨_, rfl⟩
                  have hcutb := fun w => run_cut28b gm NF cm A A2 C2 hA2.symm hA2N hcm5 (by omega) w
                  have hcut1 := fun w => (hcutb w).1
                  have hcut2 := fun w => (hcutb w).2
                  have hbc := bytes_cut i2 A (by rw [HFl.out]; omega)
                  have hbl : ((F.drop A).take 64).length = 64 := by rw [List.length_take, List.length_drop, HFl.out]; omega
                  have hbb : ∀ i, ((F.drop A).take 64).getD i 0 < 256 := getD_lt fun x hx => HFb.out x (List.mem_of_mem_drop (List.mem_of_mem_take hx))
                  have hblk := rblock_at g 0 c gm A C2 (eat F p) ((F.drop A).take 64) wr (eat_ok F p) i1 hc8 hbb hbl i5 hbc (by omega)
                  have HBLK := hide hblk
                  have I2 := hide i2
                  have I3 := hide i3
                  have I4 := hide i4
                  have HEQ : Hid (eat F (p + 1) = comp (eat F p) ((F.drop A).take 64)) := by show _ = _; rw [eat, hAp]
                  have HA2 : Hid (A2 = 64 * (p + 1)) := by show _ = _; omega
                  have hAI : (A : Int) < NF := by omega
                  clear i1 i2 i3 i4 HI hAp hnb hA2 hC2 hcutb hbc hbl hbb hblk HA
                  go_wp2_with fail
                  refine HBLK.out.mono ?_
                  rintro e w5 ⟨g5, c5, rfl, hc5, wd5, hg5, b5⟩
                  have X5 := hide wd5
                  have Y5 : Hid (BytesAt w5 gm 0 F) := fun j hj => (b5.cell (p := ⟨gm, 0 + j, none⟩) i5).trans (I2.out j hj)
                  have Z5 : Hid (Row w5 w.heap.size 24 z32.toList) := I3.out.below b5 (by omega)
                  have B5 : Hid (Below w.heap.size w w5) := I4.out.trans (b5.mono (by omega))
                  have s5 := b5.size
                  clear wd5 b5 hcut1 hcut2 HBLK
                  go_wp2_with fail
                  go_roundw
                  case rel => exact ⟨p + 1, g5, c5, A2, by omega, by first | rfl | go_num, rfl, hc5, HA2.out, by rw [HEQ.out]; exact X5.out, Y5.out, Z5.out, B5.out, by omega, by omega⟩
                  case measure => simp [intOf]; omega
                · obtain ⟨i1, i2, i3, i4, i5, i6⟩ := HI.out
                  have hAp := HA.out
                  have hnb := HNB.out
                  have hpN : p = NB := by omega
                  rw [hpN] at i1
                  obtain ⟨S, hS⟩ : ∃ S, S = eat F NB := ⟨_, rfl⟩
                  rw [← hS] at i1
                  have hSo : S.Ok := by rw [hS]; exact eat_ok _ _
                  have hdig : dig ps.flatten = bytesOf S := by rw [dig, ← HF.out, HFl.out, hS, show NF / 64 = NB by omega]
                  obtain ⟨OB, hOB⟩ : ∃ OB, OB = wr.heap.size := ⟨_, rfl⟩
                  obtain ⟨W6, hW6⟩ : ∃ W6, W6 = (wr.alloc (.cells z32 24)).setRow OB z32 := ⟨_, rfl⟩
                  have hn6 : (wr.alloc (.cells z32 24)).heap[OB]? = some (.cells z32 24) := by rw [hOB]; exact alloc_new _ _
                  have k6 : Below OB wr W6 := by rw [hW6]; exact (((Kept.refl OB OB wr).alloc _).setRow (Or.inl rfl) _).below (Nat.le_refl _) (Nat.le_refl _) (by omega)
                  have x6 : Words W6 g 0 S := i1.keep (k6.block g (by rw [hOB]; exact i1.lt))
                  have z6 : Row W6 w.heap.size 24 z32.toList := i3.below k6 (by omega)
                  have b6 : Below w.heap.size w W6 := i4.trans (k6.mono (by omega))
                  have u6 : Row W6 OB 24 (nums .u8 ((bytesOf S).take 0 ++ List.replicate (32 - 0) 0)) := by rw [hW6]; exact setRow_heap _ _ _ _ _ _ hn6
                  have hOl : w.heap.size < OB := by omega
                  have hgO : g < OB := by rw [hOB]; exact i1.lt
                  have hdA : decide ((A : Int) < NF) = false := by simp; omega
                  have HN6 := hide hn6
                  have HW6 := hide hW6
                  have HOB := hide hOB
                  have X6 := hide x6
                  have Z6 := hide z6
                  have B6 := hide b6
                  have U6 := hide u6
                  have HDIG := hide hdig
                  have HSo := hide hSo
                  have hz24 := HZ24.out
                  clear i1 i2 i3 i4 i5 i6 HI hAp hnb hpN hS hSo hdig hOB hW6 hn6 k6 x6 z6 b6 u6
                  go_wp2_with (first
                    | (refine wpList_built rfl 24 _ rfl z32 ?_ ?_; (simp [Act.eval]; exact built24))
                    | (refine wpList_store_rowW rfl 24 _ _ rfl OB z32 (by show Value.pointer _ = _; rw [HOB.out]) rfl 24 z32 HN6.out info24 rfl z32_one W6 HW6.out ?_; (rw [← HOB.out])))
                  clear hz24 hdA HN6 HW6 HOB HZ24 HMb HM HL HNB HFb HFl HF HBy HL8
                  go_loopw [10] (fun i wr => ∃ t : Nat, t ≤ 32 ∧ i = .int .i64 t ∧ Hid (Row wr OB 24 (nums .u8 ((bytesOf S).take t ++ List.replicate (32 - t) 0)) ∧ Words wr g 0 S ∧ Row wr w.heap.size 24 z32.toList ∧ Below w.heap.size w wr)) (fun i _ => 32 - (intOf i).toNat)
                  case atStart => exact ⟨0, by omega, rfl, U6.out, X6.out, Z6.out, B6.out⟩
                  case round =>
                    clear X6 Z6 B6 U6
                    obtain ⟨t, ht, rfl, HI⟩ := hrel
                    by_cases h5 : t < 32
                    · obtain ⟨i1, i2, i3, i4⟩ := HI.out
                      obtain ⟨T4, hT4⟩ : ∃ T4, T4 = t / 4 := ⟨_, rfl⟩
                      obtain ⟨M4, hM4⟩ : ∃ M4, M4 = t % 4 := ⟨_, rfl⟩
                      obtain ⟨SH, hSH⟩ : ∃ SH, SH = 24 - 8 * M4 := ⟨_, rfl⟩
                      have hT8 : T4 < 8 := by omega
                      have hM3 : M4 < 4 := by omega
                      have hS24 : SH ≤ 24 := by omega
                      have pT : (t : Int) / 4 = T4 := by omega
                      have pM : (t : Int) % 4 = M4 := by omega
                      have pS : (24 : Int) - 8 * M4 = SH := by omega
                      have ec := i2 T4 hT8
                      rw [Nat.zero_add] at ec
                      obtain ⟨V, hV⟩ : ∃ V, V = S.list.getD T4 0 := ⟨_, rfl⟩
                      rw [← hV] at ec
                      obtain ⟨X, hX⟩ : ∃ X, X = V / 2 ^ SH % 256 := ⟨_, rfl⟩
                      have hXl : X < 256 := by omega
                      have pX : (V : Int) / 2 ^ SH % 256 = X := by rw [hX]; simp
                      have ef : wr.frozen? ⟨OB, t, none⟩ = false := i1.frozen t
                      have hlt : ((bytesOf S).take t).length = t := by rw [List.length_take, bytesOf_length]; omega
                      have ed : wr.cell? ⟨OB, t, none⟩ = some (.int .u8 (((bytesOf S).take t ++ List.replicate (32 - t) 0).getD t 0 : Nat)) := i1.num0 (by rw [List.length_append, List.length_replicate, hlt]; omega)
                      obtain ⟨z, hz⟩ : ∃ z, z = ((bytesOf S).take t ++ List.replicate (32 - t) 0).getD t 0 := ⟨_, rfl⟩
                      rw [← hz] at ed
                      have hne : OB ≠ g := by omega
                      have htk : (bytesOf S).take (t + 1) = (bytesOf S).take t ++ [X] := by
                        have hl8 : t < (bytesOf S).length := by rw [bytesOf_length]; exact h5
                        rw [List.take_succ_eq_append_getElem hl8]
                        have := bytesOf_at S t h5
                        rw [List.getD, List.getElem?_eq_getElem hl8] at this
                        rw [hX, hV, hSH, hT4, hM4, ← this]
                        rfl
                      have i5 := i1.setNum0 t X
                      rw [List.set_append_right _ _ (by omega), hlt, Nat.sub_self, show 32 - t = (32 - (t + 1)) + 1 by omega, List.replicate_succ, List.set_cons_zero] at i5
                      have I5 := hide i5
                      have I2 := hide i2
                      have I3 := hide i3
                      have I4 := hide i4
                      have HTK := hide htk
                      have hVl : V < 4294967296 := by rw [hV]; exact list_lt HSo.out hT8
                      have htI : (t : Int) < 32 := by omega
                      clear i1 i2 i3 i4 i5 HI hT4 hM4 hSH hV hX hlt hz htk
                      go_wp2_with fail
                      go_roundw
                      case rel =>
                        have KK : Kept OB OB wr (wr.setCell ⟨OB, t, none⟩ (.int .u8 (X : Nat))) := (Kept.refl _ _ wr).set _ _
                        refine ⟨t + 1, by omega, by go_num, ?_, I2.out.keep (Below.heap_setCell _ _ _ _ (by simpa using hne.symm)), I3.out.kept KK (by omega) (by omega), I4.out.trans (KK.below (by omega) (by omega) I4.out.size)⟩
                        rw [HTK.out, List.append_assoc]
                        exact I5.out
                      case measure => simp [intOf]; omega
                    · obtain ⟨i1, i2, i3, i4⟩ := HI.out
                      have ht32 : t = 32 := by omega
                      rw [ht32, List.take_of_length_le (by rw [bytesOf_length]; omega), Nat.sub_self, List.replicate_zero, List.append_nil, ← HDIG.out] at i1
                      obtain ⟨V, hV⟩ : ∃ V, V = (nums .u8 (dig ps.flatten)).toArray := ⟨_, rfl⟩
                      have hsV : V.size = 32 := by rw [hV]; simp [nums, dig_length]
                      have hall : V.all (·.oneCell') = true := by rw [hV]; exact nums_all _ _
                      have hrV : wr.heap[OB]? = some (.cells V 24) := by rw [hV]; exact i1
                      obtain ⟨W7, hW7⟩ : ∃ W7, W7 = wr.setRow w.heap.size V := ⟨_, rfl⟩
                      have hrow : W7.heap[w.heap.size]? = some (.cells V 24) := by rw [hW7]; exact setRow_heap _ _ _ _ _ _ i3
                      have hdt : decide ((t : Int) < 32) = false := by simp; omega
                      have HV := hide hV
                      have HSV := hide hsV
                      have HALL := hide hall
                      have HRV := hide hrV
                      have HW7 := hide hW7
                      have HROW := hide hrow
                      have HZ5 := hide i3
                      have HB5 := hide i4
                      clear hV hsV hall hrV hW7 hrow i1 i2 i3 i4 HI ht32
                      go_wp2_with (first
                        | (refine wpList_load_row rfl 24 _ rfl OB rfl 24 V _ _ HRV.out Tryd.underlying24 rfl ?_ ?_; (rw [HSV.out]; exact info24))
                        | (refine wpList_store_rowW rfl 24 _ _ rfl w.heap.size V rfl rfl 24 z32 HZ5.out (by rw [HSV.out]; exact info24) (by rw [HSV.out]; rfl) HALL.out W7 HW7.out ?_))
                      refine bodyPost_ret (results_cell_row rfl _ _ w.heap.size 24 V _ _ rfl HROW.out Tryd.underlying24 rfl (by rw [HSV.out]; exact info24)) rfl ⟨by rw [HV.out], ?_⟩
                      rw [HW7.out]
                      exact HB5.out.trans (((Kept.refl w.heap.size w.heap.size wr).setRow (Or.inl rfl) _).below (Nat.le_refl _) (Nat.le_refl _) HB5.out.size)
end Go.Proofs.YtaibdmmacncejaaDoor
