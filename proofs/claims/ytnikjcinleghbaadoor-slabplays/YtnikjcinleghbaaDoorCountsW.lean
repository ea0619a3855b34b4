/-
  The walk of SlabCounts: whatever the arguments hold, the call answers true and turns nothing that was there.
-/
import Derived.Test.YtnikjcinleghbaaDoorU
set_option linter.unusedSimpArgs false
set_option linter.unusedVariables false
namespace Go.Proofs.YtnikjcinleghbaaDoor
open Go.RowKit

theorem count_got : ∀ (hs : List Bool) (k : Nat), k < hs.length → hs.getD k true = false → (hs.set k true).count true = hs.count true + 1
  | [], k, h, _ => by simp at h
  | a :: t, 0, _, h => by
    obtain rfl : a = false := by simpa using h
    simp
  | a :: t, k + 1, h, h2 => by
    have := count_got t k (by simpa using h) (by simpa using h2)
    simp only [List.set_cons_succ, List.count_cons, this]
    omega
theorem count_put : ∀ (hs : List Bool) (k : Nat), k < hs.length → hs.getD k true = true → (hs.set k false).count true + 1 = hs.count true
  | [], k, h, _ => by simp at h
  | a :: t, 0, _, h => by
    obtain rfl : a = true := by simpa using h
    simp
  | a :: t, k + 1, h, h2 => by
    have := count_put t k (by simpa using h) (by simpa using h2)
    simp only [List.set_cons_succ, List.count_cons]
    omega

/-- Truths in memory. -/
def bls (hs : List Bool) : Array Value := (hs.map Value.bool).toArray
theorem bls_cell {w : World} {h : Nat} {hs : List Bool} (hb : w.heap[h]? = some (.cells (bls hs) 4)) (k : Nat) (hk : k < hs.length) : w.cell? ⟨h, k, none⟩ = some (.bool (hs.getD k true)) := by
  simp [World.cell?, hb, bls, List.getD, hk]
theorem bls_frozen {w : World} {h : Nat} {hs : List Bool} (hb : w.heap[h]? = some (.cells (bls hs) 4)) (o : Nat) : w.frozen? ⟨h, o, none⟩ = false := by simp [World.frozen?, hb]
theorem bls_set {w : World} {h : Nat} {hs : List Bool} (hb : w.heap[h]? = some (.cells (bls hs) 4)) (k : Nat) (x : Bool) : (w.setCell ⟨h, k, none⟩ (.bool x)).heap[h]? = some (.cells (bls (hs.set k x)) 4) := by
  rw [heap_setCell_same hb]
  congr 2
  apply Array.ext'
  simp [bls, List.map_set]
theorem info4' : (Tryd.prog.info? 4).map (fun i => (i.zero, i.size, i.bytes)) = some (some (.bool false), 1, 1) := by kernel_rfl
theorem run_makeb (n : Nat) (hn : n ≤ 4096) (w : World) : (Instr.makeSlice 47 (.int .i64 n) (.int .i64 n)).run Tryd.prog w = .ok (.slice (some ⟨w.heap.size, 0, none⟩) n n) (w.alloc (.cells (bls (allFree n)) 4)) := by
  have h := run_make_row' (P := Tryd.prog) 47 4 (.bool false) 1 Tryd.underlying47 info4' rfl .i64 .i64 n (by omega) (by omega) w
  rw [h]
  have e : madeCells #[Value.bool false] n = bls (allFree n) := by
    rw [← Array.toList_inj, toList_madeCells_one]
    simp [bls, allFree]
  rw [e]

theorem count_free (n : Nat) : (allFree n).count true = 0 := by simp [allFree, List.count_replicate]

set_option maxRecDepth 100000 in
set_option maxHeartbeats 4000000 in
theorem counts_walk (a0 : Int) (a1 : Option Addr) (len1 cap1 : Nat) (w : World) (hT : Tab w) (hA : IsActs w a1 len1 cap1) :
    Calls Tryd.prog 6 #[.int .i64 a0, .slice a1 len1 cap1] w fun e w' => e = .returned (.bool true) ∧ Below w.heap.size w w' := by
  have HT := hide hT
  have HA := hide hA.2.2
  have hlc := hA.1
  have hcm : cap1 ≤ 9223372036854775807 := by have := hA.2.1; unfold maxLen at this; omega
  have hpos := hT.pos
  clear hT hA
  go_enter Tryd.func6, Tryd.ntmps6
  go_wp2_with fail
  refine (works_true _ HT.out).mono ?_
  rintro e w1 ⟨rfl, hb1⟩
  have HB1 := hide hb1
  have HT1 := hide (HT.out.keep (hb1.block 0 hpos))
  have hs1 := hb1.size
  clear hb1
  go_wp2_with fail
  refine (among a0 30 (by omega) (by omega) _).mono ?_
  rintro e w2 ⟨bl, hbl, rfl, rfl⟩
  go_wp2_with fail
  refine (new_good bl 1 w1 (by omega) (by omega) (by omega) HT1.out).mono ?_
  rintro e w2 ⟨rfl, hr2, hb2⟩
  obtain ⟨g, hg⟩ : ∃ g, g = w1.heap.size := ⟨_, rfl⟩
  rw [← hg] at hr2
  rw [← hg]
  have hg0 : w.heap.size ≤ g := by omega
  have hz2 := hr2.lt
  have HS2 := hide hr2
  have HB2 : Hid (Below w.heap.size w w2) := HB1.out.trans (hb2.mono hs1)
  have hmk := run_makeb bl (by omega)
  clear hr2 hb2 hg HB1 HT1 hs1
  go_wp2_with fail
  clear hmk
  obtain ⟨hB, hhB⟩ : ∃ h, h = w2.heap.size := ⟨_, rfl⟩
  rw [← hhB]
  have hB0 : g + 1 < hB := by omega
  have HS3 : Hid (IsSlab (w2.alloc (.cells (bls (allFree bl)) 4)) (g + 1) g bl 1 (allFree bl) (zeros (bl * 1))) := HS2.out.keep (Below.heap_alloc _ _ _ hz2.2.2) (Below.heap_alloc _ _ _ hz2.1) (Below.heap_alloc _ _ _ hz2.2.1)
  have HH3 : Hid ((w2.alloc (.cells (bls (allFree bl)) 4)).heap[hB]? = some (.cells (bls (allFree bl)) 4)) := by rw [hhB]; exact alloc_new _ _
  have HB3 : Hid (Below w.heap.size w (w2.alloc (.cells (bls (allFree bl)) 4))) := HB2.out.alloc HB2.out.size _
  clear hhB hz2 HS2 HB2
  go_loopw [8, 9] (fun n i wr => ∃ (k : Nat) (hs : List Bool) (zs : List Int), k ≤ len1 ∧ i = .int .i64 k ∧ n = .int .i64 (hs.count true : Nat) ∧ Hid (IsSlab wr (g + 1) g bl 1 hs zs) ∧ Hid (wr.heap[hB]? = some (.cells (bls hs) 4)) ∧ Hid (Below w.heap.size w wr)) (fun _ i _ => len1 - (intOf i).toNat)
  case atStart => exact ⟨0, _, _, Nat.zero_le _, rfl, by rw [count_free]; rfl, HS3, HH3, HB3⟩
  case round =>
    obtain ⟨k, hs, zs, hk, rfl, rfl, HS, HH, HB⟩ := hrel
    clear HS3 HH3 HB3
    have hcb := count_both hs
    have hlen : hs.length = bl := HS.out.len
    have HLen := hide hlen
    have hHl := lt_of_some HH.out
    by_cases h2 : k < len1
    · obtain ⟨A, o, e2, hAl, hacts⟩ := HA.out (by omega)
      subst e2
      obtain ⟨x, hx⟩ := hacts k h2
      obtain ⟨kind, b, at_, n, ad, l, c, bs⟩ := x
      have q0 : wr.cell? ⟨A, o + k * 5, none⟩ = some (.int .i64 kind) := (HB.out.cell (p := ⟨A, o + k * 5, none⟩) hAl).trans hx.c0
      have q1 : wr.cell? ⟨A, o + k * 5 + 1, none⟩ = some (.int .i64 b) := (HB.out.cell (p := ⟨A, o + k * 5 + 1, none⟩) hAl).trans hx.c1
      obtain ⟨cc, hcc⟩ : ∃ cc, cc = hs.count true := ⟨_, rfl⟩
      rw [← hcc]
      rw [hlen, ← hcc] at hcb
      have hcle : cc ≤ bl := by omega
      have HCC := hide hcc
      clear hacts hx hcc hcb hlen
      go_wp2_with fail
      refine (among kind 3 (by omega) (by omega) _).mono ?_
      rintro e w3 ⟨kd, hkd, rfl, rfl⟩
      by_cases h3 : 0 < kd
      · go_wp2_with fail
        go_loopw [10] (fun i wx => ∃ j : Nat, j ≤ lst hs ∧ i = .int .i64 j ∧ Hid (wx = wr)) (fun i _ => bl - (intOf i).toNat)
        case atStart => exact ⟨0, Nat.zero_le _, rfl, rfl⟩
        case round =>
          obtain ⟨j, hj, rfl, HWX⟩ := hrel
          have hwx := HWX.out
          subst hwx
          have hll := lst_le hs
          rw [HLen.out] at hll
          by_cases h4 : j < lst hs
          · have hc : wr.cell? ⟨hB, j, none⟩ = some (.bool true) := by
              rw [bls_cell HH.out j (by rw [HLen.out]; omega), lst_held hs j h4]
            have hjb : j < bl := by omega
            go_wp2_with fail
            go_roundw
            case rel => exact ⟨j + 1, by omega, by go_num, trivial⟩
            case measure => simp [intOf]; omega
          · have hjl : j = lst hs := by omega
            have HJL : Hid (lst hs = j) := hjl.symm
            by_cases h5 : j < bl
            · have hfr : hs.getD j true = false := by rw [hjl]; exact lst_free hs (by rw [HLen.out, ← hjl]; exact h5)
              have hc : wr.cell? ⟨hB, j, none⟩ = some (.bool false) := by
                rw [bls_cell HH.out j (by rw [HLen.out]; omega), hfr]
              have HFR := hide hfr
              clear hjl hj h4 hfr hll
              go_wp2_with fail
              refine (get_ok (g + 1) g bl 1 hs zs j wr HS.out HJL.out h5).mono ?_
              rintro e w4 ⟨rfl, hs4, hk4⟩
              have HS4 := hide hs4
              have HH4 : Hid (w4.heap[hB]? = some (.cells (bls hs) 4)) := hk4.at_ HH.out (by omega) (by omega)
              have HB4 : Hid (Below w.heap.size w w4) := HB.out.trans (hk4.below (by omega) (by omega) HB.out.size)
              have hcw : w4.cell? ⟨hB, j, none⟩ = some (.bool false) := by
                rw [bls_cell HH4.out j (by rw [HLen.out]; omega), HFR.out]
              have hfw := bls_frozen HH4.out j
              clear hs4 hk4 hc
              go_wp2_with fail
              have HS5 : Hid (IsSlab (w4.setCell ⟨hB, j, none⟩ (.bool true)) (g + 1) g bl 1 (hs.set j true) zs) := HS4.out.keep (Below.heap_setCell _ _ _ _ (by simp; omega)) (Below.heap_setCell _ _ _ _ (by simp; omega)) (Below.heap_setCell _ _ _ _ (by simp; omega))
              refine (used_at (g + 1) g bl 1 _ _ _ HS5.out).mono ?_
              rintro e w5 ⟨rfl, n5, rfl⟩
              have hcnt : (hs.set j true).count true = cc + 1 := by rw [HCC.out]; exact count_got hs j (by rw [HLen.out]; exact h5) HFR.out
              rw [hcnt]
              have hcb2 := count_both (hs.set j true)
              rw [List.length_set, HLen.out, hcnt] at hcb2
              have hcle2 : cc + 1 ≤ bl := by omega
              have HCnt := hide hcnt
              clear hcnt hcb2 hcw hfw
              go_wp2_with fail
              go_roundw
              case rel => exact ⟨k + 1, hs.set j true, zs, by omega, by go_num, by rw [HCnt.out]; go_num, HS5.out.drewN n5, bls_set HH4.out j true, below_drewN (HB4.out.trans ((((Kept.refl hB hB w4).set _ _)).below (by omega) (by omega) HB4.out.size)) n5⟩
              case measure => simp [intOf]; omega
            · obtain rfl : j = bl := by omega
              clear hjl hj h4 hll
              go_wp2_with fail
              refine (get_full (g + 1) g j 1 hs zs wr HS.out HJL.out).mono ?_
              rintro e w4 ⟨rfl, n4, rfl⟩
              go_wp2_with fail
              refine (used_at (g + 1) g j 1 _ _ (wr.drewN n4) (HS.out.drewN n4)).mono ?_
              rintro e w5 ⟨rfl, n5, rfl⟩
              rw [← HCC.out]
              go_wp2_with fail
              go_roundw
              case rel => exact ⟨k + 1, hs, zs, by omega, by go_num, by rw [HCC.out], (HS.out.drewN _), HH.out, below_drewN HB.out _⟩
              case measure => simp [intOf]; omega
      · obtain rfl : kd = 0 := by omega
        by_cases hb0 : 0 ≤ b
        · by_cases hb1 : b < bl
          · obtain ⟨m, rfl⟩ : ∃ m : Nat, b = m := ⟨b.toNat, by omega⟩
            have hmb : m < bl := by omega
            have hc := bls_cell HH.out m (by rw [HLen.out]; exact hmb)
            have hha := heldAt_nat hs m (by rw [HLen.out]; exact hmb)
            cases hv : hs.getD m true with
            | true =>
              rw [hv] at hc
              have HV := hide hv
              clear hha hv
              go_wp2_with fail
              refine (put_ok (g + 1) g bl 1 hs zs m wr HS.out hmb HV.out).mono ?_
              rintro e w4 ⟨rfl, hs4, hk4⟩
              have HS4 := hide hs4
              have HH4 : Hid (w4.heap[hB]? = some (.cells (bls hs) 4)) := hk4.at_ HH.out (by omega) (by omega)
              have HB4 : Hid (Below w.heap.size w w4) := HB.out.trans (hk4.below (by omega) (by omega) HB.out.size)
              have hcw : w4.cell? ⟨hB, m, none⟩ = some (.bool true) := by
                rw [bls_cell HH4.out m (by rw [HLen.out]; omega), HV.out]
              have hfw := bls_frozen HH4.out m
              have hcnt : (hs.set m false).count true + 1 = cc := by rw [HCC.out]; exact count_put hs m (by rw [HLen.out]; exact hmb) HV.out
              have hcc1 : 1 ≤ cc := by omega
              have HCnt := hide hcnt
              clear hs4 hk4 hc hcnt
              go_wp2_with fail
              have HS5 : Hid (IsSlab (w4.setCell ⟨hB, m, none⟩ (.bool false)) (g + 1) g bl 1 (hs.set m false) (splice zs (m * 1) (zeros 1))) := HS4.out.keep (Below.heap_setCell _ _ _ _ (by simp; omega)) (Below.heap_setCell _ _ _ _ (by simp; omega)) (Below.heap_setCell _ _ _ _ (by simp; omega))
              refine (used_at (g + 1) g bl 1 _ _ _ HS5.out).mono ?_
              rintro e w5 ⟨rfl, n5, rfl⟩
              have hce : (((hs.set m false).count true : Nat) : Int) = (cc : Int) - 1 := by have := HCnt.out; omega
              rw [hce]
              clear hcw hfw
              have HCE := hide hce
              clear hce
              go_wp2_with fail
              go_roundw
              case rel => exact ⟨k + 1, hs.set m false, _, by omega, by go_num, by rw [HCE.out], HS5.out.drewN n5, bls_set HH4.out m false, below_drewN (HB4.out.trans ((((Kept.refl hB hB w4).set _ _)).below (by omega) (by omega) HB4.out.size)) n5⟩
              case measure => simp [intOf]; omega
            | false =>
              rw [hv] at hc hha
              have HNH := hide hha
              clear hha hv
              go_wp2_with fail
              refine (put_none (g + 1) g bl 1 hs zs m wr HS.out HNH.out).mono ?_
              rintro e w4 ⟨rfl, n4, rfl⟩
              go_wp2_with fail
              refine (used_at (g + 1) g bl 1 _ _ (wr.drewN n4) (HS.out.drewN n4)).mono ?_
              rintro e w5 ⟨rfl, n5, rfl⟩
              rw [← HCC.out]
              go_wp2_with fail
              go_roundw
              case rel => exact ⟨k + 1, hs, zs, by omega, by go_num, by rw [HCC.out], (HS.out.drewN _), HH.out, below_drewN HB.out _⟩
              case measure => simp [intOf]; omega
          · have HNH : Hid (heldAt hs b = false) := by show heldAt hs b = false; unfold heldAt; simp; have := HLen.out; omega
            go_wp2_with fail
            refine (put_none (g + 1) g bl 1 hs zs b wr HS.out HNH.out).mono ?_
            rintro e w4 ⟨rfl, n4, rfl⟩
            go_wp2_with fail
            refine (used_at (g + 1) g bl 1 _ _ (wr.drewN n4) (HS.out.drewN n4)).mono ?_
            rintro e w5 ⟨rfl, n5, rfl⟩
            rw [← HCC.out]
            go_wp2_with fail
            go_roundw
            case rel => exact ⟨k + 1, hs, zs, by omega, by go_num, by rw [HCC.out], (HS.out.drewN _), HH.out, below_drewN HB.out _⟩
            case measure => simp [intOf]; omega
        · have HNH : Hid (heldAt hs b = false) := by show heldAt hs b = false; unfold heldAt; simp; omega
          go_wp2_with fail
          refine (put_none (g + 1) g bl 1 hs zs b wr HS.out HNH.out).mono ?_
          rintro e w4 ⟨rfl, n4, rfl⟩
          go_wp2_with fail
          refine (used_at (g + 1) g bl 1 _ _ (wr.drewN n4) (HS.out.drewN n4)).mono ?_
          rintro e w5 ⟨rfl, n5, rfl⟩
          rw [← HCC.out]
          go_wp2_with fail
          go_roundw
          case rel => exact ⟨k + 1, hs, zs, by omega, by go_num, by rw [HCC.out], (HS.out.drewN _), HH.out, below_drewN HB.out _⟩
          case measure => simp [intOf]; omega
    · go_wp2_with fail
      go_ret
      exact ⟨rfl, HB.out⟩

end Go.Proofs.YtnikjcinleghbaaDoor
