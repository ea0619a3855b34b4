/-
  DigestPieces' walk; conditions as each theorem has them.
-/
import Derived.Test.YtaibdmmacncejaaDoorW
set_option linter.unusedSimpArgs false
set_option linter.unusedVariables false
namespace Go.Proofs.YtaibdmmacncejaaDoor
open Go.RowKit

set_option maxRecDepth 100000 in
set_option maxHeartbeats 1000000 in
theorem dsum_no (v : Value) (w : World) (h : ∀ o, Calls Tryd.prog 24 #[v] (w.alloc o) fun e w' => e = .returned (.bool false) ∧ w.alloc o = w') : Calls Tryd.prog 16 #[v] w fun e w' => e = .returned (.agg z32) ∧ Below w.heap.size w w' := by
  have hz24 := zero24
  obtain ⟨W1, hW1⟩ : ∃ W1, W1 = w.alloc (.cells z32 24) := ⟨_, rfl⟩
  have hAl : w.alloc (.cells z32 24) = W1 := hW1.symm
  have hn := h (.cells z32 24)
  have hrow : W1.heap[w.heap.size]? = some (.cells z32 24) := by rw [hW1]; exact alloc_new _ _
  have b1 : Below w.heap.size w W1 := by rw [hW1]; exact (Below.refl _ _).alloc (Nat.le_refl _) _
  rw [hAl] at hn
  obtain ⟨W2, hW2⟩ : ∃ W2, W2 = W1.setRow w.heap.size z32 := ⟨_, rfl⟩
  have hrow2 : W2.heap[w.heap.size]? = some (.cells z32 24) := by rw [hW2]; exact setRow_heap _ _ _ _ _ _ hrow
  have b2 : Below w.heap.size w W2 := by rw [hW2]; exact b1.trans (((Kept.refl w.heap.size w.heap.size W1).setRow (Or.inl rfl) _).below (Nat.le_refl _) (Nat.le_refl _) b1.size)
  have HN := hide hn
  have HW2 := hide hW2
  have HROW := hide hrow
  have HROW2 := hide hrow2
  have B2 := hide b2
  clear h hn hW1 hW2 hrow hrow2 b1 b2
  go_enter Tryd.func16, Tryd.ntmps16
  go_wp2_with fail
  refine HN.out.mono ?_
  rintro e w1 ⟨rfl, rfl⟩
  go_wp2_with (first
    | (refine wpList_built rfl 24 _ rfl z32 ?_ ?_; (simp [Act.eval]; exact built24))
    | (refine wpList_store_rowW rfl 24 _ _ rfl w.heap.size z32 rfl rfl 24 z32 HROW.out info24 rfl z32_one W2 HW2.out ?_))
  refine bodyPost_ret (results_cell_row rfl _ _ w.heap.size 24 z32 _ _ rfl HROW2.out Tryd.underlying24 rfl info24) rfl ⟨rfl, B2.out⟩
theorem dsum_nil (w : World) : Calls Tryd.prog 16 #[.pointer none] w fun e w' => e = .returned (.agg z32) ∧ Below w.heap.size w w' := dsum_no _ w fun o => isMade_nil _
theorem dsum_un (r : Nat) (w : World) (h : w.cell? ⟨r, 0, none⟩ = some (.bool false)) : Calls Tryd.prog 16 #[.pointer (some ⟨r, 0, none⟩)] w fun e w' => e = .returned (.agg z32) ∧ Below w.heap.size w w' :=
  dsum_no _ w fun o => isMade_at r false _ (alloc_cell' h o)

/-- Block g holds n bytes or more. -/
def Room (w : World) (g n : Nat) : Prop := ∃ cur, w.heap[g]? = some (.cells cur 5) ∧ n ≤ cur.size
theorem Room.keep {w w' : World} {g n : Nat} (h : Room w g n) (e : w'.heap[g]? = w.heap[g]?) : Room w' g n := by obtain ⟨c, h1, h2⟩ := h; exact ⟨c, e.trans h1, h2⟩
theorem Room.at_ {w : World} {g n : Nat} (h : Room w g n) (k : Nat) (hk : k < n) : (∃ y, w.cell? ⟨g, k, none⟩ = some y) ∧ w.frozen? ⟨g, k, none⟩ = false := by
  obtain ⟨c, h1, h2⟩ := h
  refine ⟨⟨c[k], ?_⟩, ?_⟩
  · simp only [World.cell?, h1]
    simp [show k < c.size by omega]
  · exact Row.frozen (C := c.toList) (ty := 5) h1 k
theorem Room.set {w : World} {g n : Nat} (h : Room w g n) (k : Nat) (v : Value) : Room (w.setCell ⟨g, k, none⟩ v) g n := by
  obtain ⟨c, h1, h2⟩ := h
  exact ⟨_, heap_setCell_same h1 k v, by simpa using h2⟩

set_option maxHeartbeats 1000000 in
theorem cp_own (a : Option Addr) (n c : Nat) (l : List Nat) (w : World) (h : Src w a n c l) (hn : n ≤ 140737488355328) : Calls Tryd.prog 14 #[.slice a n c] w fun e w' => ∃ a' c', e = .returned (.slice a' n c') ∧ Src w' a' n c' l ∧ (0 < n → ∃ g, a' = some ⟨g, 0, none⟩ ∧ Room w' g n ∧ w.heap.size ≤ g) ∧ Below w.heap.size w w' := by
  obtain ⟨W1, hW1⟩ : ∃ W1, W1 = w.alloc (.cells #[] 5) := ⟨_, rfl⟩
  have b1 : Below w.heap.size w W1 := by rw [hW1]; exact (Below.refl _ _).alloc (Nat.le_refl _) _
  have o1 : Own W1 w.heap.size (.slice (some ⟨w.heap.size, 0, none⟩) 0 0) [] := by rw [hW1]; exact own_new w
  obtain ⟨v', W2, hap, o2, b2⟩ := run_app 28 o1 (h.below b1) (by simpa using hn) b1.size
  rw [List.nil_append] at o2
  obtain ⟨a', c', rfl, s2, t2, f2⟩ := own_src' o2 h.byte
  rw [h.hlen] at s2 hap o2
  have r2 : 0 < n → ∃ g, a' = some ⟨g, 0, none⟩ ∧ Room W2 g n ∧ w.heap.size ≤ g := by
    intro h0
    rcases o2.2 with ⟨e, h1⟩ | ⟨g, cap, cur, e, hg, hh, hc, hm, hs, ht⟩
    · rw [h.hlen] at h1; omega
    · simp only [Value.slice.injEq] at e
      obtain ⟨rfl, _, rfl⟩ := e
      exact ⟨g, rfl, ⟨cur, hh, by rw [hs, Nat.mul_one]; exact s2.hcap⟩, hg⟩
  have hAl : w.alloc (.cells #[] 5) = W1 := hW1.symm
  have HAP := hide hap
  have HS := hide s2
  have HR := hide r2
  have HB : Hid (Below w.heap.size w W2) := b1.trans b2
  clear h hW1 b1 o1 hap o2 b2 s2 t2 f2 r2
  go_enter Tryd.func14, Tryd.ntmps14
  go_wp2_with (refine wpList_app_run _ rfl _ _ 28 28 rfl _ _ rfl rfl HAP.out ?_)
  go_ret
  exact ⟨a', c', rfl, HS.out, HR.out, HB.out⟩

theorem Parts.take {w : World} {a : Option Addr} {n cap : Nat} {ps : List (List Nat)} (h : Parts w a n cap ps) (k : Nat) (hk : k ≤ n) : Parts w a k cap (ps.take k) := by
  refine ⟨by rw [List.length_take, h.hlen]; omega, Nat.le_trans hk h.hcap, h.hmax, h.nil, fun h0 => ?_⟩
  obtain ⟨b, o, e, hb, hc⟩ := h.lies (by omega)
  refine ⟨b, o, e, hb, fun i hi => ?_⟩
  obtain ⟨ai, li, ci, e1, s1⟩ := hc i (by omega)
  refine ⟨ai, li, ci, e1, ?_⟩
  rw [List.getD, List.getElem?_take, if_pos hi]
  exact s1
theorem size22 (w : World) : (sizeOf (Tryd.prog.elem 22)).run Tryd.prog w = .ok 1 w := by kernel_rfl
/-- 'parts[:B]'. -/
theorem run_cut22 (b o N C B : Nat) (hB : B ≤ C) (w : World) : (Instr.sliceAt 22 (.slice (some ⟨b, o, none⟩) N C) none (some (.int .i64 B)) none).run Tryd.prog w = .ok (.slice (some ⟨b, o, none⟩) B C) w ∧
    (Instr.slice 22 (.slice (some ⟨b, o, none⟩) N C) none (some (.int .i64 B)) none).run Tryd.prog w = .ok (.slice (some ⟨b, o, none⟩) B C) w := by
  have key : (Instr.slice 22 (.slice (some ⟨b, o, none⟩) N C) none (some (.int .i64 B)) none).run Tryd.prog w = .ok (.slice (some ⟨b, o, none⟩) B C) w := by
    rw [run_slice_h w 22 _ N C Tryd.underlying22 .i64 B (by omega) (by omega), size22]
    simp only [Result.andThen_ok, sliced, Int.toNat_natCast]
    split
    · simp
    · simp [add_none]
  exact ⟨by rw [run_sliceAt_slice w 22 _ _ _ _ Tryd.underlying22, key], key⟩

/-- The Digest at G has the bytes m; the parts and the tables lie as they did. -/
structure PS (w0 : World) (a : Option Addr) (n cap : Nat) (ps : List (List Nat)) (G : Nat) (m : List Nat) (W : World) : Prop where
  dg : IsDig W G m
  tabs : Tabs W
  bel : Below w0.heap.size w0 W
  hG : w0.heap.size ≤ G
theorem PS.below {w0 : World} {a : Option Addr} {n cap : Nat} {ps : List (List Nat)} {G : Nat} {m : List Nat} {W W' : World} (h : PS w0 a n cap ps G m W) (k : Below W.heap.size W W') : PS w0 a n cap ps G m W' :=
  ⟨h.dg.keep (k.block G h.dg.lt), h.tabs.below k h.tabs.size, h.bel.trans (k.mono h.bel.size), h.hG⟩
theorem PS.drew {w0 : World} {a : Option Addr} {n cap : Nat} {ps : List (List Nat)} {G : Nat} {m : List Nat} {W : World} (h : PS w0 a n cap ps G m W) : PS w0 a n cap ps G m W.drew :=
  ⟨h.dg.keep rfl, h.tabs.keep rfl rfl, ⟨h.bel.os, h.bel.tape, h.bel.output, h.bel.size, h.bel.block⟩, h.hG⟩

set_option maxRecDepth 100000 in
set_option maxHeartbeats 4000000 in
theorem pieces_walk (a : Option Addr) (n cap : Nat) (ps : List (List Nat)) (w : World) (hT : Tabs w) (hp : Parts w a n cap ps) (hn : n < 1000000000000) (hl : ps.flatten.length < 1000000000000) :
    Calls Tryd.prog 4 #[.slice a n cap] w fun e w' => e = .returned (.bool true) ∧ Below w.heap.size w w' := by
  have h2 := hT.size
  have hcm := hp.hmax
  have hnc := hp.hcap
  unfold maxLen at hcm
  have HT := hide hT
  have HP := hide hp
  have hgd := guard24
  clear hT hp
  go_enter Tryd.func4, Tryd.ntmps4
  go_wp2_with fail
  refine (works_at _ HT.out).mono ?_
  rintro e w1 ⟨rfl, b1⟩
  have B1 := hide b1
  clear b1
  go_wp2_with fail
  refine (new_at _ (HT.out.below B1.out h2)).mono ?_
  rintro e w2 ⟨rfl, d2, b2⟩
  have s1 := B1.out.size
  obtain ⟨G, hG⟩ : ∃ G, G = w1.heap.size := ⟨_, rfl⟩
  rw [← hG] at d2 ⊢
  have S2 : Hid (PS w a n cap ps G [] w2) := ⟨d2, (HT.out.below B1.out h2).below b2 (by omega), B1.out.trans (b2.mono s1), by omega⟩
  clear d2 b2 hG B1 s1
  go_wp2_with fail
  go_loopw [4] (fun i wr => ∃ k : Nat, k ≤ n ∧ i = .int .i64 k ∧ Hid (PS w a n cap ps G (ps.take k).flatten wr)) (fun i _ => n - (intOf i).toNat)
  case atStart => exact ⟨0, by omega, rfl, S2.out⟩
  case round =>
    clear S2
    obtain ⟨k, hk, rfl, HI⟩ := hrel
    by_cases h1 : k < n
    · have hs := HI.out
      obtain ⟨b, o, rfl, hb, hc⟩ := (HP.out.below hs.bel).lies (by omega)
      obtain ⟨ai, li, ci, ec, hsrc⟩ := hc k h1
      have htf := take_flat ps k (by rw [HP.out.hlen]; exact h1)
      have hle := flat_le ps (k + 1)
      have hle1 := flat_le ps k
      have hll := part_le ps k
      rw [hsrc.hlen] at hll
      have HC := hide (cp_own ai li ci _ wr hsrc (by omega))
      have hkI : (k : Int) < n := by omega
      have HSRC := hide hsrc
      have HTF := hide htf
      have HLE := hide hle
      have HLE1 := hide hle1
      clear hc hsrc hs htf hle hle1
      go_wp2_with fail
      refine HC.out.mono ?_
      rintro e w3 ⟨a5, c5, rfl, s3, r3, b3⟩
      have S3 := hide (HI.out.below b3)
      have hlt3 : G < wr.heap.size := HI.out.dg.lt
      have z3 := b3.size
      have HS3 := hide s3
      have R3 := hide r3
      have hc5 := s3.hcap
      have hm5 := s3.hmax
      unfold maxLen at hm5
      clear b3 HI s3 r3 HC
      have hoff : Off a5 li G := by
        intro h0 b' o' e'
        obtain ⟨g, e, _, hg⟩ := R3.out h0
        rw [e] at e'
        simp only [Option.some.injEq, Addr.mk.injEq, and_true] at e'
        omega
      have HADD := hide (add_at G _ a5 li c5 _ w3 S3.out.tabs S3.out.dg HS3.out hoff (by have := HLE1.out; omega))
      clear hoff
      go_wp2_with fail
      refine HADD.out.mono ?_
      rintro e w4 ⟨rfl, d4, k4⟩
      have D4 := hide d4
      have K4 := hide k4
      clear d4 k4 HADD
      obtain ⟨M, hM⟩ : ∃ M, M = (ps.take (k + 1)).flatten := ⟨_, rfl⟩
      have hMl : M.length < 1000000000000 := by have := HLE.out; rw [hM]; omega
      have S4 : Hid (PS w (some ⟨b, o, none⟩) n cap ps G M w4) := by
        have kk := K4.out
        have hGs := S3.out.hG
        refine ⟨?_, S3.out.tabs.kept kk (by omega) (by omega), S3.out.bel.trans (kk.below hGs hGs S3.out.bel.size), hGs⟩
        rw [hM, HTF.out]
        exact D4.out
      have R4 : Hid (∀ g, 0 < li → a5 = some ⟨g, 0, none⟩ → Room w4 g li) := fun g h0 e => by
        obtain ⟨g', e', hr, hg⟩ := R3.out h0
        rw [e'] at e
        simp only [Option.some.injEq, Addr.mk.injEq, and_true] at e
        subst e
        have hr' := hr
        obtain ⟨cur, hc, _⟩ := hr
        exact hr'.keep (K4.out.block _ (lt_of_some hc) (by omega) (by omega))
      have HM := hide hM
      clear hM D4 K4 S3 HS3 HSRC HTF HLE HLE1 ec hll
      go_wp2_with fail
      go_loopw [6] (fun i wq => ∃ j : Nat, j ≤ li ∧ i = .int .i64 j ∧ Hid (PS w (some ⟨b, o, none⟩) n cap ps G M wq ∧ ∀ g, 0 < li → a5 = some ⟨g, 0, none⟩ → Room wq g li)) (fun i _ => li - (intOf i).toNat)
      case atStart => exact ⟨0, by omega, rfl, S4.out, R4.out⟩
      case round =>
        clear S4 R4
        obtain ⟨j, hj, rfl, HI⟩ := hrel
        by_cases h5 : j < li
        · obtain ⟨g, rfl, _, hg⟩ := R3.out (by omega)
          obtain ⟨i1, i2⟩ := HI.out
          have hr := i2 g (by omega) rfl
          obtain ⟨⟨y, ey⟩, ef⟩ := hr.at_ j h5
          have hjI : (j : Int) < li := by omega
          have I1 := hide i1
          have HR := hide hr
          clear i1 i2 hr HI
          go_wp2_with fail
          go_roundw
          case rel =>
            refine ⟨j + 1, by omega, by go_num, ?_, fun g' _ e => ?_⟩
            · have hGs := I1.out.hG
              have kk : Kept g g wr (wr.setCell ⟨g, j, none⟩ (.int .u8 77)) := (Kept.refl _ _ _).set _ _
              have hww := I1.out.bel.size
              have hGl := I1.out.dg.lt
              exact ⟨I1.out.dg.keep (kk.block G hGl (by omega) (by omega)), I1.out.tabs.kept kk (by omega) (by omega), I1.out.bel.trans (kk.below (by omega) (by omega) hww), hGs⟩
            · simp only [Option.some.injEq, Addr.mk.injEq, and_true] at e
              subst e
              exact HR.out.set _ _
          case measure => simp [intOf]; omega
        · obtain ⟨i1, i2⟩ := HI.out
          obtain ⟨V, hV⟩ : ∃ V, V = (nums .u8 (dig M)).toArray := ⟨_, rfl⟩
          have heq := fun w => run_eq24 (dig M) (dig_length _) (dig_byte _) w
          rw [← hV] at heq
          obtain ⟨K1, hK1⟩ : ∃ K1, K1 = k + 1 := ⟨_, rfl⟩
          have hK : (k : Int) + 1 = K1 := by omega
          have hKw : IntKind.i64.wrap (K1 : Int) = K1 := wrap_i _ (by omega) (by omega)
          have hcutb := fun w => run_cut22 b o n cap K1 (by omega) w
          have hcut1 := fun w => (hcutb w).1
          have hcut2 := fun w => (hcutb w).2
          have S16 : Hid (∀ W, PS w (some ⟨b, o, none⟩) n cap ps G M W → Calls Tryd.prog 16 #[.pointer (some ⟨G, 0, none⟩)] W fun e w' => e = .returned (.agg V) ∧ PS w (some ⟨b, o, none⟩) n cap ps G M w') := fun W h => by
            refine (dsum_at G M W h.tabs h.dg (by omega)).mono ?_
            rintro e w' ⟨rfl, bq⟩
            exact ⟨by rw [hV], h.below bq⟩
          have S10 : Hid (∀ W, PS w (some ⟨b, o, none⟩) n cap ps G M W → Calls Tryd.prog 10 #[.slice (some ⟨b, o, none⟩) K1 cap] W fun e w' => e = .returned (.agg V) ∧ PS w (some ⟨b, o, none⟩) n cap ps G M w') := fun W h => by
            have hq := rsum_at (some ⟨b, o, none⟩) K1 cap (ps.take K1) W ((HP.out.below h.bel).take K1 (by omega)) (by rw [hK1, ← HM.out]; exact hMl)
            refine hq.mono ?_
            rintro e w' ⟨rfl, bq⟩
            exact ⟨by rw [hV, HM.out, hK1], h.below bq⟩
          have HS := hide i1
          have hdj : decide ((j : Int) < li) = false := by simp; omega
          have HK1 := hide hK1
          clear i1 i2 HI hV hcutb hK1 R3
          go_wp2_with fail
          go_region_with (first
            | (go_at_call 16; refine (S16.out _ (by first | exact HS.out | exact HS.out.drew | exact HS.out.drew.drew)).mono ?_; rintro e w8 ⟨rfl, hs⟩; have HS := hide hs; clear hs)
            | (go_at_call 10; refine (S10.out _ (by first | exact HS.out | exact HS.out.drew | exact HS.out.drew.drew)).mono ?_; rintro e w9 ⟨rfl, hs⟩; have HS := hide hs; clear hs))
          clear hcut1 hcut2 heq
          go_wp2_with fail
          go_roundw
          case rel => exact ⟨k + 1, by omega, by first | go_num | (rw [← HK1.out]), by rw [← HM.out]; exact HS.out⟩
          case measure => simp [intOf]; omega
    · have hs := HI.out
      rw [List.take_of_length_le (by rw [HP.out.hlen]; omega)] at hs
      obtain ⟨V, hV⟩ : ∃ V, V = (nums .u8 (dig ps.flatten)).toArray := ⟨_, rfl⟩
      have heq := fun w => run_eq24 (dig ps.flatten) (dig_length _) (dig_byte _) w
      rw [← hV] at heq
      have hez : ∀ w, (Op.equalIn 10000 24 (.agg z32) (.agg z32)).run Tryd.prog w = .ok true w := fun w => run_eq24 (List.replicate 32 0) (by simp) (fun x hx => by rw [List.eq_of_mem_replicate hx]; omega) w
      have S16 : Hid (∀ W, PS w a n cap ps G ps.flatten W → Calls Tryd.prog 16 #[.pointer (some ⟨G, 0, none⟩)] W fun e w' => e = .returned (.agg V) ∧ Below W.heap.size W w') := fun W h => by
        rw [hV]
        exact dsum_at G ps.flatten W h.tabs h.dg (by omega)
      have S10 : Hid (∀ W, PS w a n cap ps G ps.flatten W → Calls Tryd.prog 10 #[.slice a n cap] W fun e w' => e = .returned (.agg V) ∧ Below W.heap.size W w') := fun W h => by
        rw [hV]
        exact rsum_at a n cap ps W (HP.out.below h.bel) hl
      obtain ⟨Z, hZ⟩ : ∃ Z, Z = wr.heap.size := ⟨_, rfl⟩
      obtain ⟨W5, hW5⟩ : ∃ W5, W5 = wr.alloc (.cells zd 43) := ⟨_, rfl⟩
      have hA5 : wr.alloc (.cells zd 43) = W5 := hW5.symm
      have b5 : Below wr.heap.size wr W5 := by rw [hW5]; exact (Below.refl _ _).alloc (Nat.le_refl _) _
      have c5 : W5.cell? ⟨Z, 0, none⟩ = some (.bool false) := by rw [hW5, hZ]; exact (Row.new wr zd 43).cell 0
      obtain ⟨W6, hW6⟩ : ∃ W6, W6 = W5.alloc (.cells #[.int .u8 97] 5 (1, 2)) := ⟨_, rfl⟩
      have hA6 : W5.alloc (.cells #[.int .u8 97] 5 (1, 2)) = W6 := hW6.symm
      have b6 : Below W5.heap.size W5 W6 := by rw [hW6]; exact (Below.refl _ _).alloc (Nat.le_refl _) _
      have c6 : W6.cell? ⟨Z, 0, none⟩ = some (.bool false) := by rw [hW6]; exact alloc_cell' c5 _
      obtain ⟨W7, hW7⟩ : ∃ W7, W7 = W6.alloc (.cells #[.int .u8 97] 5 (1, 2)) := ⟨_, rfl⟩
      have hA7 : W6.alloc (.cells #[.int .u8 97] 5 (1, 2)) = W7 := hW7.symm
      have b7 : Below W6.heap.size W6 W7 := by rw [hW7]; exact (Below.refl _ _).alloc (Nat.le_refl _) _
      have c7 : W7.cell? ⟨Z, 0, none⟩ = some (.bool false) := by rw [hW7]; exact alloc_cell' c6 _
      have HS := hide (((hs.below b5).below b6).below b7)
      have hcv1 := fun (w : World) (C : Array Value) (n c : Nat) => Lib.run_convert_bytes_const (P := Tryd.prog) w 28 5 C n c Tryd.underlying28 Tryd.underlying5
      have hz43 := zero43
      have hZ' : wr.heap.size = Z := hZ.symm
      have C6 := hide c6
      have C7 := hide c7
      have hdk : decide ((k : Int) < n) = false := by simp; omega
      clear hs HI hV hZ hW5 b5 c5 hW6 b6 c6 hW7 b7 c7
      go_wp2_with fail
      refine (add_un Z _ W6 C6.out).mono ?_
      rintro e w9 ⟨rfl, rfl⟩
      go_wp2_with fail
      refine (add_nil _ _).mono ?_
      rintro e w9 ⟨rfl, rfl⟩
      clear hcv1 hz43 hA5 hA6 hA7 hZ'
      go_wp2_with fail
      refine (S16.out _ HS.out).mono ?_
      rintro e w10 ⟨rfl, b10⟩
      have HS10 := hide (HS.out.below b10)
      have C10 : Hid (w10.cell? ⟨Z, 0, none⟩ = some (.bool false)) := (b10.cell (p := ⟨Z, 0, none⟩) (lt_of_cell C7.out)).trans C7.out
      clear b10 HS C7
      go_wp2_with fail
      refine (S10.out _ HS10.out).mono ?_
      rintro e w11 ⟨rfl, b11⟩
      have HS11 := hide (HS10.out.below b11)
      have C11 : Hid (w11.cell? ⟨Z, 0, none⟩ = some (.bool false)) := (b11.cell (p := ⟨Z, 0, none⟩) (lt_of_cell C10.out)).trans C10.out
      clear b11 HS10 C10
      go_wp2_with fail
      refine (dsum_un Z w11 C11.out).mono ?_
      rintro e w12 ⟨rfl, b12⟩
      have HS12 := hide (HS11.out.below b12)
      clear b12 HS11 C11
      go_wp2_with (refine wpList_builtG rfl 24 _ rfl z32 ?_ ?_; (simp [Act.eval]; exact built24))
      refine (dsum_nil w12).mono ?_
      rintro e w13 ⟨rfl, b13⟩
      have HS13 := hide (HS12.out.below b13)
      clear b13 HS12
      go_wp2_with (refine wpList_builtG rfl 24 _ rfl z32 ?_ ?_; (simp [Act.eval]; exact built24))
      go_ret
      exact ⟨rfl, HS13.out.bel⟩
end Go.Proofs.YtaibdmmacncejaaDoor
