/-
  The reference table's New and Live, and 'same' of the statements' package; conditions as each theorem has them.
-/
import Derived.Test.YthfkjephnhnpoaaX
import Derived.Test.YthfkjephnhnpoaaU
set_option linter.unusedSimpArgs false
set_option linter.unusedVariables false
namespace Go.Proofs.Ythfkjephnhnpoaa
open Go.RowKit

/-- v is a slice of entries of the reference, nil or at the head of a block from B on. -/
def IsQ (w : World) (B : Nat) (v : Value) (l : List En) : Prop := (v = .slice none 0 0 ∧ l = []) ∨
  ∃ h cap rest, v = .slice (some ⟨h, 0, none⟩) l.length cap ∧ w.heap[h]? = some (.cells (flat5 l ++ rest).toArray 63) ∧ l.length ≤ cap ∧ cap ≤ maxLen ∧ (flat5 l ++ rest).length = cap * 5 ∧ B ≤ h

theorem info63p : ∃ i, Try.prog.info? 63 = some i ∧ i.zero = some (.agg #[.bool false, .bool false, .int .i64 0, .int .i64 0, .int .i64 0]) ∧ i.size = 5 ∧ i.bytes = 32 := by
  have h : (Try.prog.info? 63).map (fun i => (i.zero, i.size, i.bytes)) = some (some (.agg #[.bool false, .bool false, .int .i64 0, .int .i64 0, .int .i64 0]), 5, 32) := by kernel_rfl
  obtain ⟨i, hi, hz⟩ := Option.map_eq_some_iff.1 h
  simp only [Prod.mk.injEq] at hz
  exact ⟨i, hi, hz.1, hz.2.1, hz.2.2⟩

theorem run_app5 {w : World} {B : Nat} {v : Value} {l : List En} (hq : IsQ w B v l) (e : En) {s : Nat} (hs : w.heap[s]? = some (.cells (flat5 [e]).toArray 63)) (hl : l.length < 65536) (hB : B ≤ w.heap.size) :
    ∃ v' w', (Builtin.append_ #[59, 59] 59 #[v, .slice (some ⟨s, 0, none⟩) 1 1]).run Try.prog w = .ok v' w' ∧ IsQ w' B v' (l ++ [e]) ∧ w.heap.size ≤ w'.heap.size ∧ w'.os = w.os ∧ w'.tape = w.tape ∧ w'.output = w.output ∧ (∀ k, k < w.heap.size → k < B → w'.heap[k]? = w.heap[k]?) := by
  obtain ⟨i, hi, hz, hsz, hby⟩ := info63p
  have hown : w.ownsRow 0 63 5 v l.length (flat5 l) := by
    refine ⟨flat5_length l, ?_⟩
    rcases hq with ⟨rfl, rfl⟩ | ⟨h, cap, rest, h1, h2, h3, h4, h5, h6⟩
    · exact Or.inl ⟨rfl, rfl⟩
    · refine Or.inr ⟨h, cap, _, h1, Nat.zero_le _, h2, h3, h4, by simpa using h5, ?_⟩
      rw [← flat5_length]
      simp
  obtain ⟨v', w', hr, hw, hg, hnil, hat⟩ := run_append_own_at (P := Try.prog) w 0 59 59 63 i (.agg #[.bool false, .bool false, .int .i64 0, .int .i64 0, .int .i64 0]) 5 32 Try.underlying59 hi hz hsz hby rfl (by omega) v l.length (flat5 l) hown ⟨s, 0, none⟩ 1 1 (flat5 [e]) rfl
    (fun j u hu => by
      rw [add_none, Nat.zero_add]
      simp only [World.cell?, hs]
      simpa using hu) (flat5_one [e]) (by unfold maxLen; omega) (by omega) (Nat.zero_le _)
  have hvb : ∀ k, k < B → v.ownBlock ≠ some k := fun k hk => by
    rcases hq with ⟨rfl, rfl⟩ | ⟨h, cap, rest, h1, h2, h3, h4, h5, h6⟩
    · simp [Value.ownBlock]
    · rw [h1]; simp [Value.ownBlock]; omega
  rcases hw.2 with ⟨hv, h0⟩ | ⟨h', cap', cur', hv, _, hh, h1, h2, h3, h4⟩
  · omega
  · subst hv
    refine ⟨_, w', hr, Or.inr ⟨h', cap', cur'.toList.drop ((l.length + 1) * 5), by simp, ?_, by simpa using h1, h2, ?_, ?_⟩, hg.size, hg.os, hg.tape, hg.output, fun k hk hkB => hg.block k hk (Ne.symm (hvb k hkB))⟩
    · rw [flat5_append, ← h4, List.take_append_drop]
      exact hh
    · rw [flat5_append, ← h4, List.take_append_drop]
      simpa using h3
    · simp only [Value.ownBlock] at hat
      rcases hat with hat | hat
      · rcases hq with ⟨rfl, rfl⟩ | ⟨h, cap, rest, h1, h2, h3, h4, h5, h6⟩
        · cases hat
        · rw [h1] at hat
          simp at hat
          omega
      · simp at hat
        omega

theorem IsQ.shape {w : World} {B : Nat} {v : Value} {l : List En} (h : IsQ w B v l) : ∃ a c, v = .slice a l.length c := by
  rcases h with ⟨rfl, rfl⟩ | ⟨h, cap, rest, h1, _⟩
  · exact ⟨none, 0, rfl⟩
  · exact ⟨_, _, h1⟩

set_option maxHeartbeats 1000000 in
theorem rnew_bad (b : Int) (w : World) (h : b < 0 ∨ 4096 < b) :
    Calls Try.prog 9 #[.int .i64 b] w fun e w' => e = .returned (.tuple #[.pointer none, .int .i64 2]) ∧ w = w' := by
  by_cases h1 : b < 0
  · go_enter Try.func9, Try.ntmps9
    go_wp2
    go_ret2
    exact ⟨rfl, rfl⟩
  · have h4 : 4096 < b := by omega
    go_enter Try.func9, Try.ntmps9
    go_wp2
    go_ret2
    exact ⟨rfl, rfl⟩

set_option maxHeartbeats 1000000 in
theorem rnew_good (n : Nat) (w : World) (hn : n ≤ 4096) :
    Calls Try.prog 9 #[.int .i64 n] w fun e w' => e = .returned (.tuple #[.pointer (some ⟨w.heap.size, 0, none⟩), .int .i64 0]) ∧ (∃ b, RT w' w.heap.size b (List.replicate n freshE) ∧ w.heap.size ≤ b) ∧ Below w.heap.size w w' := by
  obtain ⟨y, hy⟩ : ∃ y, y = w.heap.size := ⟨_, rfl⟩
  go_enter Try.func9, Try.ntmps9
  go_wp2_with fail
  rw [← hy]
  have HY := hide hy
  have HS0 : Hid ((w.alloc (.cells #[.slice none 0 0] 61)).heap[y]? = some (.cells #[.slice none 0 0] 61)) := by rw [hy]; exact alloc_new _ _
  clear hy
  go_loopw [5] (fun i wr => ∃ (j : Nat) (v : Value), j ≤ n ∧ i = .int .i64 j ∧ Hid (wr.heap[y]? = some (.cells #[v] 61)) ∧ Hid (IsQ wr (y + 1) v (List.replicate j freshE)) ∧ Hid (Below y w wr)) (fun i _ => n - (intOf i).toNat)
  case atStart => exact ⟨0, _, Nat.zero_le _, rfl, HS0, Or.inl ⟨rfl, rfl⟩, (Below.refl _ _).alloc (by rw [HY.out]; exact Nat.le_refl _) _⟩
  case round =>
    obtain ⟨j, v, hj, rfl, HH, HQ, HB⟩ := hrel
    clear HS0
    by_cases hlt : j < n
    · have hyl := lt_of_some HH.out
      have c0 : wr.cell? ⟨y, 0, none⟩ = some v := by simp [World.cell?, HH.out]
      obtain ⟨v', w', hr, hq', hz, o1, o2, o3, hblk⟩ := run_app5 (w := wr.alloc (.cells (flat5 [freshE]).toArray 63)) (B := y + 1) (v := v) (l := List.replicate j freshE) (by
          rcases HQ.out with h | ⟨h, cap, rest, h1, h2, h3⟩
          · exact Or.inl h
          · exact Or.inr ⟨h, cap, rest, h1, alloc_old _ h2, h3⟩) freshE (s := wr.heap.size) (alloc_new _ _) (by simp; omega) (by simp; omega)
      have hz' : wr.heap.size + 1 ≤ w'.heap.size := by simpa using hz
      obtain ⟨a', cc', hv'⟩ := hq'.shape
      obtain ⟨ll, hll⟩ : ∃ ll, ll = (List.replicate j freshE ++ [freshE]).length := ⟨_, rfl⟩
      rw [← hll] at hv'
      subst hv'
      clear hll
      have hyw : w'.heap[y]? = some (.cells #[v] 61) := by rw [hblk y (by simp; omega) (by omega), Below.heap_alloc _ _ _ hyl]; exact HH.out
      have c1 : w'.cell? ⟨y, 0, none⟩ = some v := by simp [World.cell?, hyw]
      have f1 := cells_frozen hyw 0
      have HR : Hid ((Builtin.append_ #[59, 59] 59 #[v, .slice (some ⟨wr.heap.size, 0, none⟩) 1 1]).run Try.prog (wr.alloc (.cells #[.bool false, .bool false, .int .i64 1, .int .i64 0, .int .i64 0] 63)) = .ok (.slice a' ll cc') w') := hr
      have HQ' : Hid (IsQ (w'.setCell ⟨y, 0, none⟩ (.slice a' ll cc')) (y + 1) (.slice a' ll cc') (List.replicate (j + 1) freshE)) := by
        rw [List.replicate_succ']
        rcases hq' with h | ⟨h, cap, rest, h1, h2, h3⟩
        · exact Or.inl h
        · exact Or.inr ⟨h, cap, rest, h1, (Below.heap_setCell _ _ _ _ (by simp; omega)).trans h2, h3⟩
      have HH' : Hid ((w'.setCell ⟨y, 0, none⟩ (.slice a' ll cc')).heap[y]? = some (.cells #[.slice a' ll cc'] 61)) := by
        rw [heap_setCell_same hyw]
        rfl
      have HB' : Hid (Below y w (w'.setCell ⟨y, 0, none⟩ (.slice a' ll cc'))) := by
        have hs := HB.out.size
        refine ⟨o1.trans HB.out.os, o2.trans HB.out.tape, o3.trans HB.out.output, by simp [World.setCell]; omega, fun k hk => ?_⟩
        rw [Below.heap_setCell _ _ _ _ (by simp; omega), hblk k (by simp; omega) (by omega), Below.heap_alloc _ _ _ (by omega)]
        exact HB.out.block k hk
      clear hr hq' hz o1 o2 o3 hblk hyw
      go_wp2_with (at_builtin; refine wpList_app_run _ rfl _ _ 59 59 rfl _ _ rfl rfl HR.out ?_)
      go_roundw
      case rel => exact ⟨j + 1, _, by omega, by go_num, HH', HQ', HB'⟩
      case measure => simp [intOf]; omega
    · obtain rfl : j = n := by omega
      go_wp2_with fail
      go_ret2
      refine ⟨by rw [← HY.out]; rfl, ?_, by rw [← HY.out]; exact HB.out⟩
      have hok : ∀ (i : Nat) (e : En), (List.replicate j freshE)[i]? = some e → e.Ok := fun i e he => by
        rw [List.getElem?_replicate] at he
        split at he
        · simp at he; subst he; exact ⟨by decide, by decide, by decide, by decide⟩
        · cases he
      rw [← HY.out]
      rcases HQ.out with ⟨e1, e2⟩ | ⟨h, cap, rest, h1, h2, h3, h4, h5, h6⟩
      · refine ⟨y, ⟨Or.inl ⟨e2, rfl, ?_⟩, by simpa using hn, hok⟩, Nat.le_refl _⟩
        have := HH.out
        rw [e1] at this
        exact this
      · refine ⟨h, ⟨Or.inr ⟨cap, rest, ?_, h2, by omega⟩, by simpa using hn, hok⟩, by omega⟩
        have := HH.out
        rw [h1] at this
        exact this

set_option maxHeartbeats 1000000 in
theorem rlive_at (y b : Nat) (es : List En) (w : World) (h : RT w y b es) :
    Calls Try.prog 17 #[.pointer (some ⟨y, 0, none⟩)] w fun x w' => ∃ v, x = .returned v ∧ IsH w' w.heap.size v (live es es.length) ∧ Below w.heap.size w w' := by
  obtain ⟨a, cap, hc⟩ := h.head
  obtain ⟨N, hN⟩ : ∃ N, N = es.length := ⟨_, rfl⟩
  have hl := h.lt
  have hm := h.max
  rw [← hN] at hc hm ⊢
  have H := hide h
  have HN := hide hN
  have HC := hide hc
  clear h hN
  go_enter Try.func17, Try.ntmps17
  go_wp2_with fail
  have HI0 : Hid (IsH (w.alloc (.cells #[] 32)) w.heap.size (.slice (some ⟨w.heap.size, 0, none⟩) 0 0) []) := own_new w _ (Nat.le_refl _)
  go_loopw [3, 4] (fun u v wr => ∃ j : Nat, j ≤ N ∧ v = .int .i64 j ∧ Hid (IsH wr w.heap.size u (live es j)) ∧ Hid (Below w.heap.size w wr)) (fun _ v _ => N - (intOf v).toNat)
  case atStart => exact ⟨0, Nat.zero_le _, rfl, HI0, (Below.refl _ _).alloc (Nat.le_refl _) _⟩
  case round =>
    obtain ⟨j, hj, rfl, HI, HB⟩ := hrel
    clear HI0
    have hcr : wr.cell? ⟨y, 0, none⟩ = some (.slice a N cap) := (HB.out.cell (p := ⟨y, 0, none⟩) hl.1).trans HC.out
    by_cases hlt : j < N
    · obtain ⟨e, he⟩ := get_lt (show j < es.length by rw [← HN.out]; exact hlt)
      have hcnt : (live es j).length ≤ 4096 := by have := live_le es j; omega
      have ht := H.out.below HB.out hl.1 hl.2
      obtain ⟨cap2, rest, r⟩ := ht.get he
      have hc2 := yhd_cell r.head
      rw [← HN.out, hcr] at hc2
      simp only [Option.some.injEq, Value.slice.injEq, true_and] at hc2
      obtain ⟨e1, e2⟩ := hc2
      subst e1 e2
      obtain ⟨d0, d1, d2, d3, d4⟩ := r.cells he
      have HE := hide he
      have HCC := hide hcnt
      clear he ht hcnt r
      by_cases hs : e.st = 1
      · rw [show decide (e.st = 1) = true by simp [hs]] at d0
        have HS := hide hs
        clear hs
        obtain ⟨v', w', hr, hi', hb', _, _, _⟩ := app_pair (Nat.le_refl _) HB.out HI.out (j, e.gen) (by have := HCC.out; omega)
        have HR := hide hr
        have HI' := hide hi'
        have HB' := hide hb'
        clear hr hi' hb'
        go_wp2_with (at_builtin; refine wpList_app_run _ rfl _ _ 40 40 rfl _ _ rfl rfl HR.out ?_)
        go_roundw
        case rel =>
          refine ⟨j + 1, by omega, by go_num, ?_, HB'.out⟩
          show IsH _ _ _ _
          rw [live_open HE.out HS.out]
          exact HI'.out
        case measure => simp [intOf]; omega
      · rw [show decide (e.st = 1) = false by simp [hs]] at d0
        have HS := hide hs
        clear hs
        go_wp2_with fail
        go_roundw
        case rel =>
          refine ⟨j + 1, by omega, by go_num, ?_, HB.out⟩
          show IsH _ _ _ _
          rw [live_shut HE.out HS.out]
          exact HI.out
        case measure => simp [intOf]; omega
    · obtain rfl : j = N := by omega
      go_wp2_with fail
      go_ret
      exact ⟨_, rfl, HI.out, HB.out⟩

set_option maxHeartbeats 1000000 in
theorem same_at (B1 B2 : Nat) (v1 v2 : Value) (l : List (Nat × Nat)) (w : World) (h1 : IsH w B1 v1 l) (h2 : IsH w B2 v2 l) (hl : l.length ≤ 4096) :
    Calls Try.prog 16 #[v1, v2] w fun x w' => x = .returned (.bool true) ∧ ∃ n, w' = w.drewN n := by
  obtain ⟨a1, c1, e1⟩ := h1.shape
  obtain ⟨a2, c2, e2⟩ := h2.shape
  subst e1 e2
  obtain ⟨m, hm⟩ : ∃ m, m = l.length := ⟨_, rfl⟩
  have H1 := hide h1
  have H2 := hide h2
  have HM := hide hm
  rw [← hm] at hl ⊢
  clear h1 h2 hm
  go_enter Try.func16, Try.ntmps16
  go_wp2_with fail
  go_loopw [5] (fun i wr => ∃ j c : Nat, j ≤ m ∧ i = .int .i64 j ∧ Hid (wr = w.drewN c)) (fun i _ => m - (intOf i).toNat)
  case atStart => exact ⟨0, 0, Nat.zero_le _, rfl, rfl⟩
  case round =>
    obtain ⟨j, c, hj, rfl, HW⟩ := hrel
    have hw := HW.out
    subst hw
    by_cases hlt : j < m
    · obtain ⟨b1, d1, q1, _, _, _, hc1⟩ := H1.out.lies (by rw [← HM.out]; omega)
      obtain ⟨b2, d2, q2, _, _, _, hc2⟩ := H2.out.lies (by rw [← HM.out]; omega)
      simp only [Value.slice.injEq, true_and] at q1 q2
      obtain ⟨e1, e2⟩ := q1
      obtain ⟨e3, e4⟩ := q2
      subst e1 e2 e3 e4
      obtain ⟨p, hp⟩ : ∃ p, l[j]? = some p := ⟨_, List.getElem?_eq_getElem (by rw [← HM.out]; exact hlt)⟩
      obtain ⟨s0, s1⟩ := hc1 j p hp
      obtain ⟨t0, t1⟩ := hc2 j p hp
      clear hc1 hc2 hp
      go_wp2_with fail
      go_quiet (fail)
      go_wp2_with fail
      go_roundw
      case rel => exact ⟨j + 1, _, by omega, by go_num, rfl⟩
      case measure => simp [intOf]; omega
    · obtain rfl : j = m := by omega
      go_wp2_with fail
      go_ret
      exact ⟨rfl, c, rfl⟩

end Go.Proofs.Ythfkjephnhnpoaa
