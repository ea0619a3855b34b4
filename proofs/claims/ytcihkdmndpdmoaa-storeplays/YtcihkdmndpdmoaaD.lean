/-
  find, Index, IndexFunc and the hand of package store; conditions as each theorem has them.
-/
import Derived.Test.YtcihkdmndpdmoaaC
import Derived.Shelf.Abstract
set_option linter.unusedSimpArgs false
set_option linter.unusedVariables false
namespace Go.Proofs.Ytcihkdmndpdmoaa
open Go.RowKit
theorem IsTab.frozenR {w : World} {r g K h : Nat} {L : List Sl} (t : IsTab w r g K L h) (o : Nat) : w.frozen? ⟨r, o, none⟩ = false := by
  have := t.head
  unfold thd at this
  simp [World.frozen?, this]
theorem isOf_iff (s : Sl) (key : ByteArray) : isOf s key = true ↔ s.key.size ≠ 0 ∧ s.key = key := by simp [isOf]
theorem isOf_hit {L : List Sl} {key : ByteArray} {j : Nat} (hj : L[j]? = some (at0 L j)) (h : isOf (at0 L j) key = true) (hb : ∀ (k : Nat) (x : Sl), k < j → L[k]? = some x → isOf x key = false) : (if isIn L key then ((fidx key L : Nat) : Int) else -1) = (j : Nat) := by
  obtain ⟨h1, h2⟩ := (isOf_iff _ _).1 h
  have hf : fidx key L = j := fidx_eq hj h2 (fun k x hk hx e => by
    have := hb k x hk hx
    rw [(isOf_iff _ _).2 ⟨by rw [e, ← h2]; exact h1, e⟩] at this
    cases this)
  have hl := (List.getElem?_eq_some_iff.1 hj).1
  have hin : isIn L key = true := by unfold isIn; rw [hf, decide_eq_true hl, decide_eq_true (by rw [← h2]; exact h1)]; rfl
  rw [hf, if_pos hin]
theorem isOf_miss {L : List Sl} {key : ByteArray} (hb : ∀ (k : Nat) (x : Sl), L[k]? = some x → isOf x key = false) : (if isIn L key then ((fidx key L : Nat) : Int) else -1) = -1 := by
  rw [if_neg]
  intro h
  simp only [isIn, Bool.and_eq_true, decide_eq_true_eq] at h
  have := hb _ _ (get_at0 h.2)
  have e := fidx_at key L _ (get_at0 h.2)
  rw [(isOf_iff _ _).2 ⟨by rw [e]; exact h.1, e⟩] at this
  cases this
set_option maxRecDepth 100000 in
set_option maxHeartbeats 2000000 in
theorem find_at (r g K h : Nat) (L : List Sl) (key : ByteArray) (w : World) (t : IsTab w r g K L h) :
    Calls Try.prog 41 #[.pointer (some ⟨r, 0, none⟩), .string key] w fun e w' => e = .returned (.int .i64 (if isIn L key then (fidx key L : Nat) else -1)) ∧ Below w.heap.size w w' := by
  obtain ⟨c0, c1, c2, c3⟩ := t.cells
  obtain ⟨N, hN⟩ : ∃ N, N = L.length := ⟨_, rfl⟩
  rw [← hN] at c3
  have hm := t.inv.max
  rw [← hN] at hm
  have HT := hide t
  have HN := hide hN
  obtain ⟨R, hR⟩ : ∃ R : Int, R = (if isIn L key then ((fidx key L : Nat) : Int) else -1) := ⟨_, rfl⟩
  rw [← hR]
  have HR := hide hR
  clear t hN hR
  go_enter Try.func41, Try.ntmps41
  go_wp2_with fail
  go_loopw [12] (fun v wr => ∃ j : Nat, j ≤ N ∧ v = .int .i64 j ∧ Hid (Below w.heap.size w wr) ∧ Hid (∀ (k : Nat) (x : Sl), k < j → L[k]? = some x → isOf x key = false)) (fun v _ => N - (intOf v).toNat)
  case atStart => exact ⟨0, Nat.zero_le _, rfl, Below.refl _ _, fun k x hk => by omega⟩
  case round =>
    obtain ⟨j, hj, rfl, HK, HX⟩ := hrel
    by_cases hjn : j < N
    · have hd : decide ((j : Int) < (N : Int)) = true := decide_eq_true (by omega)
      have hs : Hid (L[j]? = some (at0 L j)) := get_at0 (by have := HN.out; omega)
      obtain ⟨d0, d1, d2, d3, d4⟩ := (HT.out.row.below HK.out).cells hs.out
      have HO := fun W => hide (isOf_at (at0 L j) K key W (HT.out.inv.ok _ _ hs.out))
      by_cases hn : isOf (at0 L j) key = true
      · rw [hn] at HO
        have HR2 : Hid (R = (j : Nat)) := HR.out.trans (isOf_hit hs.out hn HX.out)
        clear hn
        generalize at0 L j = s at d0 d1 d2 d3 d4 HO hs
        obtain ⟨k, b, p, q, a⟩ := s
        simp only [slV] at d0 d1 d2 d3 d4 HO
        clear hs
        go_wp2_with fail
        refine (HO _).out.mono ?_
        rintro e w1 ⟨rfl, k1⟩
        have K1 := hide ((HK.out.alloc HK.out.size (.cells #[.string k, .string b, .int .i64 p, .int .i64 q, .bool a] 62)).trans (k1.mono (by have := HK.out.size; simp; omega)))
        clear k1
        go_wp2_with fail
        go_ret
        exact ⟨by rw [HR2.out]; rfl, K1.out⟩
      · have hn : isOf (at0 L j) key = false := by simpa using hn
        rw [hn] at HO
        have HX2 : Hid (∀ (k : Nat) (x : Sl), k < j + 1 → L[k]? = some x → isOf x key = false) := fun k x hk hx => by
          rcases Nat.lt_or_ge k j with h1 | h1
          · exact HX.out k x h1 hx
          · obtain rfl : k = j := by omega
            rw [hs.out] at hx
            simp at hx
            subst hx
            exact hn
        clear hn
        generalize at0 L j = s at d0 d1 d2 d3 d4 HO hs
        obtain ⟨k, b, p, q, a⟩ := s
        simp only [slV] at d0 d1 d2 d3 d4 HO
        clear hs
        go_wp2_with fail
        refine (HO _).out.mono ?_
        rintro e w1 ⟨rfl, k1⟩
        have K1 := hide ((HK.out.alloc HK.out.size (.cells #[.string k, .string b, .int .i64 p, .int .i64 q, .bool a] 62)).trans (k1.mono (by have := HK.out.size; simp; omega)))
        clear k1
        go_wp2_with fail
        go_roundw
        case rel => exact ⟨j + 1, by omega, by go_num, K1, HX2⟩
        case measure => simp [intOf]; omega
    · have hd : decide ((j : Int) < (N : Int)) = false := decide_eq_false (by omega)
      have HR2 : Hid (R = -1) := HR.out.trans (isOf_miss (fun k x hx => HX.out k x (by have := (List.getElem?_eq_some_iff.1 hx).1; have := HN.out; omega) hx))
      go_wp2_with fail
      go_ret
      exact ⟨by rw [HR2.out]; rfl, HK.out⟩
set_option maxRecDepth 100000 in
set_option maxHeartbeats 2000000 in
theorem goOn_at (r g K h : Nat) (L : List Sl) (w : World) (t : IsTab w r g K L h) (hl : 0 < L.length) :
    Calls Try.prog 49 #[.pointer (some ⟨r, 0, none⟩)] w fun e w' => e = .returned (.tuple #[]) ∧ IsTab w' r g K L ((h + 1) % L.length) ∧ Kept r r w w' := by
  obtain ⟨c0, c1, c2, c3⟩ := t.cells
  obtain ⟨N, hN⟩ : ∃ N, N = L.length := ⟨_, rfl⟩
  rw [← hN] at c3 hl
  have hm := t.inv.max
  have hh := t.inv.pos (by omega)
  rw [← hN] at hm hh
  have HT := hide t
  have HN := hide hN
  obtain ⟨q, hq⟩ : ∃ q, q = (h + 1) % N := ⟨_, rfl⟩
  obtain ⟨A, hA⟩ : ∃ A : Nat, A = h + 1 := ⟨_, rfl⟩
  have a1 : (h : Int) + 1 = A := by omega
  have a2 : IntKind.i64.wrap (A : Int) = A := wrap_int _ (by omega) (by omega)
  have a3 : Int.tmod (A : Int) (N : Int) = q := by rw [Int.tmod_eq_emod_of_nonneg (by omega), hq, hA]; omega
  have hq2 : q < N := by rw [hq]; exact Nat.mod_lt _ hl
  have a4 : IntKind.i64.wrap (q : Int) = q := wrap_int _ (by omega) (by omega)
  have a5 : ((N : Int) == 0) = false := by simp; omega
  have HQ := hide hq
  have hfz := t.frozenR 2
  clear t hN c0 c1 hA hq
  go_enter Try.func49, Try.ntmps49
  go_wp2_with fail
  go_region
  all_goals
    go_wp2_with fail
    first | go_end0 | go_ret | refine bodyPost_ret (results_none rfl _ _ _) rfl ?_
    have hi := HT.out.inv
    refine ⟨rfl, ⟨by rw [← HN.out, ← HQ.out]; have := HT.out.head; rw [← HN.out] at this; exact thd_hand (w := World.drew w) this q, (Below.heap_setCell _ _ _ _ (Ne.symm HT.out.ne)).trans HT.out.row, HT.out.ne, ⟨hi.ok, hi.uniq, Or.inl (by rw [← HN.out, ← HQ.out]; exact hq2), hi.max, hi.keep⟩⟩, ((Kept.refl r r w).drewN 1).set _ _⟩
set_option maxRecDepth 100000 in
set_option maxHeartbeats 2000000 in
theorem index_at (g K N : Nat) (L : List Sl) (w : World) (hr : Row w g L) (ho : okL K L) (hN : N = L.length) (hm : N ≤ 4096) :
    Calls Try.prog 43 #[.slice (some ⟨g, 0, none⟩) N N, zV] w fun e w' => e = .returned (.int .i64 (if fidx noN L < L.length then (fidx noN L : Nat) else -1)) ∧ Below w.heap.size w w' := by
  have HT := hide hr
  have HO := hide ho
  have HN := hide hN
  obtain ⟨R, hR⟩ : ∃ R : Int, R = (if fidx noN L < L.length then ((fidx noN L : Nat) : Int) else -1) := ⟨_, rfl⟩
  rw [← hR]
  have HR := hide hR
  clear hr ho hN hR
  go_enter Try.func43, Try.ntmps43
  go_wp2_with fail
  go_loopw [8] (fun v wr => ∃ j : Nat, j ≤ N ∧ v = .int .i64 j ∧ Hid (Below w.heap.size w wr) ∧ Hid (wr.heap[w.heap.size]? = some (.cells #[.string ⟨#[]⟩, .string ⟨#[]⟩, .int .i64 0, .int .i64 0, .bool false] 62)) ∧ Hid (∀ (k : Nat) (x : Sl), k < j → L[k]? = some x → x.key ≠ noN)) (fun v _ => N - (intOf v).toNat)
  case atStart => exact ⟨0, Nat.zero_le _, rfl, box_below _ _, alloc_new _ _, fun k x hk => by omega⟩
  case round =>
    obtain ⟨j, hj, rfl, HK, HZ, HX⟩ := hrel
    by_cases hjn : j < N
    · have hd : decide ((j : Int) < (N : Int)) = true := decide_eq_true (by omega)
      have hs : Hid (L[j]? = some (at0 L j)) := get_at0 (by have := HN.out; omega)
      obtain ⟨d0, d1, d2, d3, d4⟩ := (HT.out.below HK.out).cells hs.out
      have hz := HZ.out
      have z0 : wr.cell? ⟨w.heap.size, 0, none⟩ = some (.string ⟨#[]⟩) := by simp [World.cell?, hz]
      have z1 : wr.cell? ⟨w.heap.size, 1, none⟩ = some (.string ⟨#[]⟩) := by simp [World.cell?, hz]
      have z2 : wr.cell? ⟨w.heap.size, 2, none⟩ = some (.int .i64 0) := by simp [World.cell?, hz]
      have z3 : wr.cell? ⟨w.heap.size, 3, none⟩ = some (.int .i64 0) := by simp [World.cell?, hz]
      have z4 : wr.cell? ⟨w.heap.size, 4, none⟩ = some (.bool false) := by simp [World.cell?, hz]
      have hok := HO.out _ _ hs.out
      clear hz
      by_cases hn : (at0 L j).key.size = 0
      · have HR2 : Hid (R = (j : Nat)) := by
          have hf : fidx noN L = j := fidx_eq hs.out (noN_of hn) HX.out
          have := HN.out
          exact HR.out.trans (by rw [hf, if_pos (by omega)])
        rw [hok.none hn] at d0 d1 d2 d3 d4
        simp only [zeroS, noN] at d0 d1 d2 d3 d4
        have hq := eql_zero
        clear hn hs hok
        go_wp2_with fail
        go_region
        all_goals
          go_wp2_with fail
          go_ret
          exact ⟨by rw [HR2.out]; rfl, HK.out.drew⟩
      · have HX2 : Hid (∀ (k : Nat) (x : Sl), k < j + 1 → L[k]? = some x → x.key ≠ noN) := fun k x hk hx => by
          rcases Nat.lt_or_ge k j with h1 | h1
          · exact HX.out k x h1 hx
          · obtain rfl : k = j := by omega
            rw [hs.out] at hx
            simp at hx
            subst hx
            exact ne_noN hn
        generalize at0 L j = s at d0 d1 d2 d3 d4 hs hn hok
        obtain ⟨k, b, p, q, a⟩ := s
        simp only at d0 d1 d2 d3 d4 hn
        have hq := eql_key hn b p q a
        clear hs hn hok
        go_wp2_with fail
        go_region
        all_goals
          go_wp2_with fail
          go_roundw
          case rel => exact ⟨j + 1, by omega, by go_num, HK.out.drew, HZ, HX2⟩
          case measure => simp [intOf]; omega
    · have hd : decide ((j : Int) < (N : Int)) = false := decide_eq_false (by omega)
      have HR2 : Hid (R = -1) := HR.out.trans (by rw [if_neg]; rw [fidx_none (fun k x hx => HX.out k x (by have := (List.getElem?_eq_some_iff.1 hx).1; have := HN.out; omega) hx)]; omega)
      go_wp2_with fail
      go_ret
      exact ⟨by rw [HR2.out]; rfl, HK.out⟩
theorem got_hit {L : List Sl} (hU : Uniq L) {now : Int} {key : ByteArray} {j : Nat} {s : Sl} (hb : ¬ (badNow now ∨ badKey key)) (hs : L[j]? = some s) (ho : isOf s key = true) (hf : fresh s now = true) : got L now key = some s ∧ fidx key L = j := by
  obtain ⟨h1, h2⟩ := (isOf_iff _ _).1 ho
  have e : fidx key L = j := by rw [← h2]; exact hU.fidx hs h1
  exact ⟨got_of hb (by rw [e]; exact hs) hf, e⟩
theorem got_miss {L : List Sl} {now : Int} {key : ByteArray} (hb : ¬ (badNow now ∨ badKey key)) (h : ∀ (k : Nat) (x : Sl), L[k]? = some x → (isOf x key && fresh x now) = false) : got L now key = none :=
  got_not (fun s hs => by
    have := h _ s hs
    have hk : key.size ≠ 0 := fun e => hb (Or.inr (Or.inl e))
    have e := fidx_at key L s hs
    rw [(isOf_iff _ _).2 ⟨by rw [e]; exact hk, e⟩] at this
    simpa using this)
def gotI (L : List Sl) (now : Int) (key : ByteArray) : Int := match got L now key with | some _ => ((fidx key L : Nat) : Int) | none => -1
set_option maxRecDepth 100000 in
set_option maxHeartbeats 2000000 in
theorem indexFunc_at (g K N : Nat) (L : List Sl) (now : Int) (key : ByteArray) (w : World) (hr : Row w g L) (ho : okL K L) (hU : Uniq L) (hN : N = L.length) (hm : N ≤ 4096) (hn : ¬ (badNow now ∨ badKey key)) :
    Calls Try.prog 39 #[.slice (some ⟨g, 0, none⟩) N N, .func (.func 40) #[.agg #[.int .i64 now, .string key]] #[]] w fun e w' => e = .returned (.int .i64 (gotI L now key)) ∧ Below w.heap.size w w' := by
  have HT := hide hr
  have HO := hide ho
  have HN := hide hN
  have HB := hide hn
  have HU := hide hU
  obtain ⟨R, hR⟩ : ∃ R : Int, R = gotI L now key := ⟨_, rfl⟩
  rw [← hR]
  have HR := hide hR
  clear hr ho hN hn hU hR
  go_enter Try.func39, Try.ntmps39
  go_wp2_with fail
  go_loopw [8] (fun v wr => ∃ j : Nat, j ≤ N ∧ v = .int .i64 j ∧ Hid (Below w.heap.size w wr) ∧ Hid (∀ (k : Nat) (x : Sl), k < j → L[k]? = some x → (isOf x key && fresh x now) = false)) (fun v _ => N - (intOf v).toNat)
  case atStart => exact ⟨0, Nat.zero_le _, rfl, Below.refl _ _, fun k x hk => by omega⟩
  case round =>
    obtain ⟨j, hj, rfl, HK, HX⟩ := hrel
    by_cases hjn : j < N
    · have hd : decide ((j : Int) < (N : Int)) = true := decide_eq_true (by omega)
      have hs : Hid (L[j]? = some (at0 L j)) := get_at0 (by have := HN.out; omega)
      obtain ⟨d0, d1, d2, d3, d4⟩ := (HT.out.below HK.out).cells hs.out
      have HA := fun W => hide (isAnsweredBy_at (at0 L j) K now key W (HO.out _ _ hs.out) (fun e => HB.out (Or.inl e)))
      by_cases hn : (isOf (at0 L j) key && fresh (at0 L j) now) = true
      · rw [hn] at HA
        have HR2 : Hid (R = (j : Nat)) := by
          simp only [Bool.and_eq_true] at hn
          obtain ⟨q1, q2⟩ := got_hit HU.out HB.out hs.out hn.1 hn.2
          exact HR.out.trans (by unfold gotI; rw [q1, q2])
        clear hn
        generalize at0 L j = s at d0 d1 d2 d3 d4 HA hs
        obtain ⟨k, b, p, q, a⟩ := s
        simp only [slV] at d0 d1 d2 d3 d4 HA
        clear hs
        go_wp2_with fail
        refine (HA _).out.mono ?_
        rintro e w1 ⟨rfl, k1⟩
        have K1 := hide (HK.out.trans (k1.mono HK.out.size))
        clear k1
        go_wp2_with fail
        go_ret
        exact ⟨by rw [HR2.out]; rfl, K1.out⟩
      · have hn : (isOf (at0 L j) key && fresh (at0 L j) now) = false := by simpa using hn
        rw [hn] at HA
        have HX2 : Hid (∀ (k : Nat) (x : Sl), k < j + 1 → L[k]? = some x → (isOf x key && fresh x now) = false) := fun k x hk hx => by
          rcases Nat.lt_or_ge k j with h1 | h1
          · exact HX.out k x h1 hx
          · obtain rfl : k = j := by omega
            rw [hs.out] at hx
            simp at hx
            subst hx
            exact hn
        clear hn
        generalize at0 L j = s at d0 d1 d2 d3 d4 HA hs
        obtain ⟨k, b, p, q, a⟩ := s
        simp only [slV] at d0 d1 d2 d3 d4 HA
        clear hs
        go_wp2_with fail
        refine (HA _).out.mono ?_
        rintro e w1 ⟨rfl, k1⟩
        have K1 := hide (HK.out.trans (k1.mono HK.out.size))
        clear k1
        go_wp2_with fail
        go_roundw
        case rel => exact ⟨j + 1, by omega, by go_num, K1, HX2⟩
        case measure => simp [intOf]; omega
    · have hd : decide ((j : Int) < (N : Int)) = false := decide_eq_false (by omega)
      have HR2 : Hid (R = -1) := HR.out.trans (by
        have := got_miss HB.out (fun k x hx => HX.out k x (by have := (List.getElem?_eq_some_iff.1 hx).1; have := HN.out; omega) hx)
        unfold gotI; rw [this])
      go_wp2_with fail
      go_ret
      exact ⟨by rw [HR2.out]; rfl, HK.out⟩
end Go.Proofs.Ytcihkdmndpdmoaa
