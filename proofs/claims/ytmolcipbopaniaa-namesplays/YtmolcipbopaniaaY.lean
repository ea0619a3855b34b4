/-
  New, when and place of the reference; conditions as each theorem has them.
-/
import Derived.Test.YtmolcipbopaniaaX
set_option linter.unusedSimpArgs false
set_option linter.unusedVariables false
namespace Go.Proofs.Ytmolcipbopaniaa
open Go.RowKit
def zE : Array Value := #[.string noN, .slice none 0 0, .int .i64 0]
theorem info71a : (Try.prog.info? 71).map (fun i => (i.zero, i.size, i.bytes)) = some (some (.agg zE), 3, 48) := by kernel_rfl
theorem made_E (n : Nat) : madeCells zE (n * 3) = (rflat (List.replicate n zeroS) (fun _ => .slice none 0 0) n).toArray := by
  apply Array.ext
  · rw [size_madeCells]; rw [List.size_toArray, rflat_length]; omega
  · intro i h1 h2
    rw [size_madeCells] at h1
    have hz : at0 (List.replicate n zeroS) (i / 3) = zeroS := by simp [at0, show i / 3 < n by omega]
    obtain ⟨f0, f1, f2⟩ := rflat_at (List.replicate n zeroS) (fun _ => .slice none 0 0) n (i / 3) (by omega)
    rw [hz] at f0 f2
    have e1 : (madeCells zE (n * 3))[i] = zE[i % 3]! := by simp [madeCells, zE]
    rw [e1]
    have e2 : (rflat (List.replicate n zeroS) (fun _ => .slice none 0 0) n).toArray[i]? = some zE[i % 3]! := by
      have h4 : i % 3 = 0 ∨ i % 3 = 1 ∨ i % 3 = 2 := by omega
      rcases h4 with h4 | h4 | h4
      · rw [h4]; simp only [List.getElem?_toArray]; rw [show i = i / 3 * 3 by omega, f0]; rfl
      · rw [h4]; simp only [List.getElem?_toArray]; rw [show i = i / 3 * 3 + 1 by omega, f1]; rfl
      · rw [h4]; simp only [List.getElem?_toArray]; rw [show i = i / 3 * 3 + 2 by omega, f2]; rfl
    rw [Array.getElem?_eq_getElem h2] at e2
    exact (Option.some.inj e2).symm
/-- 'make([]Entry, n)'. -/
theorem run_makeE (n : Nat) (hn : n ≤ 4096) (w : World) : (Instr.makeSlice 55 (.int .i64 n) (.int .i64 n)).run Try.prog w = .ok (.slice (some ⟨w.heap.size, 0, none⟩) n n) (w.alloc (.cells (rflat (List.replicate n zeroS) (fun _ => .slice none 0 0) n).toArray 71)) := by
  obtain ⟨i, hi, hzz⟩ := Option.map_eq_some_iff.1 info71a
  simp only [Prod.mk.injEq] at hzz
  obtain ⟨hz, hs, hb⟩ := hzz
  have := run_make (P := Try.prog) w 55 71 i (.agg zE) Try.underlying55 hi hz .i64 .i64 n n (by omega) (Int.le_refl _) (by rw [hb]; omega) (by omega)
  rw [this, hs, Int.toNat_natCast, show (Value.agg zE).cells = zE from rfl, made_E]
set_option maxHeartbeats 400000 in
theorem rnew_bad (b : Int) (w : World) (h : b < 0 ∨ 4096 < b) :
    Calls Try.prog 9 #[.int .i64 b] w fun e w' => e = .returned (.tuple #[.pointer none, .int .i64 2]) ∧ w = w' := by
  by_cases h1 : b < 0
  · go_enter Try.func9, Try.ntmps9
    go_wp2
    go_ret2
    exact ⟨rfl, rfl⟩
  · have h4 : 4096 < b := by omega
    go_enter Try.func9, Try.ntmps9
    go_wp2
    go_ret2
    exact ⟨rfl, rfl⟩
set_option maxHeartbeats 1000000 in
theorem rnew_good (n x : Nat) (w : World) (hn : n ≤ 4096) :
    Calls Try.prog 9 #[.int .i64 n] w fun e w' => e = .returned (.tuple #[.pointer (some ⟨w.heap.size + 1, 0, none⟩), .int .i64 0]) ∧ RT x w' (w.heap.size + 1) w.heap.size (List.replicate n zeroS) ∧ Below w.heap.size w w' := by
  have hmk := run_makeE n hn
  obtain ⟨C, hC⟩ : ∃ C, C = (rflat (List.replicate n zeroS) (fun _ => .slice none 0 0) n).toArray := ⟨_, rfl⟩
  rw [← hC] at hmk
  have HC := hide hC
  clear hC
  go_enter Try.func9, Try.ntmps9
  go_wp2_with fail
  go_ret2
  refine ⟨rfl, ⟨?_, by simp; omega, new_ok n, fun _ => .slice none 0 0, ?_, fun i hi => ?_⟩, ((Below.refl w.heap.size w).alloc (Nat.le_refl _) _).alloc (by simp) _⟩
  · rw [List.length_replicate]
    exact alloc_new2 _ _ _
  · rw [List.length_replicate, ← HC.out]
    exact alloc_old _ (alloc_new _ _)
  · have hz : at0 (List.replicate n zeroS) i = zeroS := by rw [List.length_replicate] at hi; simp [at0, hi]
    rw [hz]
    exact ⟨OwnA.nil _ _, by intro e; cases e⟩
theorem when_at (now : Int) (w : World) : Calls Try.prog 31 #[.int .i64 now] w fun e w' => e = .returned (.bool (decide (¬ badNow now))) ∧ w = w' := by
  by_cases h1 : now < 0
  · have e : decide (¬ badNow now) = false := by simp [badNow]; omega
    rw [e]
    have d : decide (now ≥ 0) = false := by simp; omega
    have d' : decide (0 ≤ now) = false := by simp; omega
    go_enter Try.func31, Try.ntmps31
    go_wp2
    go_ret
    exact ⟨rfl, rfl⟩
  · have d : decide (now ≥ 0) = true := by simp; omega
    have d' : decide (0 ≤ now) = true := by simp; omega
    by_cases h2 : 1099511627776 < now
    · have e : decide (¬ badNow now) = false := by simp [badNow]; omega
      rw [e]
      have d2 : decide (now ≤ 1099511627776) = false := by simp; omega
      go_enter Try.func31, Try.ntmps31
      go_wp2
      go_ret
      exact ⟨rfl, rfl⟩
    · have e : decide (¬ badNow now) = true := by simp [badNow]; omega
      rw [e]
      have d2 : decide (now ≤ 1099511627776) = true := by simp; omega
      go_enter Try.func31, Try.ntmps31
      go_wp2
      go_ret
      exact ⟨rfl, rfl⟩
/-- What the reference's loops read. -/
structure Reads (w : World) (r g N : Nat) (L : List Sl) : Prop where
  len : L.length = N
  max : N ≤ 4096
  ok : okL L
  head : ∀ w', Below w.heap.size w w' → w'.cell? ⟨r, 0, none⟩ = some (.slice (some ⟨g, 0, none⟩) N N)
  at_ : ∀ w', Below w.heap.size w w' → ∀ i, i < N → w'.cell? ⟨g, i * 3, none⟩ = some (.string (at0 L i).name) ∧ w'.cell? ⟨g, i * 3 + 2, none⟩ = some (.int .i64 (at0 L i).till)
theorem RT.reads {x : Nat} {w : World} {r g : Nat} {L : List Sl} (h : RT x w r g L) : Reads w r g L.length L :=
  ⟨rfl, h.max, h.ok, fun w' k => (h.below k).cellR, fun w' k i hi => by obtain ⟨v, h1, h2, h3, _⟩ := (h.below k).cells hi; exact ⟨h1, h3⟩⟩
set_option maxRecDepth 100000 in
set_option maxHeartbeats 4000000 in
theorem place_at (r g N : Nat) (L : List Sl) (now : Int) (name : ByteArray) (w : World) (h : Reads w r g N L) (hp : 0 < N) (hn : 0 ≤ now) :
    Calls Try.prog 32 #[.pointer (some ⟨r, 0, none⟩), .int .i64 now, .string name] w fun e w' => e = .returned (.int .i64 (place L now name : Nat)) ∧ Below w.heap.size w w' := by
  have hm := h.max
  have H := hide h
  clear h
  have HP : ∃ P, P = place L now name := ⟨_, rfl⟩
  obtain ⟨P, hP⟩ := HP
  rw [← hP]
  have HP := hide hP
  clear hP
  go_enter Try.func32, Try.ntmps32
  go_wp2_with fail
  go_loopw [7] (fun v wr => ∃ j : Nat, j ≤ N ∧ v = .int .i64 j ∧ Hid (Below w.heap.size w wr) ∧ Hid (∀ (k : Nat) (x : Sl), k < j → L[k]? = some x → x.name ≠ name)) (fun v _ => N - (intOf v).toNat)
  case atStart => exact ⟨0, Nat.zero_le _, rfl, Below.refl _ _, fun k x hk => by omega⟩
  case round =>
    obtain ⟨j, hj, rfl, HB, HX⟩ := hrel
    have hc0 := H.out.head wr HB.out
    by_cases hjn : j < N
    · have hd : decide ((j : Int) < (N : Int)) = true := decide_eq_true (by omega)
      have HJ : Hid (L[j]? = some (at0 L j)) := get_at0 (by rw [H.out.len]; exact hjn)
      obtain ⟨c0, c2⟩ := H.out.at_ wr HB.out j hjn
      by_cases hnm : (at0 L j).name = name
      · have z1 : ((at0 L j).name.toList == name.toList) = true := by rw [eq_ba]; simp [hnm]
        have HPJ : Hid (P = j) := HP.out.trans (place_one hn HJ.out hnm HX.out)
        clear hnm c2
        generalize (at0 L j).name = nj at c0 z1
        go_wp2_with fail
        go_ret
        exact ⟨by rw [HPJ.out]; rfl, HB.out⟩
      · have z1 : ((at0 L j).name.toList == name.toList) = false := by rw [eq_ba]; simp [hnm]
        have HX2 : Hid (∀ (k : Nat) (x : Sl), k < j + 1 → L[k]? = some x → x.name ≠ name) := fun k x hk hx => by
          rcases Nat.lt_or_ge k j with h1 | h1
          · exact HX.out k x h1 hx
          · obtain rfl : k = j := by omega
            rw [HJ.out] at hx
            simp at hx
            subst hx
            exact hnm
        clear hnm c2
        generalize (at0 L j).name = nj at c0 z1
        go_wp2_with fail
        go_roundw
        case rel => exact ⟨j + 1, by omega, by go_num, HB, HX2⟩
        case measure => simp [intOf]; omega
    · have hd : decide ((j : Int) < (N : Int)) = false := decide_eq_false (by omega)
      have HNO : Hid (∀ (k : Nat) (x : Sl), L[k]? = some x → x.name ≠ name) := fun k x hx => HX.out k x (by have := (List.getElem?_eq_some_iff.1 hx).1; have := H.out.len; omega) hx
      go_wp2_with fail
      clear hd hjn hc0 HX
      go_loopw [8] (fun v w2 => ∃ j : Nat, j ≤ N ∧ v = .int .i64 j ∧ Hid (Below w.heap.size w w2) ∧ Hid (∀ (k : Nat) (x : Sl), k < j → L[k]? = some x → now < x.till)) (fun v _ => N - (intOf v).toNat)
      case atStart => exact ⟨0, Nat.zero_le _, rfl, HB, fun k x hk => by omega⟩
      case round =>
        clear HB
        obtain ⟨j, hj, rfl, HB, HX⟩ := hrel
        have hc0 := H.out.head _ HB.out
        by_cases hjn : j < N
        · have hd : decide ((j : Int) < (N : Int)) = true := decide_eq_true (by omega)
          have HJ : Hid (L[j]? = some (at0 L j)) := get_at0 (by rw [H.out.len]; exact hjn)
          obtain ⟨c0, c2⟩ := H.out.at_ _ HB.out j hjn
          have hok := H.out.ok _ _ HJ.out
          by_cases hz : (at0 L j).name.size = 0
          · have z1 : ((at0 L j).name.toList == []) = true := by rw [ba_nil]; simp [hz]
            have z2 : (at0 L j).name.toList.isEmpty = true := by rw [ba_emp]; simp [hz]
            have HPJ : Hid (P = j) := HP.out.trans (place_two hn HJ.out (by rw [hok.none hz]; exact hn) HNO.out HX.out)
            clear hz hok
            generalize (at0 L j).name = nj at c0 z1 z2
            generalize (at0 L j).till = tj at c2
            go_wp2_with fail
            go_ret
            exact ⟨by rw [HPJ.out]; rfl, HB.out⟩
          · have z1 : ((at0 L j).name.toList == []) = false := by rw [ba_nil]; simp [hz]
            have z2 : (at0 L j).name.toList.isEmpty = false := by rw [ba_emp]; simp [hz]
            by_cases ht : (at0 L j).till ≤ now
            · have z3 : decide ((at0 L j).till ≤ now) = true := decide_eq_true ht
              have HPJ : Hid (P = j) := HP.out.trans (place_two hn HJ.out ht HNO.out HX.out)
              clear hz hok
              generalize (at0 L j).name = nj at c0 z1 z2
              generalize (at0 L j).till = tj at c2 z3 ht
              go_wp2_with fail
              go_ret
              exact ⟨by rw [HPJ.out]; rfl, HB.out⟩
            · have z3 : decide ((at0 L j).till ≤ now) = false := decide_eq_false ht
              have HX2 : Hid (∀ (k : Nat) (x : Sl), k < j + 1 → L[k]? = some x → now < x.till) := fun k x hk hx => by
                rcases Nat.lt_or_ge k j with h1 | h1
                · exact HX.out k x h1 hx
                · obtain rfl : k = j := by omega
                  rw [HJ.out] at hx
                  simp at hx
                  subst hx
                  omega
              clear hz hok
              generalize (at0 L j).name = nj at c0 z1 z2
              generalize (at0 L j).till = tj at c2 z3 ht
              go_wp2_with fail
              go_roundw
              case rel => exact ⟨j + 1, by omega, by go_num, HB, HX2⟩
              case measure => simp [intOf]; omega
        · have hd : decide ((j : Int) < (N : Int)) = false := decide_eq_false (by omega)
          have HPB : Hid (P = best (tl L) (N - 1)) := HP.out.trans (by
            have := place_three (L := L) (by rw [H.out.len]; exact hp) HNO.out (fun k x hx => HX.out k x (by have := (List.getElem?_eq_some_iff.1 hx).1; have := H.out.len; omega) hx)
            rw [H.out.len] at this
            exact this)
          go_wp2_with fail
          clear hd hjn hc0 HX
          go_loopw [9, 10] (fun u v w3 => ∃ j p : Nat, j ≤ N ∧ p < N ∧ v = .int .i64 j ∧ u = .int .i64 p ∧ Hid (Below w.heap.size w w3) ∧ Hid (p = best (tl L) (j - 1))) (fun _ v _ => N - (intOf v).toNat)
          case atStart => exact ⟨0, 0, Nat.zero_le _, hp, rfl, rfl, HB, rfl⟩
          case round =>
            clear HB
            obtain ⟨j, p, hj, hpn, rfl, rfl, HB, HX⟩ := hrel
            have hc0 := H.out.head _ HB.out
            by_cases hjn : j < N
            · have hd : decide ((j : Int) < (N : Int)) = true := decide_eq_true (by omega)
              obtain ⟨c0, c2⟩ := H.out.at_ _ HB.out j hjn
              obtain ⟨d0, d2⟩ := H.out.at_ _ HB.out p hpn
              by_cases hlt : (at0 L j).till < (at0 L p).till
              · have z1 : decide ((at0 L j).till < (at0 L p).till) = true := decide_eq_true hlt
                have HX2 : Hid (j = best (tl L) (j + 1 - 1)) := by
                  show _ = _
                  rcases Nat.eq_zero_or_pos j with rfl | h0
                  · rw [HX.out] at hlt; exact absurd hlt (Int.lt_irrefl _)
                  · rw [show j + 1 - 1 = (j - 1) + 1 by omega]
                    unfold best
                    rw [show j - 1 + 1 = j by omega, ← HX.out, if_pos (show tl L j < tl L p from hlt)]
                clear hlt c0 d0
                generalize (at0 L j).till = tj at c2 z1
                generalize (at0 L p).till = tp at d2 z1
                go_wp2_with fail
                go_region
                all_goals go_wp2_with fail
                go_roundw
                case rel => exact ⟨j + 1, j, by omega, by omega, by go_num, rfl, HB.out.drew, HX2⟩
                case measure => simp [intOf]; omega
              · have z1 : decide ((at0 L j).till < (at0 L p).till) = false := decide_eq_false hlt
                have HX2 : Hid (p = best (tl L) (j + 1 - 1)) := by
                  show _ = _
                  rcases Nat.eq_zero_or_pos j with rfl | h0
                  · exact HX.out
                  · rw [show j + 1 - 1 = (j - 1) + 1 by omega]
                    unfold best
                    rw [show j - 1 + 1 = j by omega, ← HX.out, if_neg (show ¬ tl L j < tl L p from hlt)]
                clear hlt c0 d0
                generalize (at0 L j).till = tj at c2 z1
                generalize (at0 L p).till = tp at d2 z1
                go_wp2_with fail
                go_region
                all_goals go_wp2_with fail
                go_roundw
                case rel => exact ⟨j + 1, p, by omega, by omega, by go_num, rfl, HB.out.drew, HX2⟩
                case measure => simp [intOf]; omega
            · have hd : decide ((j : Int) < (N : Int)) = false := decide_eq_false (by omega)
              obtain rfl : j = N := by omega
              go_wp2_with fail
              go_ret
              exact ⟨by rw [HPB.out, ← HX.out]; rfl, HB.out⟩
end Go.Proofs.Ytmolcipbopaniaa
