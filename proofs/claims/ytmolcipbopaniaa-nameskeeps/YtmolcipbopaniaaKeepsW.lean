/-
  As long as there is room each name is found until its time is over: what the statement does; conditions as each theorem has them.
-/
import Derived.Test.YtmolcipbopaniaaT
set_option linter.unusedSimpArgs false
set_option linter.unusedVariables false
namespace Go.Proofs.Ytmolcipbopaniaa
open Go.RowKit
abbrev okN (n : ByteArray) : Prop := n.size ≠ 0 ∧ n.size ≤ 253
theorem keeps_code {L : List Sl} (hL : 0 < L.length) {now ttl : Int} (h1 : 0 ≤ now) (h2 : now ≤ 1000) (h3 : 1 ≤ ttl) (h4 : ttl ≤ 1000) (n : ByteArray) : code L now n 1 ttl = if okN n then 0 else 2 := by
  have hb : ¬ badNow now := by unfold badNow; omega
  unfold code
  by_cases h : okN n
  · have hp : ¬ badPut n 1 ttl := by unfold badPut; unfold okN at h; omega
    rw [if_pos h, if_neg (fun e => e.elim hb hp), if_neg (by omega)]
  · have hp : badPut n 1 ttl := by unfold badPut; unfold okN at h; omega
    rw [if_neg h, if_pos (Or.inr hp)]
theorem size44 (w : World) : (sizeOf (Try.prog.elem 44)).run Try.prog w = .ok 1 w := by kernel_rfl
theorem und44 : Try.prog.underlying 44 = some (.slice (Try.prog.elem 44)) := by kernel_rfl
/-- 'list[:M]'. -/
theorem run_cut44 (a : Option Addr) (N C M : Nat) (hM : M ≤ C) (h0 : 0 < M) (w : World) : (Instr.sliceAt 44 (.slice a N C) none (some (.int .i64 M)) none).run Try.prog w = .ok (.slice a M C) w := by
  rw [run_sliceAt_slice w 44 _ _ _ _ und44, run_slice_h w 44 _ N C und44 .i64 M (by omega) (by omega), size44]
  simp only [Result.andThen_ok, sliced, Int.toNat_natCast]
  split
  · simp
  · cases a with
    | none => simp
    | some x => obtain ⟨b, o, sp⟩ := x; simp [Addr.add]
theorem keeps_got {L : List Sl} {till : Int} {i : Nat} {p : ByteArray → Prop} (h : Room L till i p) (hk : okL L) {later : Int} (h0 : 0 ≤ later) (h1 : later ≤ 1099511627776) (n : ByteArray) (hp : okN n → p n) :
    getC L later n = (if later < till ∧ okN n then 0 else 5) ∧ (later < till ∧ okN n → getT L later n = till - later) := by
  have hb : ¬ badNow later := by unfold badNow; omega
  by_cases hn : okN n
  · obtain ⟨k, s, hs, e⟩ := h.have_ n (hp hn)
    have hf := fidx_least n L k s hs e
    have hl := (List.getElem?_eq_some_iff.1 hs).1
    have hfl : fidx n L < L.length := by omega
    have e2 := fidx_at n L _ (get_at0 hfl)
    have e3 : (at0 L (fidx n L)).till = till := by
      rcases h.all _ _ (get_at0 hfl) with h2 | h2
      · rw [h2] at e2; exact absurd (by rw [← e2]; rfl) hn.1
      · exact h2
    have hg : got L later n = if later < till then some (at0 L (fidx n L)) else none := by
      unfold got
      rw [if_neg hb, get_at0 hfl]
      simp only [e3]
    by_cases ht : later < till
    · rw [if_pos ht] at hg
      rw [if_pos ⟨ht, hn⟩]
      exact ⟨by simp [getC, hb, hg], fun _ => by simp [getT, hg, e3]⟩
    · rw [if_neg ht] at hg
      rw [if_neg (fun e => ht e.1)]
      exact ⟨by simp [getC, hb, hg], fun e => absurd e.1 ht⟩
  · have hg : got L later n = none := by
      unfold got
      rw [if_neg hb]
      split
      · rename_i s hs
        have e2 := fidx_at n L _ hs
        have hok := hk _ _ hs
        have h3 := hok.long
        rw [e2] at h3
        have h4 : n.size = 0 := by unfold okN at hn; omega
        have h5 := hok.none (by rw [e2]; exact h4)
        rw [if_neg (by rw [h5]; show ¬ later < 0; omega)]
      · rfl
    rw [if_neg (fun e => hn e.2)]
    exact ⟨by simp [getC, hb, hg], fun e => absurd e.2 hn⟩
set_option maxRecDepth 100000 in
set_option maxHeartbeats 8000000 in
theorem keeps_walk (a : Option Addr) (len cap : Nat) (l : List ByteArray) (n0 t0 l0 : Int) (w : World) (hA : SrcT w a len cap l) : Calls Try.prog 6 #[.slice a len cap, .int .i64 n0, .int .i64 t0, .int .i64 l0] w fun e w' => e = .returned (.bool true) ∧ Below w.heap.size w w' := by
  have hlc := hA.hcap
  have hcm := hA.hmax
  unfold maxLen at hcm
  have HA := hide hA
  clear hA
  go_enter Try.func6, Try.ntmps6
  go_wp2_with fail
  refine (works_at w).mono ?_
  rintro e w1 ⟨rfl, k1⟩
  have K1 := hide k1
  clear k1
  go_wp2_with fail
  refine (among n0 1000 (by omega) (by omega) w1).mono ?_
  rintro e w2 ⟨A, hAl, rfl, rfl⟩
  go_wp2_with fail
  refine (among t0 1000 (by omega) (by omega) w1).mono ?_
  rintro e w2 ⟨B, hBl, rfl, rfl⟩
  go_wp2_with fail
  refine (among l0 2000 (by omega) (by omega) w1).mono ?_
  rintro e w2 ⟨D, hDl, rfl, rfl⟩
  by_cases hlen : 30 < len
  all_goals first
    | (have hlt : 30 < len := by omega
       have d1 : decide ((len : Int) > 30) = true := decide_eq_true (by omega)
       have d1' : decide (30 < (len : Int)) = true := decide_eq_true (by omega)
       obtain ⟨M, hM⟩ : ∃ M : Nat, M = 30 := ⟨_, rfl⟩
       have hcut : ∀ w, (Instr.sliceAt 44 (.slice a len cap) none (some (.int .i64 30)) none).run Try.prog w = .ok (.slice a M cap) w := fun w => by rw [hM]; exact run_cut44 a len cap 30 (by omega) (by omega) w
       have hM30 : M ≤ 30 := by omega
       have hMl : M ≤ len := by omega
       clear hM hlt
       go_wp2_with fail
       clear hcut)
    | (have d1 : decide ((len : Int) > 30) = false := decide_eq_false (by omega)
       have d1' : decide (30 < (len : Int)) = false := decide_eq_false (by omega)
       go_wp2_with fail
       obtain ⟨M, hM⟩ : ∃ M : Nat, M = len := ⟨_, rfl⟩
       rw [← hM]
       have hM30 : M ≤ 30 := by omega
       have hMl : M ≤ len := by omega
       clear hM)
  all_goals
    have HT : Hid (SrcT w a M cap (l.take M)) := by
      have h := HA.out
      refine ⟨by rw [List.length_take, h.hlen]; omega, by omega, h.hmax, fun h0 => ?_⟩
      obtain ⟨b, o, e, hb, hc⟩ := h.lies (by omega)
      refine ⟨b, o, e, hb, fun j u hu => hc j u ?_⟩
      have hj := (List.getElem?_eq_some_iff.1 hu).1
      rw [rowT_length, List.length_take] at hj
      rw [← hu]
      simp [rowT, List.getElem?_take, show j < M by omega]
    generalize l.take M = ls at HT
    clear HA d1 d1' hlen
    refine (new_good M w1 (by omega)).mono ?_
    rintro e w3 ⟨rfl, h3, k3⟩
    have K3 := hide (K1.out.trans (k3.mono K1.out.size))
    have H3 := hide h3
    have hw1 : w.heap.size ≤ w1.heap.size := K1.out.size
    clear h3 k3 K1
    obtain ⟨r, hr⟩ : ∃ r, r = w1.heap.size + 1 := ⟨_, rfl⟩
    obtain ⟨g, hg⟩ : ∃ g, g = w1.heap.size := ⟨_, rfl⟩
    rw [← hr, ← hg] at H3
    rw [← hr]
    have hrB : w.heap.size ≤ r := by omega
    have hgB : w.heap.size ≤ g := by omega
    clear hr hg hw1
    obtain ⟨tl, htl⟩ : ∃ tl : Int, tl = A + (1 + B) := ⟨_, rfl⟩
    have HTL := hide htl
    clear htl
    go_wp2_with fail
    go_loopw [11] (fun v wr => ∃ (i : Nat) (L : List Sl), i ≤ M ∧ v = .int .i64 i ∧ Hid (IsTab wr r g L) ∧ Hid (L.length = M) ∧ Hid (Room L tl i (fun n => okN n ∧ ∃ j, j < i ∧ ls.getD j noN = n)) ∧ Hid (Below w.heap.size w wr)) (fun v _ => M - (intOf v).toNat)
    case atStart =>
      exact ⟨0, _, Nat.zero_le _, rfl, H3, List.length_replicate, ⟨fun k s hs => Or.inl (new_at hs), fun k s _ hs => new_at hs, fun n hn => hn.1.1, fun n hn => by obtain ⟨_, j, hj, _⟩ := hn; omega⟩, K3⟩
    case round =>
      clear H3 K3
      obtain ⟨i, L, hi, rfl, HTb, HN, HRm, HB⟩ := hrel
      by_cases hil : i < M
      · have hd : decide ((i : Int) < (M : Int)) = true := decide_eq_true (by omega)
        obtain ⟨b, o, rfl, hc⟩ := (HT.out.below HB.out).at_ hil
        obtain ⟨T, hT⟩ : ∃ T, T = ls.getD i noN := ⟨_, rfl⟩
        rw [← hT] at hc
        have HTn := hide hT
        clear hT
        have hbx : Below wr.heap.size wr (wr.alloc (.cells #[.int .u8 0, .int .u8 0, .int .u8 0, .int .u8 (i : Nat)] 37)) := (Below.refl _ _).alloc (Nat.le_refl _) _
        have hsx : SrcA (wr.alloc (.cells #[.int .u8 0, .int .u8 0, .int .u8 0, .int .u8 (i : Nat)] 37)) (some ⟨wr.heap.size, 0, none⟩) 1 1 [(0, 0, 0, i)] := by
          refine ⟨rfl, Nat.le_refl _, by decide, (fun e => by cases e), fun _ => ⟨_, 0, rfl, by simp, fun j u hu => ?_⟩, ?_⟩
          · rw [Nat.zero_add]
            simp only [World.cell?, alloc_new]
            rw [← hu]
            simp [adCs, adC]
          · intro x hx
            simp at hx
            subst hx
            exact ⟨by show (0 : Nat) < 256; omega, by show (0 : Nat) < 256; omega, by show (0 : Nat) < 256; omega, by show i < 256; omega⟩
        have HP := hide (put_at r g L A T _ 1 1 [(0, 0, 0, i)] (1 + B) _ (HTb.out.belowS hbx) hsx)
        have hcode := keeps_code (L := L) (by rw [HN.out]; omega) (now := A) (ttl := 1 + B) (by omega) (by omega) (by omega) (by omega) T
        have HR2 : Hid (Room (put L A T [(0, 0, 0, i)] (1 + B)) tl (i + 1) (fun n => okN n ∧ ∃ j, j < i + 1 ∧ ls.getD j noN = n)) := by
          by_cases hok : okN T
          · rw [if_pos hok] at hcode
            refine HRm.out.put (by rw [HN.out]; exact hil) A (1 + B) T _ (by omega) (by omega) HTL.out hcode (fun n hn => ?_)
            obtain ⟨h1, j, hj, e⟩ := hn
            rcases Nat.lt_or_ge j i with h2 | h2
            · exact Or.inl ⟨h1, j, h2, e⟩
            · obtain rfl : j = i := by omega
              exact Or.inr (by rw [HTn.out]; exact e.symm)
          · rw [if_neg hok] at hcode
            rw [put_bad (by rw [show ([(0, 0, 0, i)] : List Ad).length = 1 from rfl, hcode]; decide)]
            refine HRm.out.mono (fun n hn => ?_)
            obtain ⟨h1, j, hj, e⟩ := hn
            refine ⟨h1, j, ?_, e⟩
            rcases Nat.lt_or_ge j i with h2 | h2
            · exact h2
            · obtain rfl : j = i := by omega
              exact absurd (by rw [HTn.out, e]; exact h1) hok
        have HN2 := hide ((put_length L A T [(0, 0, 0, i)] (1 + B)).trans HN.out)
        rw [hcode] at HP
        obtain ⟨L2, hL2⟩ : ∃ L2, L2 = put L A T [(0, 0, 0, i)] (1 + B) := ⟨_, rfl⟩
        rw [← hL2] at HP HR2 HN2
        have HBX := hide hbx
        clear hbx hsx hcode hL2 HRm HN
        go_wp2_with fail
        refine HP.out.mono ?_
        rintro e w4 ⟨rfl, h4, k4⟩
        have H4 := hide h4
        have K4 := hide ((HB.out.trans (HBX.out.mono HB.out.size)).trans (k4.below hgB hgB (HB.out.trans (HBX.out.mono HB.out.size)).size))
        have hc4 : w4.cell? ⟨b, o + i, none⟩ = some (.string T) := by
          obtain ⟨b', o', e', hc'⟩ := (HT.out.below K4.out).at_ hil
          simp only [Option.some.injEq, Addr.mk.injEq, and_true] at e'
          obtain ⟨rfl, rfl⟩ := e'
          rw [hc', HTn.out]
        clear h4 k4 HP HTb HB HBX hc
        by_cases hok : okN T
        · rw [if_pos hok]
          unfold okN at hok
          have z1 : (T.toList == []) = false := by rw [ba_nil]; simp [hok.1]
          have z2 : T.toList.isEmpty = false := by rw [ba_emp]; simp [hok.1]
          have z3 : decide ((T.size : Int) ≤ 253) = true := decide_eq_true (by omega)
          clear hok
          go_wp2_with fail
          go_roundw
          case rel => exact ⟨i + 1, L2, by omega, by go_num, H4, HN2, HR2, K4⟩
          case measure => simp [intOf]; omega
        · rw [if_neg hok]
          by_cases hz : T.size = 0
          · have z1 : (T.toList == []) = true := by rw [ba_nil]; simp [hz]
            have z2 : T.toList.isEmpty = true := by rw [ba_emp]; simp [hz]
            clear hok hz
            go_wp2_with fail
            go_roundw
            case rel => exact ⟨i + 1, L2, by omega, by go_num, H4, HN2, HR2, K4⟩
            case measure => simp [intOf]; omega
          · have z1 : (T.toList == []) = false := by rw [ba_nil]; simp [hz]
            have z2 : T.toList.isEmpty = false := by rw [ba_emp]; simp [hz]
            have z3 : decide ((T.size : Int) ≤ 253) = false := decide_eq_false (by unfold okN at hok; omega)
            clear hok hz
            go_wp2_with fail
            go_roundw
            case rel => exact ⟨i + 1, L2, by omega, by go_num, H4, HN2, HR2, K4⟩
            case measure => simp [intOf]; omega
      · have hd : decide ((i : Int) < (M : Int)) = false := decide_eq_false (by omega)
        obtain rfl : i = M := by omega
        go_wp2_with fail
        clear hd
        have HRM : Hid (∀ n, (okN n → ∃ j, j < i ∧ ls.getD j noN = n) → getC L (A + D) n = (if (A + D : Int) < tl ∧ okN n then 0 else 5) ∧ ((A + D : Int) < tl ∧ okN n → getT L (A + D) n = tl - (A + D))) := fun n hn => keeps_got HRm.out HTb.out.ok (by omega) (by omega) n (fun h => ⟨h, hn h⟩)
        have HG0 : Hid (∀ w2 : World, Below wr.heap.size wr w2 → ∀ n, Calls Try.prog 16 #[.pointer (some ⟨r, 0, none⟩), .int .i64 (A + D), .string n] w2 fun e w' => ∃ v, e = .returned (.tuple #[v, .int .i64 (getT L (A + D) n), .int .i64 (getC L (A + D) n)]) ∧ Below w2.heap.size w2 w') := fun w2 k n => by
          refine (get_at r g L (A + D) n w2 (HTb.out.belowS k)).mono ?_
          rintro e w' ⟨v, h1, _, h2⟩
          exact ⟨v, h1, h2⟩
        clear HTb HN HRm
        go_loopw [13] (fun v w5 => ∃ (j : Nat), j ≤ i ∧ v = .int .i64 j ∧ Hid (Below wr.heap.size wr w5)) (fun v _ => i - (intOf v).toNat)
        case atStart => exact ⟨0, Nat.zero_le _, rfl, Below.refl _ _⟩
        case round =>
          obtain ⟨j, hj, rfl, HJ⟩ := hrel
          by_cases hjl : j < i
          · have hd : decide ((j : Int) < (i : Int)) = true := decide_eq_true (by omega)
            have HJ0 := hide (HB.out.trans (HJ.out.mono HB.out.size))
            obtain ⟨b, o, rfl, hc⟩ := (HT.out.below HJ0.out).at_ hjl
            have hgc := HRM.out (ls.getD j noN) (fun _ => ⟨j, hjl, rfl⟩)
            have HG := hide (HG0.out _ HJ.out (ls.getD j noN))
            have HTJ : Hid (∀ w6 : World, Below w.heap.size w w6 → w6.cell? ⟨b, o + j, none⟩ = some (.string (ls.getD j noN))) := fun w6 k => by
              obtain ⟨b', o', e', hc'⟩ := (HT.out.below k).at_ hjl
              simp only [Option.some.injEq, Addr.mk.injEq, and_true] at e'
              obtain ⟨rfl, rfl⟩ := e'
              exact hc'
            generalize ls.getD j noN = T at hc hgc HG HTJ
            obtain ⟨G1, G2⟩ := hgc
            rw [G1] at HG
            have htl := HTL.out
            by_cases hcond : (A + D : Int) < tl ∧ okN T
            · rw [if_pos hcond, G2 hcond] at HG
              obtain ⟨q1, q2⟩ := hcond
              unfold okN at q2
              have z1 : (T.toList == []) = false := by rw [ba_nil]; simp [q2.1]
              have z2 : T.toList.isEmpty = false := by rw [ba_emp]; simp [q2.1]
              have z3 : decide ((T.size : Int) ≤ 253) = true := decide_eq_true (by omega)
              have z4 : decide ((A : Int) + D < A + (1 + B)) = true := decide_eq_true (by omega)
              have z5 : (tl - ((A : Int) + D)) = A + (1 + B) - (A + D) := by omega
              rw [z5] at HG
              have z6 : IntKind.i64.wrap ((A : Int) + (1 + B) - (A + D)) = A + (1 + B) - (A + D) := wrap_int _ (by omega) (by omega)
              have z7 : ((A : Int) + (1 + B) - (A + D) == A + (1 + B) - (A + D)) = true := by simp
              have z8 : (D : Int) < 1 + B := by omega
              have z9 : decide ((D : Int) < 1 + B) = true := decide_eq_true z8
              clear G1 G2 q1 q2 htl z5
              go_wp2_with fail
              refine HG.out.mono ?_
              rintro e w6 ⟨v, rfl, k6⟩
              have K6 := hide (HJ.out.trans (k6.mono HJ.out.size))
              have hc6 := HTJ.out w6 (HB.out.trans (K6.out.mono HB.out.size))
              clear k6
              go_wp2_with fail
              go_roundw
              case rel => exact ⟨j + 1, by omega, by go_num, K6⟩
              case measure => simp [intOf]; omega
            · rw [if_neg hcond] at HG
              generalize getT L (A + D) T = gt at HG
              clear G1 G2
              have key : (¬ ((D : Int) < 1 + B)) ∨ ((D : Int) < 1 + B ∧ T.size = 0) ∨ ((D : Int) < 1 + B ∧ ¬ T.size = 0 ∧ ¬ T.size ≤ 253) := by
                unfold okN at hcond; omega
              clear hcond htl
              rcases key with z8 | ⟨z8, hz⟩ | ⟨z8, hz, hz2⟩
              · have z9 : decide ((D : Int) < 1 + B) = false := decide_eq_false z8
                have z4 : decide ((A : Int) + D < A + (1 + B)) = false := decide_eq_false (by omega)
                go_wp2_with fail
                refine HG.out.mono ?_
                rintro e w6 ⟨v, rfl, k6⟩
                have K6 := hide (HJ.out.trans (k6.mono HJ.out.size))
                have hc6 := HTJ.out w6 (HB.out.trans (K6.out.mono HB.out.size))
                clear k6
                go_wp2_with fail
                go_roundw
                case rel => exact ⟨j + 1, by omega, by go_num, K6⟩
                case measure => simp [intOf]; omega
              · have z9 : decide ((D : Int) < 1 + B) = true := decide_eq_true z8
                have z4 : decide ((A : Int) + D < A + (1 + B)) = true := decide_eq_true (by omega)
                have z1 : (T.toList == []) = true := by rw [ba_nil]; simp [hz]
                have z2 : T.toList.isEmpty = true := by rw [ba_emp]; simp [hz]
                clear hz
                go_wp2_with fail
                refine HG.out.mono ?_
                rintro e w6 ⟨v, rfl, k6⟩
                have K6 := hide (HJ.out.trans (k6.mono HJ.out.size))
                have hc6 := HTJ.out w6 (HB.out.trans (K6.out.mono HB.out.size))
                clear k6
                go_wp2_with fail
                go_roundw
                case rel => exact ⟨j + 1, by omega, by go_num, K6⟩
                case measure => simp [intOf]; omega
              · have z9 : decide ((D : Int) < 1 + B) = true := decide_eq_true z8
                have z4 : decide ((A : Int) + D < A + (1 + B)) = true := decide_eq_true (by omega)
                have z1 : (T.toList == []) = false := by rw [ba_nil]; simp [hz]
                have z2 : T.toList.isEmpty = false := by rw [ba_emp]; simp [hz]
                have z3 : decide ((T.size : Int) ≤ 253) = false := decide_eq_false (by omega)
                clear hz hz2
                go_wp2_with fail
                refine HG.out.mono ?_
                rintro e w6 ⟨v, rfl, k6⟩
                have K6 := hide (HJ.out.trans (k6.mono HJ.out.size))
                have hc6 := HTJ.out w6 (HB.out.trans (K6.out.mono HB.out.size))
                clear k6
                go_wp2_with fail
                go_roundw
                case rel => exact ⟨j + 1, by omega, by go_num, K6⟩
                case measure => simp [intOf]; omega
          · have hd : decide ((j : Int) < (i : Int)) = false := decide_eq_false (by omega)
            go_wp2_with fail
            go_ret
            exact ⟨rfl, HB.out.trans (HJ.out.mono HB.out.size)⟩
end Go.Proofs.Ytmolcipbopaniaa
