/-
  StoreHand's walk, with Itoa of the reference's base and texts held against each other; conditions as each theorem has them.
-/
import Derived.Test.YtcihkdmndpdmoaaHN
import Derived.Test.YtcihkdmndpdmoaaT
import Derived.Deep.DeepCutAuto
set_option linter.unusedSimpArgs false
set_option linter.unusedVariables false
namespace Go.Proofs.Ytcihkdmndpdmoaa
open Go.RowKit

def dcs (n : Nat) : List Nat := if n < 10 then [48 + n] else [48 + n / 10, 48 + n % 10]
theorem dcs_len (n : Nat) : (dcs n).length ≤ 2 := by unfold dcs; split <;> simp
theorem strN_app (a b : List Nat) : strN a ++ strN b = strN (a ++ b) := by
  apply ByteArray.ext
  simp [strN]
set_option maxRecDepth 100000 in
set_option maxHeartbeats 2000000 in
theorem ritoa_at (m : Nat) (w : World) (hm : m < 25) : Calls Try.prog 28 #[.int .i64 (m : Int)] w fun e w' => e = .returned (.string (strN (dcs m))) ∧ Below w.heap.size w w' := by
  by_cases h0 : m = 0
  · subst h0
    go_enter Try.func28, Try.ntmps28
    go_wp2_with fail
    go_ret
    exact ⟨rfl, Below.refl _ _⟩
  have hb : ((m : Int) == 0) = false := by simp; omega
  have hd : decide ((m : Int) < 0) = false := decide_eq_false (by omega)
  have H0 := hide h0
  clear h0
  go_enter Try.func28, Try.ntmps28
  go_wp2_with fail
  clear hb
  go_loopw [0, 3] (fun nv sv wr => ∃ (n : Nat) (s : List Nat), nv = .int .i64 n ∧ sv = .string (strN s) ∧ n < 25 ∧ Hid ((if n = 0 then [] else dcs n) ++ s = dcs m ∧ Below w.heap.size w wr)) (fun nv _ _ => (intOf nv).toNat)
  case atStart => exact ⟨m, [], rfl, rfl, hm, by rw [if_neg H0.out, List.append_nil], Below.refl _ _⟩
  case round =>
    obtain ⟨n, s, rfl, rfl, hn, HI⟩ := hrel
    by_cases hz : n = 0
    · subst hz
      obtain ⟨i1, i3⟩ := HI.out
      have HS : Hid (s = dcs m) := by have h2 : s = dcs m := by simpa using i1
                                      exact h2
      have B := hide i3
      clear i1 i3
      go_wp2_with fail
      go_ret
      exact ⟨by rw [HS.out]; rfl, B.out⟩
    · have q1 : ((n : Int) == 0) = false := by simp; omega
      have q2 : ((n : Int) != 0) = true := by simp; omega
      obtain ⟨i1, i3⟩ := HI.out
      have q3 : decide ((n : Int) % 10 < 0) = false := decide_eq_false (by omega)
      have B := hide i3
      have I1 := hide i1
      have i2 : s.length ≤ 5 := by
        have h4 := dcs_len m
        rw [← i1, List.length_append] at h4; omega
      have I2 := hide i2
      clear i1 i2 i3 hd
      obtain ⟨T, hT⟩ : ∃ T, T = strN [48 + n % 10] := ⟨_, rfl⟩
      have hTs : T.size = 1 := by rw [hT, strN_size]; rfl
      have hstr : (convert 30 9 (.slice (some ⟨wr.heap.size, 0, none⟩) 1 1)).run Try.prog (wr.alloc (.cells #[.int .u8 (48 + (n : Int) % 10)] 5)) = .ok (.string T) (wr.alloc (.cells #[.int .u8 (48 + (n : Int) % 10)] 5)) := by
        rw [hT]
        refine run_str _ wr.heap.size 0 1 1 [48 + n % 10] rfl ?_
        intro i hi
        have : i = 0 := by omega
        subst this
        rw [World.cell?_alloc_at _ _ _ _ (by simp)]
        show some (Value.int .u8 (48 + (n : Int) % 10)) = some (Value.int .u8 ((48 + n % 10 : Nat) : Int))
        rw [show (48 + (n : Int) % 10) = ((48 + n % 10 : Nat) : Int) by omega]
      have hss : (strN s).size = s.length := strN_size s
      have hno : ¬ (9223372036854775807 < T.size + (strN s).size) := by have := I2.out; omega
      have HT := hide hT
      clear hT hss
      go_wp2_with fail
      have en : (n : Int) / 10 = ((n / 10 : Nat) : Int) := by omega
      refine ⟨⟨n / 10, (48 + n % 10) :: s, by rw [en], by rw [HT.out, strN_app]; rfl, by omega, ?_, B.out.alloc B.out.size _⟩, ?_⟩
      · have h3 := I1.out
        rw [if_neg hz] at h3
        rw [← h3]
        by_cases h10 : n < 10
        · rw [if_pos (by omega)]; unfold dcs; rw [if_pos h10, show n % 10 = n by omega]; rfl
        · rw [if_neg (by omega)]; unfold dcs; rw [if_neg h10, if_pos (by omega)]; rfl
      · show ((n : Int) / 10).toNat < ((n : Int)).toNat
        omega
set_option maxRecDepth 100000 in
set_option maxHeartbeats 2000000 in
theorem same_one (w : World) (x y : ByteArray) (b c : Nat) (hb : w.cell? ⟨b, 0, none⟩ = some (.string x)) (hc : w.cell? ⟨c, 0, none⟩ = some (.string y)) : Calls Try.prog 24 #[.slice (some ⟨b, 0, none⟩) 1 1, .slice (some ⟨c, 0, none⟩) 1 1] w fun e w' => e = .returned (.bool (decide (x = y))) ∧ Below w.heap.size w w' := by
  by_cases hxy : x = y
  · have hs (d : Nat) (z : ByteArray) (h : w.cell? ⟨d, 0, none⟩ = some (.string z)) : SrcT w (some ⟨d, 0, none⟩) 1 1 [z] := ⟨rfl, Nat.le_refl _, by decide, fun _ => ⟨d, 0, rfl, lt_of_cell h, fun j u hu => by
      cases j with
      | zero => simp [rowT] at hu; subst hu; exact h
      | succ j => simp [rowT] at hu⟩⟩
    refine (same_texts w _ _ 1 1 1 1 [x] (hs b x hb) (hs c x (by rw [hxy]; exact hc))).mono ?_
    rintro e w' ⟨rfl, k⟩
    exact ⟨by simp [hxy], k⟩
  · have z1 : (x.toList == y.toList) = false := by rw [eq_ba]; simp [hxy]
    have D : Hid (decide (x = y) = false) := decide_eq_false hxy
    clear hxy
    go_enter Try.func24, Try.ntmps24
    go_wp2_with fail
    go_loopw [5] (fun i wr => i = .int .i64 0 ∧ Hid (Below w.heap.size w wr)) (fun i _ => 0)
    case atStart => exact ⟨rfl, Below.refl _ _⟩
    case round =>
      obtain ⟨rfl, HJ⟩ := hrel
      have g1 := (HJ.out.cell (lt_of_cell hb)).trans hb
      have g2 := (HJ.out.cell (lt_of_cell hc)).trans hc
      go_wp2_with fail
      go_region
      all_goals go_wp2_with fail
      go_ret
      exact ⟨by rw [D.out]; rfl, HJ.out.drew⟩
theorem run_ltr (w : World) (i : Nat) : (convert 30 9 (.slice (some ⟨w.heap.size, 0, none⟩) 1 1)).run Try.prog (w.alloc (.cells #[.int .u8 (97 + (i : Int))] 5)) = .ok (.string (ltr i)) (w.alloc (.cells #[.int .u8 (97 + (i : Int))] 5)) := by
  refine run_str _ w.heap.size 0 1 1 [97 + i] rfl ?_
  intro j hj
  obtain rfl : j = 0 := by omega
  rw [World.cell?_alloc_at _ _ _ _ (by simp)]
  show some (Value.int .u8 (97 + (i : Int))) = some (Value.int .u8 ((97 + i : Nat) : Int))
  rw [show (97 + (i : Int)) = ((97 + i : Nat) : Int) by omega]
theorem same_one' (w : World) (x y : ByteArray) (D : Bool) (hD : Hid (D = decide (x = y))) (b c : Nat) (hb : w.cell? ⟨b, 0, none⟩ = some (.string x)) (hc : w.cell? ⟨c, 0, none⟩ = some (.string y)) : Calls Try.prog 24 #[.slice (some ⟨b, 0, none⟩) 1 1, .slice (some ⟨c, 0, none⟩) 1 1] w fun e w' => e = .returned (.bool D) ∧ Below w.heap.size w w' := by
  rw [hD.out]
  exact same_one w x y b c hb hc
theorem cel1 (w : World) (u v t : Value) (e f d : TypeId) : (((w.alloc (.cells #[u] e)).alloc (.cells #[v] f)).alloc (.cells #[t] d)).drew.cell? ⟨w.heap.size, 0, none⟩ = some u := by
  have h : (((w.alloc (.cells #[u] e)).alloc (.cells #[v] f)).alloc (.cells #[t] d)).drew.heap[w.heap.size]? = some (.cells #[u] e) := alloc_old _ (alloc_old _ (alloc_new _ _))
  simp [World.cell?, h]
theorem alloc_size1 (w : World) (o : Obj) : (w.alloc o).heap.size = w.heap.size + 1 := by simp
theorem cel2 (w : World) (u v t : Value) (e f d : TypeId) : (((w.alloc (.cells #[u] e)).alloc (.cells #[v] f)).alloc (.cells #[t] d)).drew.cell? ⟨w.heap.size + 1, 0, none⟩ = some v := by
  have h : (((w.alloc (.cells #[u] e)).alloc (.cells #[v] f)).alloc (.cells #[t] d)).drew.heap[w.heap.size + 1]? = some (.cells #[v] f) := alloc_old _ (by rw [← alloc_size1 w (.cells #[u] e)]; exact alloc_new _ _)
  simp only [World.cell?, h]
  rfl
theorem cel3 (w : World) (u v t : Value) (e f d : TypeId) : (((w.alloc (.cells #[u] e)).alloc (.cells #[v] f)).alloc (.cells #[t] d)).drew.cell? ⟨w.heap.size + 1 + 1, 0, none⟩ = some t := by
  have h : (((w.alloc (.cells #[u] e)).alloc (.cells #[v] f)).alloc (.cells #[t] d)).drew.heap[w.heap.size + 1 + 1]? = some (.cells #[t] d) := by
    rw [← alloc_size1 w (.cells #[u] e), ← alloc_size1 (w.alloc (.cells #[u] e)) (.cells #[v] f)]
    exact alloc_new _ _
  simp only [World.cell?, h]
  rfl
theorem run_ltr' (w : World) (B i : Nat) (h : w.cell? ⟨B, 0, none⟩ = some (.int .u8 (97 + (i : Int)))) : (convert 30 9 (.slice (some ⟨B, 0, none⟩) 1 1)).run Try.prog w = .ok (.string (ltr i)) w := by
  refine run_str _ B 0 1 1 [97 + i] rfl ?_
  intro j hj
  obtain rfl : j = 0 := by omega
  rw [Nat.add_zero, h]
  show some (Value.int .u8 (97 + (i : Int))) = some (Value.int .u8 ((97 + i : Nat) : Int))
  rw [show (97 + (i : Int)) = ((97 + i : Nat) : Int) by omega]
theorem al2 (w : World) (o p : Obj) : Below w.heap.size w ((w.alloc o).alloc p) := ((Below.refl _ _).alloc (Nat.le_refl _) _).alloc (by simp) _
theorem al3 (w : World) (o p q : Obj) : Below w.heap.size w (((w.alloc o).alloc p).alloc q) := (al2 w o p).alloc (by simp; omega) _
theorem put_nil {w : World} {r g K h : Nat} {L : List Sl} (t : IsTab w r g K L h) (now : Int) (key : ByteArray) (age : Int) :
    Calls Try.prog 13 #[.pointer (some ⟨r, 0, none⟩), .int .i64 now, .string key, .slice none 0 0, .int .i64 age] w fun e w' => e = .returned (.int .i64 (code K L now key 0 age)) ∧ IsTab w' r g K (put K L h now key (strN []) age).1 (put K L h now key (strN []) age).2 ∧ Kept r g w w' :=
  put_at r g K h L now key none 0 0 [] age w t (Src.nilS w) ⟨fun h0 => by omega, fun h0 => by omega⟩
/-- What is told of the slots behind the letters: a list, made by a number. -/
def Tells (a : Option Addr) (n : Nat) (q : Nat → Bool) (w : World) : Prop := 0 < n → ∃ b o, a = some ⟨b, o, none⟩ ∧ b < w.heap.size ∧ ∀ i, i < n → w.cell? ⟨b, o + i, none⟩ = some (.bool (q i))
theorem Tells.at_ {a : Option Addr} {n : Nat} {q : Nat → Bool} {w wr : World} (h : Tells a n q w) (k : Below w.heap.size w wr) {i : Nat} (hi : i < n) : ∃ b o, a = some ⟨b, o, none⟩ ∧ b < w.heap.size ∧ wr.cell? ⟨b, o + i, none⟩ = some (.bool (q i)) := by
  obtain ⟨b, o, e, hb, hc⟩ := h (by omega)
  exact ⟨b, o, e, hb, (k.cell (p := ⟨b, o + i, none⟩) hb).trans (hc i hi)⟩
set_option maxRecDepth 100000 in
set_option maxHeartbeats 8000000 in
theorem hand_walk (a : Option Addr) (len cap : Nat) (q : Nat → Bool) (more : Int) (w : World) (hQ : SrcQ w a len cap q) : Calls Try.prog 6 #[.slice a len cap, .int .i64 more] w fun e w' => e = .returned (.bool true) ∧ Below w.heap.size w w' := by
  obtain ⟨hlc, hcm, hI⟩ := hQ
  unfold maxLen at hcm
  obtain ⟨N, hN⟩ : ∃ N, N = min len 25 := ⟨_, rfl⟩
  have HA : Hid (Tells a N q w) := fun h0 => by
    obtain ⟨b, o, e, hb, hc⟩ := hI (by omega)
    exact ⟨b, o, e, hb, fun i hi => hc i (by omega)⟩
  have hN25 : N ≤ 25 := by omega
  have HNL : Hid (len ≤ 25 → len = N) := fun h => by omega
  have HNM : Hid (25 < len → N = 25) := fun h => by omega
  clear hI hN
  go_enter Try.func6, Try.ntmps6
  go_wp2_with fail
  refine (works_at w).mono ?_
  rintro e w1 ⟨rfl, k1⟩
  have K1 := hide k1
  clear k1
  by_cases hl : len ≤ 25
  case' pos => (have hd0 : decide ((25 : Int) < (len : Int)) = false := decide_eq_false (by omega)); (have hd1 : decide ((len : Int) > 25) = false := decide_eq_false (by omega)); (obtain rfl : N = len := (HNL.out hl).symm)
  case' neg => (have hNe : N = 25 := HNM.out (by omega)); (have hd1 : decide ((len : Int) > 25) = true := decide_eq_true (by omega)); (have hd0 : decide ((25 : Int) < (len : Int)) = true := decide_eq_true (by omega)); (have hcN : 25 ≤ cap := by omega); (have hcN' : (25 : Int) ≤ (cap : Int) := by omega); (have HD : Hid ((25 : Int) = (N : Int) ∧ Value.slice a 25 cap = Value.slice a N cap) := ⟨by omega, by rw [hNe]⟩); clear hNe
  case' neg => go_wp2_with fail; rw [HD.out.2, HD.out.1]; clear HD hcN hcN' hd0 hd1
  case' pos => go_wp2_with fail
  all_goals
    clear HNL HNM
    refine (new_good N 1 w1 (by omega) (by omega) (by omega)).mono ?_
    rintro e w3 ⟨rfl, h3, k3⟩
    have K3 := hide (K1.out.trans (k3.mono K1.out.size))
    have H3 := hide h3
    have hw1 : w.heap.size ≤ w1.heap.size := K1.out.size
    clear h3 k3 K1
    obtain ⟨r, hr⟩ : ∃ r, r = w1.heap.size + 1 := ⟨_, rfl⟩
    obtain ⟨g, hg⟩ : ∃ g, g = w1.heap.size := ⟨_, rfl⟩
    rw [← hr, ← hg, p1_start] at H3
    rw [← hr]
    have hrB : w.heap.size ≤ r := by omega
    have hgB : w.heap.size ≤ g := by omega
    clear hr hg hw1
    by_cases hN0 : N = 0
    · have z0 : ((N : Int) == 0) = true := by simp [hN0]
      have HZ := hide hN0
      clear hN0
      have HP := hide (put_nil H3.out 0 ⟨#[122]⟩ 9)
      have hcd : code 1 (gen N (P1 0)) 0 ⟨#[122]⟩ 0 9 = 4 := by rw [HZ.out]; rfl
      rw [hcd] at HP
      clear hcd
      go_wp2_with fail
      refine HP.out.mono ?_
      rintro e w4 ⟨rfl, t4, k4⟩
      have K4 := hide (k4.belowT K3.out hrB hgB)
      clear t4 k4 HP
      go_wp2_with fail
      go_ret
      exact ⟨rfl, K4.out⟩
    have z0 : ((N : Int) == 0) = false := by simp; omega
    have HN0 := hide hN0
    clear hN0
    go_wp2_with fail
    clear z0
    go_loopw [7, 8] (fun u v wr => ∃ i c : Nat, i ≤ N ∧ c ≤ i ∧ v = .int .i64 i ∧ u = .int .i64 c ∧ Hid (c = cq q i) ∧ Hid (IsTab wr r g 1 (gen N (P1 i)) 0) ∧ Hid (Below w.heap.size w wr)) (fun _ v _ => N - (intOf v).toNat)
    case atStart => exact ⟨0, 0, Nat.zero_le _, Nat.zero_le _, rfl, rfl, rfl, H3, K3⟩
    case round =>
      clear H3 K3
      obtain ⟨i, c, hi, hc, rfl, rfl, HC, HT, HB⟩ := hrel
      by_cases hil : i < N
      · have hd : decide ((i : Int) < (N : Int)) = true := decide_eq_true (by omega)
        have hu1 : IntKind.u8.wrap (i : Int) = i := by rw [show IntKind.u8.wrap (i : Int) = (i : Int) % 256 by simp [IntKind.wrap, IntKind.signed, IntKind.bits]]; omega
        have hu2 : IntKind.u8.wrap (97 + (i : Int)) = 97 + i := by rw [show IntKind.u8.wrap (97 + (i : Int)) = (97 + (i : Int)) % 256 by simp [IntKind.wrap, IntKind.signed, IntKind.bits]]; omega
        have hst := run_ltr wr i
        have HP := hide (put_nil (HT.out.alloc (.cells #[.int .u8 (97 + (i : Int))] 5)) 0 (ltr i) 99)
        have pp := p1_put hN25 hil
        rw [pp.1, pp.2] at HP
        clear pp
        have hbx : Hid (Below w.heap.size w (wr.alloc (.cells #[.int .u8 (97 + (i : Int))] 5))) := HB.out.alloc HB.out.size _
        go_wp2_with fail
        refine HP.out.mono ?_
        rintro e w4 ⟨rfl, t4, k4⟩
        have T4 := hide t4
        have K4 := hide (k4.belowT hbx.out hrB hgB)
        clear t4 k4 HP hbx hst hu1 hu2
        obtain ⟨b, o, rfl, hbw, hqi⟩ := HA.out.at_ K4.out hil
        cases hq : q i with
        | false =>
          rw [hq] at hqi
          have HC2 : Hid (c + 1 = cq q (i + 1)) := by show _ = _; simp [cq, hq, HC.out]
          clear hq
          go_wp2_with fail
          go_roundw
          case rel => exact ⟨i + 1, c + 1, by omega, by omega, by go_num, by go_num, HC2, T4, K4⟩
          case measure => simp [intOf]; omega
        | true =>
          rw [hq] at hqi
          have HC2 : Hid (c = cq q (i + 1)) := by show _ = _; simp [cq, hq, HC.out]
          clear hq
          go_wp2_with fail
          go_roundw
          case rel => exact ⟨i + 1, c, by omega, by omega, by go_num, rfl, HC2, T4, K4⟩
          case measure => simp [intOf]; omega
      · have hd : decide ((i : Int) < (N : Int)) = false := decide_eq_false (by omega)
        obtain rfl : i = N := by omega
        have T3 : Hid (IsTab wr r g 1 (gen i (P2 q 0)) 0) := by rw [← p2_start]; exact HT
        have K3 := HB
        clear HT HB
        go_wp2_with fail
        clear hd
        go_loopw [9] (fun v wr => ∃ j : Nat, j ≤ i ∧ v = .int .i64 j ∧ Hid (IsTab wr r g 1 (gen i (P2 q j)) 0) ∧ Hid (Below w.heap.size w wr)) (fun v _ => i - (intOf v).toNat)
        case atStart => exact ⟨0, Nat.zero_le _, rfl, T3, K3⟩
        case round =>
          clear T3 K3
          obtain ⟨j, hj, rfl, HT, HB⟩ := hrel
          by_cases hjl : j < i
          · have hd : decide ((j : Int) < (i : Int)) = true := decide_eq_true (by omega)
            obtain ⟨b, o, rfl, hbw, hqj⟩ := HA.out.at_ HB.out hjl
            cases hq : q j with
            | false =>
              rw [hq] at hqj
              have T4 := HT
              rw [p2_skip hq] at T4
              clear hq
              go_wp2_with fail
              go_roundw
              case rel => exact ⟨j + 1, by omega, by go_num, T4, HB⟩
              case measure => simp [intOf]; omega
            | true =>
              rw [hq] at hqj
              have hu1 : IntKind.u8.wrap (j : Int) = j := by rw [show IntKind.u8.wrap (j : Int) = (j : Int) % 256 by simp [IntKind.wrap, IntKind.signed, IntKind.bits]]; omega
              have hu2 : IntKind.u8.wrap (97 + (j : Int)) = 97 + j := by rw [show IntKind.u8.wrap (97 + (j : Int)) = (97 + (j : Int)) % 256 by simp [IntKind.wrap, IntKind.signed, IntKind.bits]]; omega
              have hst := run_ltr wr j
              have HG := hide (get_at _ _ _ _ _ 1 (ltr j) _ (HT.out.alloc (.cells #[.int .u8 (97 + (j : Int))] 5)))
              rw [p2_get hN25 hjl hq] at HG
              have hbx : Hid (Below w.heap.size w (wr.alloc (.cells #[.int .u8 (97 + (j : Int))] 5))) := HB.out.alloc HB.out.size _
              clear hq
              go_wp2_with fail
              refine HG.out.mono ?_
              rintro e w4 ⟨v, rfl, _, t4, k4⟩
              have T4 := hide t4
              have K4 := hide (k4.belowT hbx.out hgB hgB)
              clear t4 k4 HG hbx hst hu1 hu2
              go_wp2_with fail
              go_roundw
              case rel => exact ⟨j + 1, by omega, by go_num, T4, K4⟩
              case measure => simp [intOf]; omega
          · have hd : decide ((j : Int) < (i : Int)) = false := decide_eq_false (by omega)
            obtain rfl : j = i := by omega
            have T3 := HT
            rw [p3_start] at T3
            have K3 := HB
            clear HT HB
            obtain ⟨C1, hC1⟩ : ∃ C1 : Nat, C1 = c + 1 := ⟨_, rfl⟩
            have hc1 : (c : Int) + 1 = (C1 : Int) := by omega
            have HAM := fun w' => hide (among more C1 (by omega) (by omega) w')
            have HC1 := hide hC1
            clear hC1
            go_wp2_with fail
            refine (HAM _).out.mono ?_
            rintro e w5 ⟨m, hm, rfl, rfl⟩
            have hmc : m ≤ c := by have := HC1.out; omega
            clear HAM hc1 hm hd
            go_wp2_with fail
            go_loopw [10] (fun v wr => ∃ k h : Nat, k ≤ m ∧ h ≤ j ∧ v = .int .i64 k ∧ Hid (cq q h = k) ∧ Hid (IsTab wr r g 1 (gen j (P3 q h)) (h % j)) ∧ Hid (Below w.heap.size w wr)) (fun v _ => m - (intOf v).toNat)
            case atStart => exact ⟨0, 0, Nat.zero_le _, Nat.zero_le _, rfl, rfl, by rw [Nat.zero_mod]; exact T3, K3⟩
            case round =>
              clear T3 K3
              obtain ⟨k, h, hk, hh, rfl, HQ, HT, HB⟩ := hrel
              by_cases hkm : k < m
              · have hd : decide ((k : Int) < (m : Int)) = true := decide_eq_true (by omega)
                have hk25 : k < 25 := by omega
                have HI := hide (ritoa_at k wr hk25)
                obtain ⟨T, hT⟩ : ∃ T, T = strN (dcs k) := ⟨_, rfl⟩
                have hTs : T.size ≤ 2 := by rw [hT, strN_size]; exact dcs_len k
                have hcat : (⟨#[110, 101, 119]⟩ : ByteArray) ++ T = nw k := by rw [hT]; exact strN_app [110, 101, 119] (dcs k)
                rw [← hT] at HI
                have pp := p3_put hN25 hh HQ.out (by have := HC.out; omega)
                obtain ⟨p1, h', h1', h2', p2⟩ := pp
                have HP := fun w' (t : IsTab w' r g 1 (gen j (P3 q h)) (h % j)) => hide (put_nil t 1 (nw k) 99)
                rw [p1, p2] at HP
                have H2 := hide h2'
                clear hT p1 p2 h2'
                have hno : ¬ (9223372036854775807 < 3 + T.size) := by omega
                go_wp2_with fail
                refine HI.out.mono ?_
                rintro e w5 ⟨rfl, k5⟩
                have T5 := hide (HT.out.below k5)
                have K5 := hide (HB.out.trans (k5.mono HB.out.size))
                clear k5 HI
                go_wp2_with fail
                refine (HP _ T5.out).out.mono ?_
                rintro e w6 ⟨rfl, t6, k6⟩
                have T6 := hide t6
                have K6 := hide (k6.belowT K5.out hrB hgB)
                clear t6 k6 HP hno hcat hTs
                go_wp2_with fail
                go_roundw
                case rel => exact ⟨k + 1, h', by omega, h1', by go_num, H2, T6, K6⟩
                case measure => simp [intOf]; omega
              · have hd : decide ((k : Int) < (m : Int)) = false := decide_eq_false (by omega)
                obtain rfl : k = m := by omega
                have HKE := hide (keys_at _ _ _ _ _ _ HT.out)
                rw [gen_length] at HKE
                go_wp2_with fail
                refine HKE.out.mono ?_
                rintro e w5 ⟨rfl, t5, k5⟩
                have T5 := hide (HT.out.below k5)
                have K5 := hide (HB.out.trans (k5.mono HB.out.size))
                have R5 := hide t5
                have hw5 : Hid (wr.heap.size < w5.heap.size) := lt_of_some t5
                clear t5 k5 HKE HT HB hd
                obtain ⟨l0, hl0⟩ : ∃ l0, l0 = wr.heap.size := ⟨_, rfl⟩
                rw [← hl0] at R5 hw5
                rw [← hl0]
                clear hl0
                go_wp2_with fail
                go_loopw [12, 13] (fun u v wr => ∃ y x : Nat, y ≤ j ∧ x ≤ y ∧ v = .int .i64 y ∧ u = .int .i64 x ∧ Hid (x = gon q h y) ∧ Hid (Below w5.heap.size w5 wr)) (fun _ v _ => j - (intOf v).toNat)
                case atStart => exact ⟨0, 0, Nat.zero_le _, Nat.zero_le _, rfl, rfl, rfl, Below.refl _ _⟩
                case round =>
                  obtain ⟨y, x, hy, hx, rfl, rfl, HX, HB⟩ := hrel
                  by_cases hyj : y < j
                  · have hd : decide ((y : Int) < (j : Int)) = true := decide_eq_true (by omega)
                    have hu1 : IntKind.u8.wrap (y : Int) = y := by rw [show IntKind.u8.wrap (y : Int) = (y : Int) % 256 by simp [IntKind.wrap, IntKind.signed, IntKind.bits]]; omega
                    have hu2 : IntKind.u8.wrap (97 + (y : Int)) = 97 + y := by rw [show IntKind.u8.wrap (97 + (y : Int)) = (97 + (y : Int)) % 256 by simp [IntKind.wrap, IntKind.signed, IntKind.bits]]; omega
                    obtain ⟨b, o, rfl, hbw, hqy⟩ := HA.out.at_ K5.out hyj
                    have hly : w5.cell? ⟨l0, y, none⟩ = some (.string (P3 q h y).key) := by
                      have := gen_nms (F := P3 q h) hyj
                      simp only [World.cell?, R5.out]
                      simp [rowT, this]
                    have hlw := (HB.out.cell (p := ⟨l0, y, none⟩) (lt_of_cell hly)).trans hly
                    have hqw := (HB.out.cell (p := ⟨b, o + y, none⟩) (lt_of_cell hqy)).trans hqy
                    obtain ⟨kk, hkk⟩ : ∃ kk, kk = (P3 q h y).key := ⟨_, rfl⟩
                    rw [← hkk] at hlw
                    have HKK := hide hkk
                    have hl0s : l0 < wr.heap.size := lt_of_cell hlw
                    have hne1 : l0 ≠ wr.heap.size := by omega
                    have hne2 : l0 ≠ wr.heap.size + 1 := by omega
                    have hne3 : l0 ≠ wr.heap.size + 1 + 1 := by omega
                    clear hly hqy hkk hl0s
                    have hcv : ∀ (w : World) (B : Nat), w.cell? ⟨B, 0, none⟩ = some (.int .u8 (97 + (y : Int))) → (convert 30 9 (.slice (some ⟨B, 0, none⟩) 1 1)).run Try.prog w = .ok (.string (ltr y)) w := fun w B h => run_ltr' w B y h
                    obtain ⟨D, hD⟩ : ∃ D, D = decide (kk = ltr y) := ⟨_, rfl⟩
                    have HD := hide hD
                    have HCS : Hid ((D = true ∧ gon q h (y + 1) = gon q h y) ∨ (D = false ∧ q y = false ∧ gon q h (y + 1) = gon q h y + 1)) := by
                      show _ ∨ _
                      rw [hD, HKK.out, p3_key]
                      by_cases hc1 : y < h ∧ q y = false
                      · rw [if_pos hc1]
                        exact Or.inr ⟨decide_eq_false (fun e => ltr_nw _ _ e.symm), hc1.2, by simp [gon, hc1]⟩
                      · rw [if_neg hc1]
                        exact Or.inl ⟨by simp, by simp [gon, hc1]⟩
                    obtain ⟨Q, hQ⟩ : ∃ Q, Q = q y := ⟨_, rfl⟩
                    rw [← hQ] at hqw HCS
                    have HBW : Hid (b < w5.heap.size) := by have := K5.out.size; show b < _; omega
                    have HQW := hide hqw
                    clear hD hQ hqw
                    go_wp2_with fail
                    go_cut [14] (fun s14 wx => s14 = .bool D ∧ Hid (Below w5.heap.size w5 wx))
                    case first =>
                      go_region_held (fun w' => w'.cell? ⟨l0, y, none⟩ = some (.string kk)) (first | assumption | exact cell_below hlw (box_below _ _) | exact cell_below hlw (al2 _ _ _) | exact cell_below hlw (al3 _ _ _ _) | exact cell_below hlw (box_below _ _).drew | exact cell_below hlw (al2 _ _ _).drew | exact cell_below hlw (al3 _ _ _ _).drew | go_keep) (first | (go_at_call 24; refine (same_one' _ kk (ltr y) D HD _ _ (by first | exact cel1 _ _ _ _ _ _ _ | exact cel2 _ _ _ _ _ _ _ | exact cel3 _ _ _ _ _ _ _) (by first | exact cel1 _ _ _ _ _ _ _ | exact cel2 _ _ _ _ _ _ _ | exact cel3 _ _ _ _ _ _ _)).mono ?_; rintro e w6 ⟨rfl, k6⟩; have b6 := (al3 wr _ _ _).drew.trans (k6.mono (al3 wr _ _ _).drew.size); have hl6 := cell_below hlw b6; have B6 := hide (HB.out.trans (b6.mono HB.out.size)); clear b6 k6))
                      all_goals
                        go_wp2_with fail
                        go_meet
                        exact ⟨rfl, B6⟩
                    case rest =>
                      obtain ⟨rfl, B6⟩ := hcut
                      have hqw := (B6.out.cell (p := ⟨b, o + y, none⟩) HBW.out).trans ((HB.out.cell (p := ⟨b, o + y, none⟩) HBW.out).symm.trans HQW.out)
                      rcases HCS.out with ⟨rfl, hg⟩ | ⟨rfl, rfl, hg⟩
                      · have HX2 : Hid (x = gon q h (y + 1)) := HX.out.trans hg.symm
                        clear hg HCS
                        go_wp2_with fail
                        go_roundw
                        case rel => exact ⟨y + 1, x, by omega, by omega, by go_num, rfl, HX2, B6⟩
                        case measure => simp [intOf]; omega
                      · have HX2 : Hid (x + 1 = gon q h (y + 1)) := by rw [hg, HX.out]; rfl
                        clear hg HCS
                        go_wp2_with fail
                        go_roundw
                        case rel => exact ⟨y + 1, x + 1, by omega, by omega, by go_num, by go_num, HX2, B6⟩
                        case measure => simp [intOf]; omega
                  · have hd : decide ((y : Int) < (j : Int)) = false := decide_eq_false (by omega)
                    obtain rfl : y = j := by omega
                    have hxe : x = k := by rw [HX.out, gon_all hh, HQ.out]
                    subst hxe
                    have HU := hide (used_at _ _ _ _ _ _ (T5.out.below HB.out))
                    rw [p3_full] at HU
                    have K6 := hide (K5.out.trans (HB.out.mono K5.out.size))
                    go_wp2_with fail
                    refine HU.out.mono ?_
                    rintro e w7 ⟨rfl, k7⟩
                    have K7 := hide (K6.out.trans (k7.mono K6.out.size))
                    clear k7
                    go_wp2_with fail
                    go_ret
                    exact ⟨rfl, K7.out⟩
end Go.Proofs.Ytcihkdmndpdmoaa
