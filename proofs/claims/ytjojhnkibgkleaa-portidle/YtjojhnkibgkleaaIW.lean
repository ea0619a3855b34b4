/-
  The walk of PortIdle: whatever the numbers and the event are, the call answers true and turns nothing that was there.
-/
import Derived.Test.YtjojhnkibgkleaaIV
set_option linter.unusedSimpArgs false
set_option linter.unusedVariables false
set_option maxRecDepth 8000
namespace Go.Proofs.Ytjojhnkibgkleaa
open Go.RowKit Go.Lib

set_option maxRecDepth 100000 in
set_option maxHeartbeats 8000000 in
theorem idle_walk (x0 x1 : Int) (E : Ev) (w : World) (hE : E.Ok) : Calls Try.prog 6 #[.int .i64 x0, .int .i64 x1, .agg (evV E)] w fun e w' => e = .returned (.bool true) ∧ Below w.heap.size w w' := by
  obtain ⟨k, e, N, d, ra, rn, rc⟩ := E
  obtain ⟨hkb, heb, hNb, hdb⟩ := hE
  unfold evV
  simp only at hkb heb hNb hdb
  have hd63 : d.size ≤ 9223372036854775807 := by unfold maxLen at hdb; omega
  have A1 : Hid (Below w.heap.size w (w.alloc (.cells #[.int .i64 k, .int .i64 e, .int .i64 N, .string d, .slice ra rn rc] 33))) := (Below.refl _ _).alloc (Nat.le_refl _) _
  go_enter Try.func6, Try.ntmps6
  go_wp2_with fail
  refine (works_at _).mono ?_
  rintro x w1 ⟨rfl, hb⟩
  have E1 : Hid (w1.heap[w.heap.size]? = some (.cells #[.int .i64 k, .int .i64 e, .int .i64 N, .string d, .slice ra rn rc] 33)) := (hb.block _ (by simp)).trans (alloc_new _ _)
  have B1 := hide (A1.out.trans (hb.mono A1.out.size))
  clear hb
  go_wp2_with fail
  refine (among x0 5 (by omega) (by omega) _).mono ?_
  rintro x w2 ⟨c, hc5, rfl, rfl⟩
  go_wp2_with fail
  refine (among x1 5 (by omega) (by omega) _).mono ?_
  rintro x w2 ⟨s, hs5, rfl, rfl⟩
  go_wp2_with fail
  refine (new_B (B := w1.heap.size) c s 8 w1 (Nat.le_refl _) (by omega) (by omega) (by omega) (by omega)).mono ?_
  rintro x w3 ⟨b, rfl, hp, kb⟩
  have HP := hide hp
  have K3 := hide kb
  have hbx : w3.heap[w.heap.size]? = some (.cells #[.int .i64 k, .int .i64 e, .int .i64 N, .string d, .slice ra rn rc] 33) := (kb.block _ (lt_of_some E1.out)).trans E1.out
  obtain ⟨q0, q1, q2, q3, q4⟩ : w3.cell? ⟨w.heap.size, 0, none⟩ = some (.int .i64 k) ∧ w3.cell? ⟨w.heap.size, 1, none⟩ = some (.int .i64 e) ∧ w3.cell? ⟨w.heap.size, 2, none⟩ = some (.int .i64 N) ∧ w3.cell? ⟨w.heap.size, 3, none⟩ = some (.string d) ∧ w3.cell? ⟨w.heap.size, 4, none⟩ = some (.slice ra rn rc) := by
    simp [World.cell?, hbx]
  clear hp kb hbx
  have HY := hide (fun h => idle_yes c s 8 k e N d h)
  have HNO := hide (fun h1 h2 => idle_no c s 8 k e N d h1 h2)
  obtain ⟨n, hn⟩ : ∃ n : Nat, n = c + s := ⟨_, rfl⟩
  have hcs : (c : Int) + (s : Int) = (n : Int) := by omega
  rw [← hn] at HY HNO
  have HN := hide hn
  have hn9 : n ≤ 8 := by omega
  clear hn
  by_cases k1 : k = 1
  · subst k1
    have hbo : Hid (bxx n 1 e d = false) := rfl
    by_cases e0 : 0 ≤ e
    · by_cases ec : e < (c : Int)
      · have hop : Hid (opn c 1 e = true) := by show _ = _; simp [opn, inr_, e0, ec]
        go_wp2_with fail
        refine (event_B HP.out K3.out.size 1 e N d hNb.2 hdb ra rn rc).mono ?_
        rintro x w4 ⟨rfl, h4, k4⟩
        have K4 := hide (K3.out.trans k4)
        clear h4 k4
        obtain ⟨y1, y2⟩ := HY.out (Or.inl hop.out)
        rw [y1, y2]
        clear y1 y2
        go_wp2_with fail
        go_ret
        exact ⟨rfl, B1.out.trans (K4.out.mono B1.out.size)⟩
      · have hop : opn c 1 e = false := by simp [opn, inr_, e0, ec]
        have hbo := hbo.out
        go_wp2_with fail
        refine (event_B HP.out K3.out.size 1 e N d hNb.2 hdb ra rn rc).mono ?_
        rintro x w4 ⟨rfl, h4, k4⟩
        have K4 := hide (K3.out.trans k4)
        obtain ⟨y1, y2, y3⟩ := HNO.out hop hbo
        rw [y3] at h4
        rw [y1]
        have H4 := hide h4
        obtain ⟨g, hg⟩ : ∃ g, g = evC (newP c s 8) 1 e N d := ⟨_, rfl⟩
        rw [← hg] at y2 ⊢
        have y4 : (g == 0) = false := by simp [y2]
        have y5 : (g != 0) = true := by simp [y2]
        clear h4 k4 y1 y3 q0 q1 q2 q3 q4 hg
        go_wp2_with fail
        go_loopw [13] (fun i wr => ∃ j : Nat, j ≤ n ∧ i = .int .i64 j ∧ Hid (PB w1.heap.size wr b (newP c s 8)) ∧ Hid (Below w1.heap.size w1 wr)) (fun i _ => n - (Go.RowKit.intOf i).toNat)
        case atStart => exact ⟨0, Nat.zero_le _, rfl, H4, K4⟩
        case round =>
          obtain ⟨j, hj, rfl, HJ, KJ⟩ := hrel
          by_cases hlt : j < n
          · obtain ⟨s1, s2, s3⟩ := idle_st c s 8 j
            have HS1 := hide s1
            have HS2 := hide s2
            have HS3 := hide s3
            clear s1 s2 s3
            go_wp2_with fail
            refine (state_B HJ.out j).mono ?_
            rintro x v1 ⟨rfl, m1⟩
            have J1 := hide (HJ.out.below m1)
            have L1 := hide (KJ.out.trans (m1.mono KJ.out.size))
            clear m1
            rw [HS1.out]
            go_wp2_with fail
            refine (waiting_B J1.out j).mono ?_
            rintro x v2 ⟨rfl, m2⟩
            have J2 := hide (J1.out.below m2)
            have L2 := hide (L1.out.trans (m2.mono L1.out.size))
            clear m2
            rw [HS2.out]
            go_wp2_with fail
            refine (room_B J2.out j).mono ?_
            rintro x v3 ⟨rfl, m3⟩
            have J3 := hide (J2.out.below m3)
            have L3 := hide (L2.out.trans (m3.mono L2.out.size))
            clear m3
            rw [HS3.out]
            go_wp2_with fail
            go_roundw
            case rel => exact ⟨j + 1, by omega, by go_num, J3.out, L3.out⟩
            case measure => simp [Go.RowKit.intOf]; omega
          · go_wp2_with fail
            refine (accept_B HJ.out KJ.out.size).mono ?_
            rintro x v1 ⟨rfl, h1, m1⟩
            obtain ⟨a1, a2, a3⟩ := idle_acc c s 8
            rw [a3] at h1
            rw [a1, a2]
            have J1 := hide h1
            have L1 := hide (KJ.out.trans m1)
            clear h1 m1 a1 a2 a3
            go_wp2_with fail
            refine (gram_none J1.out rfl).mono ?_
            rintro x v2 ⟨rfl, rfl⟩
            go_wp2_with fail
            refine (outs_B J1.out L1.out.size).mono ?_
            rintro x v2 ⟨a, cc, rfl, ho, h2, m2⟩
            have J2 : Hid (PB w1.heap.size v2 b (newP c s 8)) := h2
            have L2 := hide (L1.out.trans m2)
            rw [show (newP c s 8).ou.length = 0 from rfl]
            clear ho h2 m2
            go_wp2_with fail
            refine (used_B J2.out).mono ?_
            rintro x v3 ⟨rfl, m3⟩
            have L3 := hide (L2.out.trans (m3.mono L2.out.size))
            rw [idle_used]
            clear m3
            go_wp2_with fail
            go_ret
            exact ⟨rfl, B1.out.trans (L3.out.mono B1.out.size)⟩
    · have hop : opn c 1 e = false := by simp [opn, inr_, e0]
      have hbo := hbo.out
      go_wp2_with fail
      refine (event_B HP.out K3.out.size 1 e N d hNb.2 hdb ra rn rc).mono ?_
      rintro x w4 ⟨rfl, h4, k4⟩
      have K4 := hide (K3.out.trans k4)
      obtain ⟨y1, y2, y3⟩ := HNO.out hop hbo
      rw [y3] at h4
      rw [y1]
      have H4 := hide h4
      obtain ⟨g, hg⟩ : ∃ g, g = evC (newP c s 8) 1 e N d := ⟨_, rfl⟩
      rw [← hg] at y2 ⊢
      have y4 : (g == 0) = false := by simp [y2]
      have y5 : (g != 0) = true := by simp [y2]
      clear h4 k4 y1 y3 q0 q1 q2 q3 q4 hg
      go_wp2_with fail
      go_loopw [13] (fun i wr => ∃ j : Nat, j ≤ n ∧ i = .int .i64 j ∧ Hid (PB w1.heap.size wr b (newP c s 8)) ∧ Hid (Below w1.heap.size w1 wr)) (fun i _ => n - (Go.RowKit.intOf i).toNat)
      case atStart => exact ⟨0, Nat.zero_le _, rfl, H4, K4⟩
      case round =>
        obtain ⟨j, hj, rfl, HJ, KJ⟩ := hrel
        by_cases hlt : j < n
        · obtain ⟨s1, s2, s3⟩ := idle_st c s 8 j
          have HS1 := hide s1
          have HS2 := hide s2
          have HS3 := hide s3
          clear s1 s2 s3
          go_wp2_with fail
          refine (state_B HJ.out j).mono ?_
          rintro x v1 ⟨rfl, m1⟩
          have J1 := hide (HJ.out.below m1)
          have L1 := hide (KJ.out.trans (m1.mono KJ.out.size))
          clear m1
          rw [HS1.out]
          go_wp2_with fail
          refine (waiting_B J1.out j).mono ?_
          rintro x v2 ⟨rfl, m2⟩
          have J2 := hide (J1.out.below m2)
          have L2 := hide (L1.out.trans (m2.mono L1.out.size))
          clear m2
          rw [HS2.out]
          go_wp2_with fail
          refine (room_B J2.out j).mono ?_
          rintro x v3 ⟨rfl, m3⟩
          have J3 := hide (J2.out.below m3)
          have L3 := hide (L2.out.trans (m3.mono L2.out.size))
          clear m3
          rw [HS3.out]
          go_wp2_with fail
          go_roundw
          case rel => exact ⟨j + 1, by omega, by go_num, J3.out, L3.out⟩
          case measure => simp [Go.RowKit.intOf]; omega
        · go_wp2_with fail
          refine (accept_B HJ.out KJ.out.size).mono ?_
          rintro x v1 ⟨rfl, h1, m1⟩
          obtain ⟨a1, a2, a3⟩ := idle_acc c s 8
          rw [a3] at h1
          rw [a1, a2]
          have J1 := hide h1
          have L1 := hide (KJ.out.trans m1)
          clear h1 m1 a1 a2 a3
          go_wp2_with fail
          refine (gram_none J1.out rfl).mono ?_
          rintro x v2 ⟨rfl, rfl⟩
          go_wp2_with fail
          refine (outs_B J1.out L1.out.size).mono ?_
          rintro x v2 ⟨a, cc, rfl, ho, h2, m2⟩
          have J2 : Hid (PB w1.heap.size v2 b (newP c s 8)) := h2
          have L2 := hide (L1.out.trans m2)
          rw [show (newP c s 8).ou.length = 0 from rfl]
          clear ho h2 m2
          go_wp2_with fail
          refine (used_B J2.out).mono ?_
          rintro x v3 ⟨rfl, m3⟩
          have L3 := hide (L2.out.trans (m3.mono L2.out.size))
          rw [idle_used]
          clear m3
          go_wp2_with fail
          go_ret
          exact ⟨rfl, B1.out.trans (L3.out.mono B1.out.size)⟩
  · have hop : Hid (opn c k e = false) := by show _ = _; simp [opn, k1]
    by_cases k8 : k = 8
    · subst k8
      by_cases en : e = (n : Int)
      · have en2 : (e == (n : Int)) = true := by simp [en]
        by_cases d5 : d.size ≤ 512
        · have hbo : Hid (bxx n 8 e d = true) := by show _ = _; simp [bxx, en, d5]
          have HEN := hide en
          clear en
          go_wp2_with fail
          refine (event_B HP.out K3.out.size 8 e N d hNb.2 hdb ra rn rc).mono ?_
          rintro x w4 ⟨rfl, h4, k4⟩
          have K4 := hide (K3.out.trans k4)
          clear h4 k4
          obtain ⟨y1, y2⟩ := HY.out (Or.inr hbo.out)
          rw [y1, y2]
          clear y1 y2
          go_wp2_with fail
          go_ret
          exact ⟨rfl, B1.out.trans (K4.out.mono B1.out.size)⟩
        · have hbo := hide ((by simp [bxx, en, d5]; try omega) : bxx n 8 e d = false)
          have HEN := hide en
          clear en
          have hop := hop.out
          have hbo := hbo.out
          go_wp2_with fail
          refine (event_B HP.out K3.out.size 8 e N d hNb.2 hdb ra rn rc).mono ?_
          rintro x w4 ⟨rfl, h4, k4⟩
          have K4 := hide (K3.out.trans k4)
          obtain ⟨y1, y2, y3⟩ := HNO.out hop hbo
          rw [y3] at h4
          rw [y1]
          have H4 := hide h4
          obtain ⟨g, hg⟩ : ∃ g, g = evC (newP c s 8) 8 e N d := ⟨_, rfl⟩
          rw [← hg] at y2 ⊢
          have y4 : (g == 0) = false := by simp [y2]
          have y5 : (g != 0) = true := by simp [y2]
          clear h4 k4 y1 y3 q0 q1 q2 q3 q4 hg
          go_wp2_with fail
          go_loopw [13] (fun i wr => ∃ j : Nat, j ≤ n ∧ i = .int .i64 j ∧ Hid (PB w1.heap.size wr b (newP c s 8)) ∧ Hid (Below w1.heap.size w1 wr)) (fun i _ => n - (Go.RowKit.intOf i).toNat)
          case atStart => exact ⟨0, Nat.zero_le _, rfl, H4, K4⟩
          case round =>
            obtain ⟨j, hj, rfl, HJ, KJ⟩ := hrel
            by_cases hlt : j < n
            · obtain ⟨s1, s2, s3⟩ := idle_st c s 8 j
              have HS1 := hide s1
              have HS2 := hide s2
              have HS3 := hide s3
              clear s1 s2 s3
              go_wp2_with fail
              refine (state_B HJ.out j).mono ?_
              rintro x v1 ⟨rfl, m1⟩
              have J1 := hide (HJ.out.below m1)
              have L1 := hide (KJ.out.trans (m1.mono KJ.out.size))
              clear m1
              rw [HS1.out]
              go_wp2_with fail
              refine (waiting_B J1.out j).mono ?_
              rintro x v2 ⟨rfl, m2⟩
              have J2 := hide (J1.out.below m2)
              have L2 := hide (L1.out.trans (m2.mono L1.out.size))
              clear m2
              rw [HS2.out]
              go_wp2_with fail
              refine (room_B J2.out j).mono ?_
              rintro x v3 ⟨rfl, m3⟩
              have J3 := hide (J2.out.below m3)
              have L3 := hide (L2.out.trans (m3.mono L2.out.size))
              clear m3
              rw [HS3.out]
              go_wp2_with fail
              go_roundw
              case rel => exact ⟨j + 1, by omega, by go_num, J3.out, L3.out⟩
              case measure => simp [Go.RowKit.intOf]; omega
            · go_wp2_with fail
              refine (accept_B HJ.out KJ.out.size).mono ?_
              rintro x v1 ⟨rfl, h1, m1⟩
              obtain ⟨a1, a2, a3⟩ := idle_acc c s 8
              rw [a3] at h1
              rw [a1, a2]
              have J1 := hide h1
              have L1 := hide (KJ.out.trans m1)
              clear h1 m1 a1 a2 a3
              go_wp2_with fail
              refine (gram_none J1.out rfl).mono ?_
              rintro x v2 ⟨rfl, rfl⟩
              go_wp2_with fail
              refine (outs_B J1.out L1.out.size).mono ?_
              rintro x v2 ⟨a, cc, rfl, ho, h2, m2⟩
              have J2 : Hid (PB w1.heap.size v2 b (newP c s 8)) := h2
              have L2 := hide (L1.out.trans m2)
              rw [show (newP c s 8).ou.length = 0 from rfl]
              clear ho h2 m2
              go_wp2_with fail
              refine (used_B J2.out).mono ?_
              rintro x v3 ⟨rfl, m3⟩
              have L3 := hide (L2.out.trans (m3.mono L2.out.size))
              rw [idle_used]
              clear m3
              go_wp2_with fail
              go_ret
              exact ⟨rfl, B1.out.trans (L3.out.mono B1.out.size)⟩
      · have en2 : (e == (n : Int)) = false := by simp [en]
        have hop := hop.out
        have hbo : bxx n 8 e d = false := by simp [bxx, en]
        go_wp2_with fail
        refine (event_B HP.out K3.out.size 8 e N d hNb.2 hdb ra rn rc).mono ?_
        rintro x w4 ⟨rfl, h4, k4⟩
        have K4 := hide (K3.out.trans k4)
        obtain ⟨y1, y2, y3⟩ := HNO.out hop hbo
        rw [y3] at h4
        rw [y1]
        have H4 := hide h4
        obtain ⟨g, hg⟩ : ∃ g, g = evC (newP c s 8) 8 e N d := ⟨_, rfl⟩
        rw [← hg] at y2 ⊢
        have y4 : (g == 0) = false := by simp [y2]
        have y5 : (g != 0) = true := by simp [y2]
        clear h4 k4 y1 y3 q0 q1 q2 q3 q4 hg
        go_wp2_with fail
        go_loopw [13] (fun i wr => ∃ j : Nat, j ≤ n ∧ i = .int .i64 j ∧ Hid (PB w1.heap.size wr b (newP c s 8)) ∧ Hid (Below w1.heap.size w1 wr)) (fun i _ => n - (Go.RowKit.intOf i).toNat)
        case atStart => exact ⟨0, Nat.zero_le _, rfl, H4, K4⟩
        case round =>
          obtain ⟨j, hj, rfl, HJ, KJ⟩ := hrel
          by_cases hlt : j < n
          · obtain ⟨s1, s2, s3⟩ := idle_st c s 8 j
            have HS1 := hide s1
            have HS2 := hide s2
            have HS3 := hide s3
            clear s1 s2 s3
            go_wp2_with fail
            refine (state_B HJ.out j).mono ?_
            rintro x v1 ⟨rfl, m1⟩
            have J1 := hide (HJ.out.below m1)
            have L1 := hide (KJ.out.trans (m1.mono KJ.out.size))
            clear m1
            rw [HS1.out]
            go_wp2_with fail
            refine (waiting_B J1.out j).mono ?_
            rintro x v2 ⟨rfl, m2⟩
            have J2 := hide (J1.out.below m2)
            have L2 := hide (L1.out.trans (m2.mono L1.out.size))
            clear m2
            rw [HS2.out]
            go_wp2_with fail
            refine (room_B J2.out j).mono ?_
            rintro x v3 ⟨rfl, m3⟩
            have J3 := hide (J2.out.below m3)
            have L3 := hide (L2.out.trans (m3.mono L2.out.size))
            clear m3
            rw [HS3.out]
            go_wp2_with fail
            go_roundw
            case rel => exact ⟨j + 1, by omega, by go_num, J3.out, L3.out⟩
            case measure => simp [Go.RowKit.intOf]; omega
          · go_wp2_with fail
            refine (accept_B HJ.out KJ.out.size).mono ?_
            rintro x v1 ⟨rfl, h1, m1⟩
            obtain ⟨a1, a2, a3⟩ := idle_acc c s 8
            rw [a3] at h1
            rw [a1, a2]
            have J1 := hide h1
            have L1 := hide (KJ.out.trans m1)
            clear h1 m1 a1 a2 a3
            go_wp2_with fail
            refine (gram_none J1.out rfl).mono ?_
            rintro x v2 ⟨rfl, rfl⟩
            go_wp2_with fail
            refine (outs_B J1.out L1.out.size).mono ?_
            rintro x v2 ⟨a, cc, rfl, ho, h2, m2⟩
            have J2 : Hid (PB w1.heap.size v2 b (newP c s 8)) := h2
            have L2 := hide (L1.out.trans m2)
            rw [show (newP c s 8).ou.length = 0 from rfl]
            clear ho h2 m2
            go_wp2_with fail
            refine (used_B J2.out).mono ?_
            rintro x v3 ⟨rfl, m3⟩
            have L3 := hide (L2.out.trans (m3.mono L2.out.size))
            rw [idle_used]
            clear m3
            go_wp2_with fail
            go_ret
            exact ⟨rfl, B1.out.trans (L3.out.mono B1.out.size)⟩
    · have hop := hop.out
      have hbo : bxx n k e d = false := by simp [bxx, k8]
      go_wp2_with fail
      refine (event_B HP.out K3.out.size k e N d hNb.2 hdb ra rn rc).mono ?_
      rintro x w4 ⟨rfl, h4, k4⟩
      have K4 := hide (K3.out.trans k4)
      obtain ⟨y1, y2, y3⟩ := HNO.out hop hbo
      rw [y3] at h4
      rw [y1]
      have H4 := hide h4
      obtain ⟨g, hg⟩ : ∃ g, g = evC (newP c s 8) k e N d := ⟨_, rfl⟩
      rw [← hg] at y2 ⊢
      have y4 : (g == 0) = false := by simp [y2]
      have y5 : (g != 0) = true := by simp [y2]
      clear h4 k4 y1 y3 q0 q1 q2 q3 q4 hg
      go_wp2_with fail
      go_loopw [13] (fun i wr => ∃ j : Nat, j ≤ n ∧ i = .int .i64 j ∧ Hid (PB w1.heap.size wr b (newP c s 8)) ∧ Hid (Below w1.heap.size w1 wr)) (fun i _ => n - (Go.RowKit.intOf i).toNat)
      case atStart => exact ⟨0, Nat.zero_le _, rfl, H4, K4⟩
      case round =>
        obtain ⟨j, hj, rfl, HJ, KJ⟩ := hrel
        by_cases hlt : j < n
        · obtain ⟨s1, s2, s3⟩ := idle_st c s 8 j
          have HS1 := hide s1
          have HS2 := hide s2
          have HS3 := hide s3
          clear s1 s2 s3
          go_wp2_with fail
          refine (state_B HJ.out j).mono ?_
          rintro x v1 ⟨rfl, m1⟩
          have J1 := hide (HJ.out.below m1)
          have L1 := hide (KJ.out.trans (m1.mono KJ.out.size))
          clear m1
          rw [HS1.out]
          go_wp2_with fail
          refine (waiting_B J1.out j).mono ?_
          rintro x v2 ⟨rfl, m2⟩
          have J2 := hide (J1.out.below m2)
          have L2 := hide (L1.out.trans (m2.mono L1.out.size))
          clear m2
          rw [HS2.out]
          go_wp2_with fail
          refine (room_B J2.out j).mono ?_
          rintro x v3 ⟨rfl, m3⟩
          have J3 := hide (J2.out.below m3)
          have L3 := hide (L2.out.trans (m3.mono L2.out.size))
          clear m3
          rw [HS3.out]
          go_wp2_with fail
          go_roundw
          case rel => exact ⟨j + 1, by omega, by go_num, J3.out, L3.out⟩
          case measure => simp [Go.RowKit.intOf]; omega
        · go_wp2_with fail
          refine (accept_B HJ.out KJ.out.size).mono ?_
          rintro x v1 ⟨rfl, h1, m1⟩
          obtain ⟨a1, a2, a3⟩ := idle_acc c s 8
          rw [a3] at h1
          rw [a1, a2]
          have J1 := hide h1
          have L1 := hide (KJ.out.trans m1)
          clear h1 m1 a1 a2 a3
          go_wp2_with fail
          refine (gram_none J1.out rfl).mono ?_
          rintro x v2 ⟨rfl, rfl⟩
          go_wp2_with fail
          refine (outs_B J1.out L1.out.size).mono ?_
          rintro x v2 ⟨a, cc, rfl, ho, h2, m2⟩
          have J2 : Hid (PB w1.heap.size v2 b (newP c s 8)) := h2
          have L2 := hide (L1.out.trans m2)
          rw [show (newP c s 8).ou.length = 0 from rfl]
          clear ho h2 m2
          go_wp2_with fail
          refine (used_B J2.out).mono ?_
          rintro x v3 ⟨rfl, m3⟩
          have L3 := hide (L2.out.trans (m3.mono L2.out.size))
          rw [idle_used]
          clear m3
          go_wp2_with fail
          go_ret
          exact ⟨rfl, B1.out.trans (L3.out.mono B1.out.size)⟩

end Go.Proofs.Ytjojhnkibgkleaa
