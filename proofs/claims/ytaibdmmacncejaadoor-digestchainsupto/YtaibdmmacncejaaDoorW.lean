/-
  DigestSums' walk; conditions as each theorem has them.
-/
import Derived.Test.YtaibdmmacncejaaDoorV
import Derived.Test.YtaibdmmacncejaaDoorX
set_option linter.unusedSimpArgs false
set_option linter.unusedVariables false
namespace Go.Proofs.YtaibdmmacncejaaDoor
open Go.RowKit

theorem Src.same {w w' : World} {a : Option Addr} {len cap : Nat} {l : List Nat} (h : Src w a len cap l) (e : w'.heap = w.heap) : Src w' a len cap l := h.keep (fun _ _ _ _ => by rw [e]) (by rw [e]; exact Nat.le_refl _)
theorem Parts.below {w w' : World} {a : Option Addr} {n cap : Nat} {ps : List (List Nat)} (h : Parts w a n cap ps) (k : Below w.heap.size w w') : Parts w' a n cap ps := by
  refine ⟨h.hlen, h.hcap, h.hmax, h.nil, fun h0 => ?_⟩
  obtain ⟨b, o, e, hb, hc⟩ := h.lies h0
  refine ⟨b, o, e, Nat.lt_of_lt_of_le hb k.size, fun i hi => ?_⟩
  obtain ⟨ai, li, ci, e1, s1⟩ := hc i hi
  exact ⟨ai, li, ci, (k.cell (p := ⟨b, o + i, none⟩) hb).trans e1, s1.below k⟩
theorem Parts.drewN {w : World} {a : Option Addr} {n cap : Nat} {ps : List (List Nat)} (h : Parts w a n cap ps) (j : Nat) : Parts (w.drewN j) a n cap ps := by
  refine ⟨h.hlen, h.hcap, h.hmax, h.nil, fun h0 => ?_⟩
  obtain ⟨b, o, e, hb, hc⟩ := h.lies h0
  refine ⟨b, o, e, hb, fun i hi => ?_⟩
  obtain ⟨ai, li, ci, e1, s1⟩ := hc i hi
  exact ⟨ai, li, ci, e1, s1.same rfl⟩
theorem part_le (ps : List (List Nat)) (i : Nat) : (ps.getD i []).length ≤ ps.flatten.length := by
  by_cases h : i < ps.length
  · have := flat_le ps (i + 1)
    rw [take_flat ps i h, List.length_append] at this
    omega
  · rw [List.getD, List.getElem?_eq_none (by omega)]
    simp
theorem dig_byte (m : List Nat) : ∀ x ∈ dig m, x < 256 := by
  intro x hx
  obtain ⟨i, hi⟩ := List.getElem?_of_mem hx
  have hl : i < 32 := by rw [← dig_length m]; exact (List.getElem?_eq_some_iff.1 hi).1
  have := bytesOf_at (eat (full m) ((full m).length / 64)) i hl
  have e : (dig m).getD i 0 = x := by rw [List.getD, hi]; rfl
  have e2 : dig m = bytesOf (eat (full m) ((full m).length / 64)) := rfl
  rw [← e2, e] at this
  omega

set_option maxRecDepth 100000 in
set_option maxHeartbeats 4000000 in
theorem sums_walk (a : Option Addr) (n cap : Nat) (ps : List (List Nat)) (w : World) (hT : Tabs w) (hp : Parts w a n cap ps) (hn : n < 1000000000000) (hl : ps.flatten.length < 1000000000000) :
    Calls Tryd.prog 3 #[.slice a n cap] w fun e w' => e = .returned (.bool true) ∧ Below w.heap.size w w' := by
  have h2 := hT.size
  have hcm := hp.hmax
  have hnc := hp.hcap
  unfold maxLen at hcm
  have HT := hide hT
  have HP := hide hp
  have hgd := guard24
  have heq := fun w => run_eq24 (dig ps.flatten) (dig_length _) (dig_byte _) w
  have hsum := fun (W : World) (a' : Option Addr) (c' : Nat) (t : Tabs W) (h : Parts W a' n c' ps) => sum_at a' n c' ps W t h (by omega)
  have hrsum := fun (W : World) (h : Parts W a n cap ps) => rsum_at a n cap ps W h hl
  have hcop := copied_at a n cap ps w hp hn (fun i _ => by have := part_le ps i; omega)
  obtain ⟨V, hV⟩ : ∃ V, V = (nums .u8 (dig ps.flatten)).toArray := ⟨_, rfl⟩
  rw [← hV] at heq hsum hrsum
  have HSUM := hide hsum
  have HRSUM := hide hrsum
  have HCOP := hide hcop
  clear hT hp hsum hrsum hcop hV
  go_enter Tryd.func3, Tryd.ntmps3
  go_wp2_with fail
  refine HCOP.out.mono ?_
  rintro e w1 ⟨a3, c3, rfl, p1, b1⟩
  have P1 := hide p1
  have B1 := hide b1
  have s1 := b1.size
  have hc3 := p1.hcap
  have hm3 := p1.hmax
  unfold maxLen at hm3
  clear p1 b1
  go_wp2_with fail
  refine (HSUM.out _ _ _ (HT.out.below B1.out h2) P1.out).mono ?_
  rintro e w2 ⟨rfl, b2⟩
  have s2 := b2.size
  have P2 := hide (P1.out.below b2)
  have B2 : Hid (Below w.heap.size w w2) := B1.out.trans (b2.mono s1)
  clear b2 P1 B1
  go_wp2_with fail
  refine (HRSUM.out _ (HP.out.below B2.out)).mono ?_
  rintro e w3 ⟨rfl, b3⟩
  have s3 := b3.size
  have P3 := hide (P2.out.below b3)
  have B3 : Hid (Below w.heap.size w w3) := B2.out.trans (b3.mono (by omega))
  clear b3 P2 B2
  go_wp2_with fail
  go_loopw [4] (fun i wr => ∃ k : Nat, k ≤ n ∧ i = .int .i64 k ∧ Hid (Parts wr a3 n c3 ps ∧ Below w.heap.size w wr)) (fun i _ => n - (intOf i).toNat)
  case atStart => exact ⟨0, by omega, rfl, P3.out, B3.out⟩
  case round =>
    clear P3 B3
    obtain ⟨k, hk, rfl, HI⟩ := hrel
    obtain ⟨i1, i2⟩ := HI.out
    by_cases h1 : k < n
    · obtain ⟨b, o, rfl, hb, hc⟩ := (HP.out.below i2).lies (by omega)
      obtain ⟨ai, li, ci, ec, hsrc⟩ := hc k h1
      obtain ⟨b3, o3, rfl, hb3, hc3'⟩ := i1.lies (by omega)
      obtain ⟨aj, lj, cj, ec3, hsrc3⟩ := hc3' k h1
      have V1 : Hid (∀ w', w'.heap = wr.heap → Calls Tryd.prog 11 #[.slice aj lj cj, .slice ai li ci] w' fun e w'' => e = .returned (.bool true) ∧ w'' = w') := fun w' e => by
        refine (same_bytes w' aj ai lj cj li ci _ (hsrc3.same e) (hsrc.same e)).mono ?_
        rintro e' w'' ⟨h, h'⟩
        exact ⟨h, h'.symm⟩
      have I1 := hide i1
      have I2 := hide i2
      have hkI : (k : Int) < n := by omega
      clear hc hsrc hc3' hsrc3 HI i1 i2
      go_wp2_with fail
      go_quiet (first
        | (exact Calls.quiet_of_same (V1.out _ rfl)))
      go_wp2_with fail
      go_roundw
      case rel => exact ⟨k + 1, by omega, by go_num, I1.out.drewN _, I2.out.trans ((Kept.refl w.heap.size w.heap.size wr).drewN _ |>.below (Nat.le_refl _) (Nat.le_refl _) I2.out.size)⟩
      case measure => simp [intOf]; omega
    · have I2 := hide i2
      clear HI i1 i2
      go_wp2_with fail
      refine (works_at _ (HT.out.below I2.out h2)).mono ?_
      rintro e w5 ⟨rfl, b5⟩
      have B5 : Hid (Below w.heap.size w w5) := I2.out.trans (b5.mono I2.out.size)
      clear b5
      go_wp2_with fail
      go_ret
      exact ⟨rfl, B5.out⟩
end Go.Proofs.YtaibdmmacncejaaDoor
