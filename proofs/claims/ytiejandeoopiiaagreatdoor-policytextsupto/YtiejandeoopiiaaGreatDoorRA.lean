/-
  Rules as they lie in memory, and the leaves of package policy: isPort, isOfNet, isNet, isRule; conditions as each theorem has them.
-/
import Derived.Test.YtiejandeoopiiaaGreatDoorPA
import Derived.Test.YtiejandeoopiiaaGreatDoorN
set_option linter.unusedSimpArgs false
set_option linter.unusedVariables false
namespace Go.Proofs.YtiejandeoopiiaaGreatDoor
open Go.RowKit

/-- A rule as it lies in memory. -/
def ruC (r : Ru) : List Value := [.bool r.al, .int .u8 (r.net.1 : Nat), .int .u8 (r.net.2.1 : Nat), .int .u8 (r.net.2.2.1 : Nat), .int .u8 (r.net.2.2.2 : Nat), .int .i64 r.bits, .string r.suf, .int .i64 r.lw, .int .i64 r.hg]
def ruV (r : Ru) : Value := .agg #[.bool r.al, .int .u8 (r.net.1 : Nat), .int .u8 (r.net.2.1 : Nat), .int .u8 (r.net.2.2.1 : Nat), .int .u8 (r.net.2.2.2 : Nat), .int .i64 r.bits, .string r.suf, .int .i64 r.lw, .int .i64 r.hg]
def in64 (n : Int) : Prop := -9223372036854775808 ≤ n ∧ n ≤ 9223372036854775807
/-- Its parts are of their types. -/
structure Ru.ok (r : Ru) : Prop where
  net : r.net.ok
  suf : r.suf.size ≤ maxLen
  bits : in64 r.bits
  lw : in64 r.lw
  hg : in64 r.hg

theorem pIsPort_at (n : Int) (w : World) (b : Bool) (hb : b = (decide (1 ≤ n) && decide (n ≤ 65535))) : Calls Tryz.prog 24 #[.int .i64 n] w fun e w' => e = .returned (.bool b) ∧ w = w' := by
  have HB := hide hb
  clear hb
  by_cases h1 : 1 ≤ n
  · by_cases h2 : n ≤ 65535
    · have HR : Hid (b = true) := by show _ = _; rw [HB.out]; simp [h1, h2]
      go_enter Tryz.func24, Tryz.ntmps24
      go_wp2
      go_ret
      rw [HR.out]
      exact ⟨rfl, rfl⟩
    · have HR : Hid (b = false) := by show _ = _; rw [HB.out]; simp [h1, h2]
      go_enter Tryz.func24, Tryz.ntmps24
      go_wp2
      go_ret
      rw [HR.out]
      exact ⟨rfl, rfl⟩
  · have HR : Hid (b = false) := by show _ = _; rw [HB.out]; simp [h1]
    go_enter Tryz.func24, Tryz.ntmps24
    go_wp2
    go_ret
    rw [HR.out]
    exact ⟨rfl, rfl⟩

theorem isOfNet_at (r : Ru) (w : World) : Calls Tryz.prog 39 #[ruV r] w fun e w' => e = .returned (.bool (decide (byt r.suf = []))) ∧ Below w.heap.size w w' := by
  obtain ⟨al, ⟨a0, a1, a2, a3⟩, bt, sf, lw, hg⟩ := r
  simp only [ruV]
  rw [← isEmpty_byt]
  obtain ⟨E, hE⟩ : ∃ E, E = sf.toList.isEmpty := ⟨_, rfl⟩
  have HE := hide hE
  clear hE
  rw [← HE.out]
  go_enter Tryz.func39, Tryz.ntmps39
  go_wp2
  go_ret
  refine ⟨?_, (Below.refl _ _).alloc (Nat.le_refl _) _⟩
  rw [HE.out]
  first | rfl | simp
theorem shl_zero (A n : Nat) : (((A : Int) * 2 ^ n % 4294967296) == 0) = decide (A * 2 ^ n % 4294967296 = 0) := by
  have e : (A : Int) * 2 ^ n % 4294967296 = ((A * 2 ^ n % 4294967296 : Nat) : Int) := by
    rw [Int.natCast_emod, Int.natCast_mul, Int.natCast_pow]; rfl
  rw [e]
  generalize A * 2 ^ n % 4294967296 = x
  by_cases h : x = 0
  · rw [h]; rfl
  · rw [decide_eq_false h]
    simp only [beq_eq_false_iff_ne, ne_eq]
    omega
set_option maxHeartbeats 1000000 in
theorem isNet_at (a : Ad) (k : Int) (w : World) (ha : a.ok) : Calls Tryz.prog 40 #[adV a, .int .i64 k] w fun e w' => e = .returned (.bool (decide (0 ≤ k) && decide (k ≤ 32) && decide (wd a * 2 ^ k.toNat % 4294967296 = 0))) ∧ Below w.heap.size w w' := by
  obtain ⟨a0, a1, a2, a3⟩ := a
  simp only [adV]
  by_cases h1 : k < 0
  · have HR : Hid ((decide (0 ≤ k) && decide (k ≤ 32) && decide (wd (a0, a1, a2, a3) * 2 ^ k.toNat % 4294967296 = 0)) = false) := by simp [Hid]; omega
    rw [HR.out]
    clear ha
    go_enter Tryz.func40, Tryz.ntmps40
    go_wp2_with fail
    go_ret
    exact ⟨rfl, (Below.refl _ _).alloc (Nat.le_refl _) _⟩
  by_cases h2 : 32 < k
  · have HR : Hid ((decide (0 ≤ k) && decide (k ≤ 32) && decide (wd (a0, a1, a2, a3) * 2 ^ k.toNat % 4294967296 = 0)) = false) := by simp [Hid]; omega
    rw [HR.out]
    clear ha
    go_enter Tryz.func40, Tryz.ntmps40
    go_wp2_with fail
    go_ret
    exact ⟨rfl, (Below.refl _ _).alloc (Nat.le_refl _) _⟩
  obtain ⟨n, rfl⟩ : ∃ n : Nat, k = n := ⟨k.toNat, by omega⟩
  have hn : n ≤ 32 := by omega
  have HR : Hid ((decide (0 ≤ (n : Int)) && decide ((n : Int) ≤ 32) && decide (wd (a0, a1, a2, a3) * 2 ^ ((n : Int)).toNat % 4294967296 = 0)) = decide (wd (a0, a1, a2, a3) * 2 ^ n % 4294967296 = 0)) := by
    simp [Hid]; omega
  rw [HR.out]
  obtain ⟨h0, h1', h2', h3⟩ := ha
  simp only at h0 h1' h2' h3
  have HW := hide (word_int a0 a1 a2 a3 h0 h1' h2' h3)
  have HS := hide (shl_zero (wd (a0, a1, a2, a3)) n)
  clear HR h1 h2
  go_enter Tryz.func40, Tryz.ntmps40
  go_wp2
  go_ret
  refine ⟨?_, (Below.refl _ _).alloc (Nat.le_refl _) _⟩
  rw [← HS.out]
  have hw := HW.out
  rw [wd]
  simp only [] at hw ⊢
  rw [← hw]
  rfl
theorem infoRu : (Tryz.prog.info? 37).map (·.size) = some 9 := by kernel_rfl
theorem right_false {r : Ru} (h : ¬ (1 ≤ r.lw ∧ r.hg ≤ 65535 ∧ r.lw ≤ r.hg)) : r.right = false := by
  unfold Ru.right
  by_cases h1 : 1 ≤ r.lw
  · by_cases h2 : r.hg ≤ 65535
    · by_cases h3 : r.lw ≤ r.hg
      · exact absurd ⟨h1, h2, h3⟩ h
      · simp [h3]
    · simp [h2]
  · simp [h1]
theorem right_of {r : Ru} (h1 : 1 ≤ r.lw) (h2 : r.hg ≤ 65535) (h3 : r.lw ≤ r.hg) : r.right = (if byt r.suf = [] then decide (0 ≤ r.bits) && decide (r.bits ≤ 32) && decide (wd r.net * 2 ^ r.bits.toNat % 4294967296 = 0) else decide (r.bits = 0) && chk r.net (byt r.suf)) := by
  unfold Ru.right
  rw [decide_eq_true h1, decide_eq_true h2, decide_eq_true h3]
  rfl
set_option maxRecDepth 100000 in
set_option maxHeartbeats 2000000 in
theorem isRule_at (r : Ru) (w : World) (hr : r.ok) (hV : Vars w) : Calls Tryz.prog 21 #[ruV r] w fun e w' => e = .returned (.bool r.right) ∧ Below w.heap.size w w' := by
  obtain ⟨R, hR⟩ : ∃ R, R = r.right := ⟨_, rfl⟩
  rw [← hR]
  have HR := hide hR
  have HOF := hide (fun W => isOfNet_at r W)
  obtain ⟨al, ⟨a0, a1, a2, a3⟩, bt, sf, lw, hg⟩ := r
  have HNE := hide (fun W => isNet_at (a0, a1, a2, a3) bt W hr.net)
  have HCK := hide (fun W hv => check_at (a0, a1, a2, a3) sf W hr.suf hv)
  simp only [ruV, adV, hoV] at HOF HNE HCK ⊢
  obtain ⟨w0, hw0⟩ : ∃ w0, w0 = w.alloc (.cells #[.bool al, .int .u8 (a0 : Nat), .int .u8 (a1 : Nat), .int .u8 (a2 : Nat), .int .u8 (a3 : Nat), .int .i64 bt, .string sf, .int .i64 lw, .int .i64 hg] 37) := ⟨_, rfl⟩
  have B0 : Hid (Below w.heap.size w w0) := by rw [hw0]; exact (Below.refl _ _).alloc (Nat.le_refl _) _
  have HV : Hid (Vars w0) := hV.below B0.out
  have r0 : Hid (w0.heap[w.heap.size]? = some (.cells #[.bool al, .int .u8 (a0 : Nat), .int .u8 (a1 : Nat), .int .u8 (a2 : Nat), .int .u8 (a3 : Nat), .int .i64 bt, .string sf, .int .i64 lw, .int .i64 hg] 37)) := by rw [hw0]; exact alloc_new _ _
  have HW0 := hide hw0
  clear hw0 hR hV hr
  obtain ⟨D1, hD1⟩ : ∃ D1, D1 = (decide (1 ≤ lw) && decide (lw ≤ 65535)) := ⟨_, rfl⟩
  obtain ⟨D2, hD2⟩ : ∃ D2, D2 = (decide (1 ≤ hg) && decide (hg ≤ 65535)) := ⟨_, rfl⟩
  have P1 := hide (fun W => pIsPort_at lw W D1 hD1)
  have P2 := hide (fun W => pIsPort_at hg W D2 hD2)
  have HD1 := hide hD1
  have HD2 := hide hD2
  clear hD1 hD2
  go_enter Tryz.func21, Tryz.ntmps21
  go_wp2_with fail
  rw [← HW0.out]
  have s0 := r0.out
  have c0 : w0.cell? ⟨w.heap.size, 7, none⟩ = some (.int .i64 lw) := by simp [World.cell?, s0]
  have c1 : w0.cell? ⟨w.heap.size, 8, none⟩ = some (.int .i64 hg) := by simp [World.cell?, s0]
  have c2 : w0.cell? ⟨w.heap.size, 5, none⟩ = some (.int .i64 bt) := by simp [World.cell?, s0]
  refine (P1.out _).mono ?_
  rintro e w' ⟨rfl, rfl⟩
  cases D1
  · have HX : Hid (R = false) := by
      show _ = _
      rw [HR.out]
      have := HD1.out
      simp at this
      exact right_false (by simp only; omega)
    go_wp2_with fail
    go_ret
    rw [HX.out]
    exact ⟨rfl, B0.out⟩
  go_wp2_with fail
  refine (P2.out _).mono ?_
  rintro e w' ⟨rfl, rfl⟩
  cases D2
  · have HX : Hid (R = false) := by
      show _ = _
      rw [HR.out]
      have := HD2.out
      have := HD1.out
      simp at *
      exact right_false (by simp only; omega)
    go_wp2_with fail
    go_ret
    rw [HX.out]
    exact ⟨rfl, B0.out⟩
  have d1 := HD1.out
  have d2 := HD2.out
  simp only [Bool.true_eq, Bool.and_eq_true, decide_eq_true_eq] at d1 d2
  by_cases hlh : hg < lw
  · have HX : Hid (R = false) := by
      show _ = _
      rw [HR.out]
      exact right_false (by simp only; omega)
    clear d1 d2
    go_wp2_with fail
    go_ret
    rw [HX.out]
    exact ⟨rfl, B0.out⟩
  have HX : Hid (R = (if byt sf = [] then decide (0 ≤ bt) && decide (bt ≤ 32) && decide (wd (a0, a1, a2, a3) * 2 ^ bt.toNat % 4294967296 = 0) else decide (bt = 0) && chk (a0, a1, a2, a3) (byt sf))) := by
    show _ = _
    rw [HR.out]
    exact right_of d1.1 d2.2 (by simp only; omega)
  clear d1 d2
  have i1 : w0.cell? ⟨w.heap.size, 1, none⟩ = some (.int .u8 (a0 : Nat)) := by simp [World.cell?, s0]
  go_wp2_with (first | (refine wpList_load_row rfl 37 _ rfl w.heap.size rfl 37 _ (0, 0) _ r0.out Tryz.underlying37 rfl infoRu ?_))
  refine (HOF.out _).mono ?_
  rintro e w1 ⟨rfl, hb1⟩
  have s1 := keepB hb1 s0
  have e1 : w1.cell? ⟨w.heap.size, 1, none⟩ = some (.int .u8 (a0 : Nat)) := by simp [World.cell?, s1]
  have e2 : w1.cell? ⟨w.heap.size, 2, none⟩ = some (.int .u8 (a1 : Nat)) := by simp [World.cell?, s1]
  have e3 : w1.cell? ⟨w.heap.size, 3, none⟩ = some (.int .u8 (a2 : Nat)) := by simp [World.cell?, s1]
  have e4 : w1.cell? ⟨w.heap.size, 4, none⟩ = some (.int .u8 (a3 : Nat)) := by simp [World.cell?, s1]
  have e5 : w1.cell? ⟨w.heap.size, 5, none⟩ = some (.int .i64 bt) := by simp [World.cell?, s1]
  have e6 : w1.cell? ⟨w.heap.size, 6, none⟩ = some (.string sf) := by simp [World.cell?, s1]
  have B1 := hide (B0.out.trans (hb1.mono B0.out.size))
  have HV1 := hide (HV.out.below hb1)
  clear hb1 s1 s0 c0 c1 c2 i1
  by_cases hs : byt sf = []
  · rw [if_pos hs] at HX
    rw [decide_eq_true hs]
    clear hs
    go_wp2_with fail
    refine (HNE.out _).mono ?_
    rintro e w2 ⟨rfl, hb2⟩
    go_wp2_with fail
    go_ret
    rw [HX.out]
    exact ⟨rfl, B1.out.trans (hb2.mono B1.out.size)⟩
  · rw [if_neg hs] at HX
    rw [decide_eq_false hs]
    clear hs
    by_cases hb : bt = 0
    · subst hb
      have HX' : Hid (R = chk (a0, a1, a2, a3) (byt sf)) := by show _ = _; rw [HX.out]; simp
      clear HX
      go_wp2_with fail
      refine (HCK.out _ HV1.out).mono ?_
      rintro e w2 ⟨rfl, hb2⟩
      go_wp2_with fail
      go_ret
      rw [HX'.out]
      exact ⟨by first | rfl | simp, B1.out.trans (hb2.mono B1.out.size)⟩
    · have HX' : Hid (R = false) := by show _ = _; rw [HX.out, decide_eq_false hb]; rfl
      have hq : (bt == 0) = false := by simp [hb]
      clear HX hb
      go_wp2_with fail
      go_ret
      rw [HX'.out]
      exact ⟨rfl, B1.out⟩

end Go.Proofs.YtiejandeoopiiaaGreatDoor
