/-
  Grow and Concat of package slices at rules; conditions as each theorem has them.
-/
import Derived.Test.YtiejandeoopiiaaGreatDoorRF
import Derived.Shelf.Spec.SlicesGrow
set_option linter.unusedSimpArgs false
set_option linter.unusedVariables false
namespace Go.Proofs.YtiejandeoopiiaaGreatDoor
open Go.RowKit
def Tryz.growR_ren : Go.Shelf.Ren := ⟨fun | 4 => 54 | n => n, fun | 22 => 22 | 25 => 37 | 3 => 3 | 4 => 4 | 9 => 9 | 20 => 20 | 0 => 0 | n => n, fun | n => n⟩
theorem Tryz.growR : Go.Proofs.Lays8.n4 Tryz.prog Tryz.growR_ren := {
  mixed := by kernel_rfl
  f4 := ⟨Tryz.f54.name, by decide, Tryz.func54.trans (congrArg some (by kernel_rfl))⟩
  t0 := Tryz.underlying0
  a0 := Tryz.isAgg0
  z0 := Tryz.sizeOf0
  v0 := Tryz.zeroValue0
  t3 := Tryz.underlying3
  a3 := Tryz.isAgg3
  z3 := Tryz.sizeOf3
  v3 := Tryz.zeroValue3
  t4 := Tryz.underlying4
  a4 := Tryz.isAgg4
  z4 := Tryz.sizeOf4
  v4 := Tryz.zeroValue4
  t9 := Tryz.underlying9
  a9 := Tryz.isAgg9
  z9 := Tryz.sizeOf9
  v9 := Tryz.zeroValue9
  t20 := Tryz.underlying20
  a20 := Tryz.isAgg20
  z20 := Tryz.sizeOf20
  v20 := Tryz.zeroValue20
  t22 := Tryz.underlying22
  a22 := Tryz.isAgg22
  z22 := Tryz.sizeOf22
  v22 := Tryz.zeroValue22 }
set_option maxRecDepth 100000 in
set_option maxHeartbeats 2000000 in
theorem grow_at (n : Nat) (w : World) (hn : n ≤ 128) : Calls Tryz.prog 54 #[.slice none 0 0, .int .i64 n] w fun e w' => ∃ v, e = .returned v ∧ OwnR w' w.heap.size v [] ∧ Below w.heap.size w w' := by
  by_cases h0 : n = 0
  · subst h0
    go_enter Tryz.func54, Tryz.ntmps54
    go_wp2_with fail
    go_ret
    exact ⟨_, rfl, OwnR.nil _ _, Below.refl _ _⟩
  obtain ⟨i, hi, hz, hsz, hby⟩ := infoRup
  have hg := Any8.slices_Grow_grow Tryz.growR i _ hi hz (by omega) none 0 0 n [] w (Nat.le_refl _) (by omega) (by rw [hby]; omega) (by omega) (by simp) (fun _ => rfl) (fun a e => by cases e)
  refine hg.mono ?_
  rintro e w' ⟨rfl, rfl⟩
  have h1 := grownCap_ge w (0 + n) 0 37
  have h2 := grownCap_le_maxLen w (0 + n) 0 37 (by unfold maxLen; omega)
  refine ⟨_, rfl, ⟨rfl, Or.inr ⟨w.heap.size, _, _, rfl, Nat.le_refl _, alloc_new w.drew _, Nat.zero_le _, h2, ?_, by simp [ruCs]⟩⟩, ?_⟩
  · show (#[] ++ Builtin.zeroCells _ (0 + n - 0) ++ Builtin.zeroCells _ (grownCap w (0 + n) 0 37 - (0 + n))).size = grownCap w (0 + n) 0 37 * 9
    rw [Array.size_append, Array.size_append, size_zeroCells, size_zeroCells]
    show 0 + (0 + n - 0) * 9 + (grownCap w (0 + n) 0 37 - (0 + n)) * 9 = _
    omega
  · exact (Below.refl w.heap.size w).drew.alloc (Nat.le_refl _) _
/-- A slice of rules that is handed in. -/
structure Sli where
  a : Option Addr
  n : Nat
  c : Nat
  l : List Ru
def noSl : Sli := ⟨none, 0, 0, []⟩
/-- Slices of rules side by side. -/
structure Lie (w : World) (g : Nat) (xs : List Sli) : Prop where
  lt : g < w.heap.size
  cell : ∀ i, i < xs.length → w.cell? ⟨g, i, none⟩ = some (.slice (xs.getD i noSl).a (xs.getD i noSl).n (xs.getD i noSl).c)
  src : ∀ i, i < xs.length → SrcR w (xs.getD i noSl).a (xs.getD i noSl).n (xs.getD i noSl).c (xs.getD i noSl).l
theorem Lie.keep {w w' : World} {g : Nat} {xs : List Sli} (h : Lie w g xs) {B : Nat} (k : Below w.heap.size w w') : Lie w' g xs :=
  ⟨by have := k.size; have := h.lt; omega, fun i hi => (k.cell (p := ⟨g, i, none⟩) h.lt).trans (h.cell i hi), fun i hi => (h.src i hi).below k⟩
def sumN : List Sli → Nat
  | [] => 0
  | x :: xs => x.n + sumN xs
theorem sumN_append (l m : List Sli) : sumN (l ++ m) = sumN l + sumN m := by
  induction l with
  | nil => simp [sumN]
  | cons x l ih => simp [sumN, ih]; omega
theorem sumN_take (l : List Sli) (k : Nat) : sumN (l.take k) ≤ sumN l := by
  conv => rhs; rw [← List.take_append_drop k l, sumN_append]
  omega
def allL (l : List Sli) : List Ru := l.flatMap (·.l)
theorem allL_len : ∀ (l : List Sli), (∀ x ∈ l, x.l.length = x.n) → (allL l).length = sumN l
  | [], _ => rfl
  | x :: l, h => by
    show (x.l ++ allL l).length = _
    rw [List.length_append, h x (by simp), allL_len l (fun y hy => h y (List.mem_cons_of_mem _ hy))]
    rfl
set_option maxRecDepth 100000 in
set_option maxHeartbeats 2000000 in
theorem concat_at (g N c : Nat) (xs : List Sli) (w : World) (hN : N = xs.length) (hNc : N ≤ c) (hc : c ≤ 1000) (h : Lie w g xs) (hs : sumN xs ≤ 128) : Calls Tryz.prog 38 #[.slice (some ⟨g, 0, none⟩) N c] w fun e w' => ∃ v, e = .returned v ∧ OwnR w' w.heap.size v (allL xs) ∧ Below w.heap.size w w' := by
  have H := hide h
  have HN := hide hN
  have HS := hide hs
  have HLN : Hid (∀ x ∈ xs, x.l.length = x.n) := fun x hx => by
    obtain ⟨i, hi, e⟩ := List.getElem_of_mem hx
    have := (h.src i hi).hlen
    rw [List.getD, List.getElem?_eq_getElem hi, Option.getD_some, e] at this
    exact this
  clear h hN hs
  go_enter Tryz.func38, Tryz.ntmps38
  go_wp2_with fail
  go_loopw [3, 11] (fun sz i wr => ∃ k S : Nat, k ≤ N ∧ i = .int .i64 k ∧ sz = .int .i64 S ∧ S ≤ 128 ∧ Hid (S = sumN (xs.take k) ∧ Below w.heap.size w wr)) (fun _ i _ => N - (intOf i).toNat)
  case atStart => exact ⟨0, 0, by omega, rfl, rfl, by omega, rfl, Below.refl _ _⟩
  case round =>
    obtain ⟨k, S, hk, rfl, rfl, hS, HJ⟩ := hrel
    by_cases hkn : k < N
    · have hd : decide ((k : Int) < (N : Int)) = true := decide_eq_true (by omega)
      have hkl : k < xs.length := by rw [← HN.out]; exact hkn
      have hc1 := (H.out.keep (B := 0) HJ.out.2).cell k hkl
      have hT : Hid (sumN (xs.take (k + 1)) = S + (xs.getD k noSl).n) := by
        show _ = _
        rw [take_getD (d := noSl) hkl, sumN_append, ← HJ.out.1]
        simp [sumN]
      have hle := sumN_take xs (k + 1)
      rw [hT.out] at hle
      have hS2 : S + (xs.getD k noSl).n ≤ 128 := Nat.le_trans hle HS.out
      obtain ⟨a1, ha1⟩ : ∃ a1, a1 = (xs.getD k noSl).a := ⟨_, rfl⟩
      obtain ⟨n1, hn1⟩ : ∃ n1, n1 = (xs.getD k noSl).n := ⟨_, rfl⟩
      obtain ⟨c1, hc1'⟩ : ∃ c1, c1 = (xs.getD k noSl).c := ⟨_, rfl⟩
      rw [← ha1, ← hn1, ← hc1'] at hc1
      rw [← hn1] at hT hS2
      clear ha1 hn1 hc1' hle hkl
      go_wp2_with fail
      go_roundw
      case rel => exact ⟨k + 1, S + n1, by omega, by go_num, by go_num, by omega, hT.out.symm, HJ.out.2⟩
      case measure => simp [intOf]; omega
    · have hd : decide ((k : Int) < (N : Int)) = false := decide_eq_false (by omega)
      have hkN : k = N := by omega
      go_wp2_with fail
      refine (grow_at S wr hS).mono ?_
      rintro e w1 ⟨v, rfl, hown, hb⟩
      have HB := hide (HJ.out.2.trans (hb.mono HJ.out.2.size))
      have HO : Hid (OwnR w1 w.heap.size v (allL (xs.take 0))) := by
        refine ⟨hown.1, ?_⟩
        rcases hown.2 with h0 | ⟨x, cap, cur, hv, hx, hrest⟩
        · exact Or.inl h0
        · exact Or.inr ⟨x, cap, cur, hv, by have := HJ.out.2.size; omega, hrest⟩
      clear hown hb
      go_wp2_with fail
      clear hd hkN hkn hk hS HJ
      go_loopw [6, 27] (fun nv i wr => ∃ k : Nat, k ≤ N ∧ i = .int .i64 k ∧ Hid (OwnR wr w.heap.size nv (allL (xs.take k)) ∧ Below w.heap.size w wr)) (fun _ i _ => N - (intOf i).toNat)
      case atStart => exact ⟨0, by omega, rfl, HO.out, HB.out⟩
      case round =>
        obtain ⟨k, hk, rfl, HJ⟩ := hrel
        by_cases hkn : k < N
        · have hd : decide ((k : Int) < (N : Int)) = true := decide_eq_true (by omega)
          have hkl : k < xs.length := by rw [← HN.out]; exact hkn
          have hL := H.out.keep (B := 0) HJ.out.2
          have hc1 := hL.cell k hkl
          have hsr := hL.src k hkl
          have hlen : (allL (xs.take k)).length + (xs.getD k noSl).n ≤ 128 := by
            have e := allL_len (xs.take k) (fun x hx => HLN.out x (List.mem_of_mem_take hx))
            have h2 := sumN_take xs (k + 1)
            rw [take_getD (d := noSl) hkl, sumN_append] at h2
            have h3 : sumN [xs.getD k noSl] = (xs.getD k noSl).n := by simp [sumN]
            have := HS.out
            omega
          obtain ⟨v', w', hrun, hown, hbel⟩ := run_appR HJ.out.1 hsr (by omega) (by have := HJ.out.2.size; omega)
          have HT : Hid (allL (xs.take (k + 1)) = allL (xs.take k) ++ (xs.getD k noSl).l) := by
            show _ = _
            rw [take_getD (d := noSl) hkl]
            simp [allL]
          rw [← HT.out] at hown
          have HO2 := hide hown
          have HB2 := hide (HJ.out.2.trans hbel)
          have HAP := hide hrun
          obtain ⟨a1, ha1⟩ : ∃ a1, a1 = (xs.getD k noSl).a := ⟨_, rfl⟩
          obtain ⟨n1, hn1⟩ : ∃ n1, n1 = (xs.getD k noSl).n := ⟨_, rfl⟩
          obtain ⟨c1, hc1'⟩ : ∃ c1, c1 = (xs.getD k noSl).c := ⟨_, rfl⟩
          rw [← ha1, ← hn1, ← hc1'] at hc1 HAP
          clear ha1 hn1 hc1' hkl hL hsr hlen hrun hown hbel HT
          go_wp2_with (refine wpList_app_run _ rfl _ _ 22 22 rfl _ _ rfl rfl HAP.out ?_)
          go_roundw
          case rel => exact ⟨k + 1, by omega, by go_num, HO2.out, HB2.out⟩
          case measure => simp [intOf]; omega
        · have hd : decide ((k : Int) < (N : Int)) = false := decide_eq_false (by omega)
          have HF : Hid (allL (xs.take k) = allL xs) := by show _ = _; rw [List.take_of_length_le (by rw [← HN.out]; omega)]
          go_wp2_with fail
          go_ret
          exact ⟨_, rfl, by rw [← HF.out]; exact HJ.out.1, HJ.out.2⟩

end Go.Proofs.YtiejandeoopiiaaGreatDoor
