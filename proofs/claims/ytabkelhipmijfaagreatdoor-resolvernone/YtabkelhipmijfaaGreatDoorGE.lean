/-
  slices.Delete over questions; conditions as each theorem has them.
-/
import Derived.Test.YtabkelhipmijfaaGreatDoorGA
import Derived.Laws.CopyRow
import Derived.Deep.RegionLaw
import Derived.Deep.DrawnRows
set_option linter.unusedSimpArgs false
set_option linter.unusedVariables false
namespace Go.Proofs.YtabkelhipmijfaaGreatDoor
open Go.RowKit

theorem undQ : Tryz.prog.underlying 72 = some (.slice 87) := by kernel_rfl
theorem infQ : ∃ i, Tryz.prog.info? 87 = some i ∧ i.zero = some (.agg (qC noQ).toArray) ∧ i.size = 4 ∧ i.bytes = 40 := info_parts (by kernel_rfl)
theorem run_gQ (ρ : Operand → Value) (dst : Option Tmp) (x y : Operand) (pos : String) (after : Array Edge) (guard : Option (Nat × Bool)) (w : World) (h : gOk Tryz.prog 72 (ρ x) (ρ y) w = true) :
    (execOp ρ { dst, op := .call { callee := .builtin .append, args := #[x, y], argTypes := #[72, 72] }, type := 72, pos, after, guard }).run Tryz.prog w = .ok (.value (gV Tryz.prog 72 (ρ x) (ρ y) w)) (gW Tryz.prog 72 (ρ x) (ρ y) w) := g_step 72 ρ dst x y pos after guard w h
theorem qCs_take (L : List Qn) (i : Nat) : (qCs L).take (i * 4) = qCs (L.take i) := by
  induction L generalizing i with
  | nil => simp [qCs]
  | cons x L ih =>
    cases i with
    | zero => simp [qCs]
    | succ i =>
      rw [qCs_cons, List.take_succ_cons, qCs_cons, show (i + 1) * 4 = (qC x).length + i * 4 by rw [qC_len]; omega, List.take_length_add_append, ih]
theorem qCs_drop (L : List Qn) (i : Nat) : (qCs L).drop (i * 4) = qCs (L.drop i) := by
  induction L generalizing i with
  | nil => simp [qCs]
  | cons x L ih =>
    cases i with
    | zero => simp [qCs]
    | succ i =>
      rw [qCs_cons, List.drop_succ_cons, show (i + 1) * 4 = (qC x).length + i * 4 by rw [qC_len]; omega, List.drop_length_add_append, ih]
theorem qCs_erase (L : List Qn) (i : Nat) (h : i < L.length) : qCs (L.eraseIdx i) = qCs (L.take i) ++ qCs (L.drop (i + 1)) := by
  rw [List.eraseIdx_eq_take_drop_succ, qCs_append]
/-- 'clear' of the last question. -/
theorem run_clearQ (w : World) (ty : TypeId) (b o c : Nat) (C : Array Value) (h : w.heap[b]? = some (.cells C 87)) (ho : o + 4 ≤ C.size) :
    (Builtin.clear_ #[72] ty #[.slice (some ⟨b, o, none⟩) 1 c]).run Tryz.prog w = .ok (.tuple #[]) (w.setRow b (C.toList.take o ++ qC noQ ++ C.toList.drop (o + 4)).toArray) := by
  have hst := run_storeCells_at Tryz.prog b o 87 (qC noQ) 0 C w h (by rw [qC_len]; omega) (qC_one noQ)
  rw [Nat.add_zero, qC_len] at hst
  obtain ⟨i, hi, hz, hs, hby⟩ := infQ
  have hzc : (Builtin.zeroCells (Value.agg (qC noQ).toArray).cells 1).toList = qC noQ := by rw [show (Value.agg (qC noQ).toArray).cells = (qC noQ).toArray from rfl]; simp [Builtin.zeroCells, qC, noQ, List.range_succ]
  simp [Builtin.clear_, run_underlying undQ, zeroValue, typeInfo, hi, hz, hzc, hst]
set_option maxRecDepth 100000 in
set_option maxHeartbeats 1000000 in
theorem delete_at (v : Value) (L : List Qn) (i : Nat) (w : World) (hq : OwnQ w v L) (hi : i < L.length) (hm : L.length ≤ 64) :
    Calls Tryz.prog 72 #[v, .int .i64 i, .int .i64 ((i + 1 : Nat) : Int)] w fun e w' => ∃ c b, e = .returned (.slice (some ⟨b, 0, none⟩) (L.length - 1) c) ∧ v.ownBlock = some b ∧ OwnQ w' (.slice (some ⟨b, 0, none⟩) (L.length - 1) c) (L.eraseIdx i) ∧ ∃ d C, w' = (w.drewN d).setRow b C := by
  obtain ⟨b, c, rfl, hob, hnc, hcm, ⟨cur, hh, hcs, htake⟩, _⟩ := own_q hq hi
  obtain ⟨n, hn⟩ : ∃ n, n = L.length := ⟨_, rfl⟩
  rw [← hn] at hnc htake hi hm ⊢
  obtain ⟨ti, hti, hz, hs4, hby⟩ := infQ
  obtain ⟨j, hj⟩ : ∃ j, j = i + 1 := ⟨_, rfl⟩
  rw [← hj]
  obtain ⟨m, hmm⟩ : ∃ m, m = n - j := ⟨_, rfl⟩
  have hle : (qCs (L.drop j)).length = m * 4 := by rw [qCs_len, List.length_drop]; omega
  obtain ⟨C1, hC1⟩ : ∃ C1, C1 = (cur.toList.take (i * 4) ++ qCs (L.drop j) ++ cur.toList.drop (i * 4 + m * 4)).toArray := ⟨_, rfl⟩
  have hap : ∀ (a : Addr) (c2 : Nat), (m = 0 ∨ a = ⟨b, j * 4, none⟩) → (Builtin.append_ #[72, 72] 72 #[.slice (some ⟨b, 0, none⟩) i c, .slice (some a) m c2]).run Tryz.prog w.drew = .ok (.slice (some ⟨b, 0, none⟩) (i + m) c) (w.drew.setRow b C1) := fun a c2 ha => by
    have := run_append_room (P := Tryz.prog) w.drew 72 72 87 ti undQ hti b i c cur hh a m c2 (qCs (L.drop j)) (by rw [hs4]; exact hle) (fun k u hu => by
      have hk := (List.getElem?_eq_some_iff.1 hu).1
      rw [hle] at hk
      rcases ha with h0 | h0
      · omega
      · subst h0
        rw [Nm.add_none]
        have e1 : (qCs L)[j * 4 + k]? = some u := by rw [← qCs_drop, List.getElem?_drop] at hu; exact hu
        rw [← htake, List.getElem?_take, if_pos (by omega)] at e1
        have e2 : w.cell? ⟨b, j * 4 + k, none⟩ = cur[j * 4 + k]? := by simp [World.cell?, hh]
        show w.cell? ⟨b, j * 4 + k, none⟩ = some u
        rw [e2]
        simpa using e1) (qCs_one _) (by omega) (by rw [hs4, hle]; omega)
    rw [hs4, hle, ← hC1] at this
    exact this
  have hC1s : C1.size = c * 4 := by rw [hC1]; simp only [List.size_toArray, List.length_append, hle, List.length_take, List.length_drop, Array.length_toList]; omega
  have hC1t : C1.toList.take ((n - 1) * 4) = qCs (L.eraseIdx i) := by
    rw [hC1, qCs_erase L i (by omega), ← hj]
    have e1 : cur.toList.take (i * 4) = qCs (L.take i) := by rw [← qCs_take, ← htake, List.take_take]; congr 1; omega
    rw [e1, List.toList_toArray, List.take_append_of_le_length (by simp only [List.length_append, hle, qCs_len, List.length_take]; omega), List.take_of_length_le (by simp only [List.length_append, hle, qCs_len, List.length_take]; omega)]
  obtain ⟨W1, hW1⟩ : ∃ W1, W1 = w.drew.setRow b C1 := ⟨_, rfl⟩
  have h1 : W1.heap[b]? = some (.cells C1 87) := by rw [hW1]; exact setRow_heap w.drew b C1 cur 87 hh
  rw [← hW1] at hap
  have HWD : Hid (m = 0 → W1 = w.drew) := fun h0 => by
    have hd : L.drop j = [] := List.drop_eq_nil_of_le (by omega)
    have e : C1 = cur := by
      rw [hC1, h0, hd]
      simp [qCs]
    rw [hW1, e]
    exact setRow_self w.drew b cur _ _ hh
  have him : i + m = n - 1 := by omega
  rw [him] at hap
  obtain ⟨C2, hC2⟩ : ∃ C2, C2 = (C1.toList.take ((n - 1) * 4) ++ qC noQ ++ C1.toList.drop ((n - 1) * 4 + 4)).toArray := ⟨_, rfl⟩
  have hcl : ∀ ty c2, (Builtin.clear_ #[72] ty #[.slice (some ⟨b, (n - 1) * 4, none⟩) 1 c2]).run Tryz.prog W1 = .ok (.tuple #[]) (W1.setRow b C2) := fun ty c2 => by
    rw [hC2]
    exact run_clearQ W1 ty b ((n - 1) * 4) c2 C1 h1 (by rw [hC1s]; omega)
  have HFIN : Hid (OwnQ (W1.setRow b C2) (.slice (some ⟨b, 0, none⟩) (n - 1) c) (L.eraseIdx i)) := by
    have hl : (L.eraseIdx i).length = n - 1 := by rw [List.length_eraseIdx, if_pos (by omega), hn]
    have hC2s : C2.size = c * 4 := by rw [hC2]; simp only [List.size_toArray, List.length_append, List.length_take, List.length_drop, Array.length_toList, hC1s, qC_len]; omega
    refine ⟨by rw [qCs_len], Or.inr ⟨b, c, C2, by rw [hl], Nat.zero_le _, setRow_heap W1 b C2 C1 87 h1, by rw [hl]; omega, hcm, hC2s, ?_⟩⟩
    rw [hl, hC2, List.toList_toArray, hC1t, List.append_assoc, List.take_append_of_le_length (by rw [qCs_len, hl]; omega), List.take_of_length_le (by rw [qCs_len, hl]; omega)]
  have HW : Hid (∃ d C, W1.setRow b C2 = (w.drewN d).setRow b C) := ⟨1, C2, by rw [hW1, setRow_setRow]; rfl⟩
  have hc9 : c ≤ 9223372036854775807 := by unfold maxLen at hcm; omega
  obtain ⟨P, hP⟩ : ∃ P, P = n - 1 := ⟨_, rfl⟩
  rw [← hP] at hap hcl HFIN ⊢
  have hjn : j ≤ n := by omega
  have hij : i ≤ j := by omega
  have hj1 : 1 ≤ j := by omega
  have hin : i < n := by omega
  have hcj : j ≤ c := by omega
  have hic : i ≤ c := by omega
  have hPn : P ≤ n := by omega
  have hPc : P < c := by omega
  have hnP : n - P = 1 := by omega
  have hne : ((i : Int) == (j : Int)) = false := by simp; omega
  have hcP : ¬ c - P = 0 := by omega
  have HM := hide hmm
  have HP : Hid (P + 1 = n ∧ j = i + 1 ∧ j ≤ n) := ⟨by omega, by omega, by omega⟩
  rw [hmm] at hap
  have hjj : c = j → n - j = 0 := by omega
  clear hq hob hcm hh hcs htake hle hC1 hC1s hC1t h1 hW1 hC2 him hti hz hs4 hby hj hmm hn hP
  by_cases hcz : c = j
  · have hPi : P = i := by have := HP.out; omega
    have hwd : W1 = w.drew := HWD.out (by have := HM.out; have := hjj hcz; omega)
    subst hcz
    subst hPi
    rw [hwd] at hcl HFIN HW
    clear hap hjj hwd
    go_enter Tryz.func72, Tryz.ntmps72
    go_wp2_with fail
    go_region
    go_wp2_with fail
    go_ret
    exact ⟨_, _, rfl, rfl, HFIN.out, HW.out⟩
  · have HRUN := hide (hap ⟨b, j * 4, none⟩ (c - j) (Or.inr rfl))
    have hcz2 : ¬ c - j = 0 := by omega
    clear hap hjj
    go_enter Tryz.func72, Tryz.ntmps72
    go_wp2_with fail
    go_region_law (refine step_app_run (by rfl) _ _ _ _ (by rfl) _ _ (by rfl) (by rfl) HRUN.out ?_)
    go_wp2_with fail
    go_ret
    exact ⟨_, _, rfl, rfl, HFIN.out, HW.out⟩

end Go.Proofs.YtabkelhipmijfaaGreatDoor
