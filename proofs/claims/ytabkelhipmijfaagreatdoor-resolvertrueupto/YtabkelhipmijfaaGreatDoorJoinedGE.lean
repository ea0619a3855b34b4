/-
  slices.Delete over questions; What turns of a resolver, part by part; conditions as each theorem has them.
-/
import Derived.Test.YtabkelhipmijfaaGreatDoorGA
import Derived.Laws.CopyRow
import Derived.Deep.RegionLaw
import Derived.Deep.DrawnRows
set_option linter.unusedSimpArgs false
set_option linter.unusedVariables false
namespace Go.Proofs.YtabkelhipmijfaaGreatDoor
open Go.RowKit

theorem undQ : Tryz.prog.underlying 72 = some (.slice 87) := by kernel_rfl
theorem infQ : ∃ i, Tryz.prog.info? 87 = some i ∧ i.zero = some (.agg (qC noQ).toArray) ∧ i.size = 4 ∧ i.bytes = 40 := info_parts (by kernel_rfl)
theorem run_gQ (ρ : Operand → Value) (dst : Option Tmp) (x y : Operand) (pos : String) (after : Array Edge) (guard : Option (Nat × Bool)) (w : World) (h : gOk Tryz.prog 72 (ρ x) (ρ y) w = true) :
    (execOp ρ { dst, op := .call { callee := .builtin .append, args := #[x, y], argTypes := #[72, 72] }, type := 72, pos, after, guard }).run Tryz.prog w = .ok (.value (gV Tryz.prog 72 (ρ x) (ρ y) w)) (gW Tryz.prog 72 (ρ x) (ρ y) w) := g_step 72 ρ dst x y pos after guard w h
theorem qCs_take (L : List Qn) (i : Nat) : (qCs L).take (i * 4) = qCs (L.take i) := by
  induction L generalizing i with
  | nil => simp [qCs]
  | cons x L ih =>
    cases i with
    | zero => simp [qCs]
    | succ i =>
      rw [qCs_cons, List.take_succ_cons, qCs_cons, show (i + 1) * 4 = (qC x).length + i * 4 by rw [qC_len]; omega, List.take_length_add_append, ih]
theorem qCs_drop (L : List Qn) (i : Nat) : (qCs L).drop (i * 4) = qCs (L.drop i) := by
  induction L generalizing i with
  | nil => simp [qCs]
  | cons x L ih =>
    cases i with
    | zero => simp [qCs]
    | succ i =>
      rw [qCs_cons, List.drop_succ_cons, show (i + 1) * 4 = (qC x).length + i * 4 by rw [qC_len]; omega, List.drop_length_add_append, ih]
theorem qCs_erase (L : List Qn) (i : Nat) (h : i < L.length) : qCs (L.eraseIdx i) = qCs (L.take i) ++ qCs (L.drop (i + 1)) := by
  rw [List.eraseIdx_eq_take_drop_succ, qCs_append]
/-- 'clear' of the last question. -/
theorem run_clearQ (w : World) (ty : TypeId) (b o c : Nat) (C : Array Value) (h : w.heap[b]? = some (.cells C 87)) (ho : o + 4 ≤ C.size) :
    (Builtin.clear_ #[72] ty #[.slice (some ⟨b, o, none⟩) 1 c]).run Tryz.prog w = .ok (.tuple #[]) (w.setRow b (C.toList.take o ++ qC noQ ++ C.toList.drop (o + 4)).toArray) := by
  have hst := run_storeCells_at Tryz.prog b o 87 (qC noQ) 0 C w h (by rw [qC_len]; omega) (qC_one noQ)
  rw [Nat.add_zero, qC_len] at hst
  obtain ⟨i, hi, hz, hs, hby⟩ := infQ
  have hzc : (Builtin.zeroCells (Value.agg (qC noQ).toArray).cells 1).toList = qC noQ := by rw [show (Value.agg (qC noQ).toArray).cells = (qC noQ).toArray from rfl]; simp [Builtin.zeroCells, qC, noQ, List.range_succ]
  simp [Builtin.clear_, run_underlying undQ, zeroValue, typeInfo, hi, hz, hzc, hst]
set_option maxRecDepth 100000 in
set_option maxHeartbeats 1000000 in
theorem delete_at (v : Value) (L : List Qn) (i : Nat) (w : World) (hq : OwnQ w v L) (hi : i < L.length) (hm : L.length ≤ 64) :
    Calls Tryz.prog 72 #[v, .int .i64 i, .int .i64 ((i + 1 : Nat) : Int)] w fun e w' => ∃ c b, e = .returned (.slice (some ⟨b, 0, none⟩) (L.length - 1) c) ∧ v.ownBlock = some b ∧ OwnQ w' (.slice (some ⟨b, 0, none⟩) (L.length - 1) c) (L.eraseIdx i) ∧ ∃ d C, w' = (w.drewN d).setRow b C := by
  obtain ⟨b, c, rfl, hob, hnc, hcm, ⟨cur, hh, hcs, htake⟩, _⟩ := own_q hq hi
  obtain ⟨n, hn⟩ : ∃ n, n = L.length := ⟨_, rfl⟩
  rw [← hn] at hnc htake hi hm ⊢
  obtain ⟨ti, hti, hz, hs4, hby⟩ := infQ
  obtain ⟨j, hj⟩ : ∃ j, j = i + 1 := ⟨_, rfl⟩
  rw [← hj]
  obtain ⟨m, hmm⟩ : ∃ m, m = n - j := ⟨_, rfl⟩
  have hle : (qCs (L.drop j)).length = m * 4 := by rw [qCs_len, List.length_drop]; omega
  obtain ⟨C1, hC1⟩ : ∃ C1, C1 = (cur.toList.take (i * 4) ++ qCs (L.drop j) ++ cur.toList.drop (i * 4 + m * 4)).toArray := ⟨_, rfl⟩
  have hap : ∀ (a : Addr) (c2 : Nat), (m = 0 ∨ a = ⟨b, j * 4, none⟩) → (Builtin.append_ #[72, 72] 72 #[.slice (some ⟨b, 0, none⟩) i c, .slice (some a) m c2]).run Tryz.prog w.drew = .ok (.slice (some ⟨b, 0, none⟩) (i + m) c) (w.drew.setRow b C1) := fun a c2 ha => by
    have := run_append_room (P := Tryz.prog) w.drew 72 72 87 ti undQ hti b i c cur hh a m c2 (qCs (L.drop j)) (by rw [hs4]; exact hle) (fun k u hu => by
      have hk := (List.getElem?_eq_some_iff.1 hu).1
      rw [hle] at hk
      rcases ha with h0 | h0
      · omega
      · subst h0
        rw [Nm.add_none]
        have e1 : (qCs L)[j * 4 + k]? = some u := by rw [← qCs_drop, List.getElem?_drop] at hu; exact hu
        rw [← htake, List.getElem?_take, if_pos (by omega)] at e1
        have e2 : w.cell? ⟨b, j * 4 + k, none⟩ = cur[j * 4 + k]? := by simp [World.cell?, hh]
        show w.cell? ⟨b, j * 4 + k, none⟩ = some u
        rw [e2]
        simpa using e1) (qCs_one _) (by omega) (by rw [hs4, hle]; omega)
    rw [hs4, hle, ← hC1] at this
    exact this
  have hC1s : C1.size = c * 4 := by rw [hC1]; simp only [List.size_toArray, List.length_append, hle, List.length_take, List.length_drop, Array.length_toList]; omega
  have hC1t : C1.toList.take ((n - 1) * 4) = qCs (L.eraseIdx i) := by
    rw [hC1, qCs_erase L i (by omega), ← hj]
    have e1 : cur.toList.take (i * 4) = qCs (L.take i) := by rw [← qCs_take, ← htake, List.take_take]; congr 1; omega
    rw [e1, List.toList_toArray, List.take_append_of_le_length (by simp only [List.length_append, hle, qCs_len, List.length_take]; omega), List.take_of_length_le (by simp only [List.length_append, hle, qCs_len, List.length_take]; omega)]
  obtain ⟨W1, hW1⟩ : ∃ W1, W1 = w.drew.setRow b C1 := ⟨_, rfl⟩
  have h1 : W1.heap[b]? = some (.cells C1 87) := by rw [hW1]; exact setRow_heap w.drew b C1 cur 87 hh
  rw [← hW1] at hap
  have HWD : Hid (m = 0 → W1 = w.drew) := fun h0 => by
    have hd : L.drop j = [] := List.drop_eq_nil_of_le (by omega)
    have e : C1 = cur := by
      rw [hC1, h0, hd]
      simp [qCs]
    rw [hW1, e]
    exact setRow_self w.drew b cur _ _ hh
  have him : i + m = n - 1 := by omega
  rw [him] at hap
  obtain ⟨C2, hC2⟩ : ∃ C2, C2 = (C1.toList.take ((n - 1) * 4) ++ qC noQ ++ C1.toList.drop ((n - 1) * 4 + 4)).toArray := ⟨_, rfl⟩
  have hcl : ∀ ty c2, (Builtin.clear_ #[72] ty #[.slice (some ⟨b, (n - 1) * 4, none⟩) 1 c2]).run Tryz.prog W1 = .ok (.tuple #[]) (W1.setRow b C2) := fun ty c2 => by
    rw [hC2]
    exact run_clearQ W1 ty b ((n - 1) * 4) c2 C1 h1 (by rw [hC1s]; omega)
  have HFIN : Hid (OwnQ (W1.setRow b C2) (.slice (some ⟨b, 0, none⟩) (n - 1) c) (L.eraseIdx i)) := by
    have hl : (L.eraseIdx i).length = n - 1 := by rw [List.length_eraseIdx, if_pos (by omega), hn]
    have hC2s : C2.size = c * 4 := by rw [hC2]; simp only [List.size_toArray, List.length_append, List.length_take, List.length_drop, Array.length_toList, hC1s, qC_len]; omega
    refine ⟨by rw [qCs_len], Or.inr ⟨b, c, C2, by rw [hl], Nat.zero_le _, setRow_heap W1 b C2 C1 87 h1, by rw [hl]; omega, hcm, hC2s, ?_⟩⟩
    rw [hl, hC2, List.toList_toArray, hC1t, List.append_assoc, List.take_append_of_le_length (by rw [qCs_len, hl]; omega), List.take_of_length_le (by rw [qCs_len, hl]; omega)]
  have HW : Hid (∃ d C, W1.setRow b C2 = (w.drewN d).setRow b C) := ⟨1, C2, by rw [hW1, setRow_setRow]; rfl⟩
  have hc9 : c ≤ 9223372036854775807 := by unfold maxLen at hcm; omega
  obtain ⟨P, hP⟩ : ∃ P, P = n - 1 := ⟨_, rfl⟩
  rw [← hP] at hap hcl HFIN ⊢
  have hjn : j ≤ n := by omega
  have hij : i ≤ j := by omega
  have hj1 : 1 ≤ j := by omega
  have hin : i < n := by omega
  have hcj : j ≤ c := by omega
  have hic : i ≤ c := by omega
  have hPn : P ≤ n := by omega
  have hPc : P < c := by omega
  have hnP : n - P = 1 := by omega
  have hne : ((i : Int) == (j : Int)) = false := by simp; omega
  have hcP : ¬ c - P = 0 := by omega
  have HM := hide hmm
  have HP : Hid (P + 1 = n ∧ j = i + 1 ∧ j ≤ n) := ⟨by omega, by omega, by omega⟩
  rw [hmm] at hap
  have hjj : c = j → n - j = 0 := by omega
  clear hq hob hcm hh hcs htake hle hC1 hC1s hC1t h1 hW1 hC2 him hti hz hs4 hby hj hmm hn hP
  by_cases hcz : c = j
  · have hPi : P = i := by have := HP.out; omega
    have hwd : W1 = w.drew := HWD.out (by have := HM.out; have := hjj hcz; omega)
    subst hcz
    subst hPi
    rw [hwd] at hcl HFIN HW
    clear hap hjj hwd
    go_enter Tryz.func72, Tryz.ntmps72
    go_wp2_with fail
    go_region
    go_wp2_with fail
    go_ret
    exact ⟨_, _, rfl, rfl, HFIN.out, HW.out⟩
  · have HRUN := hide (hap ⟨b, j * 4, none⟩ (c - j) (Or.inr rfl))
    have hcz2 : ¬ c - j = 0 := by omega
    clear hap hjj
    go_enter Tryz.func72, Tryz.ntmps72
    go_wp2_with fail
    go_region_law (refine step_app_run (by rfl) _ _ _ _ (by rfl) _ _ (by rfl) (by rfl) HRUN.out ?_)
    go_wp2_with fail
    go_ret
    exact ⟨_, _, rfl, rfl, HFIN.out, HW.out⟩

end Go.Proofs.YtabkelhipmijfaaGreatDoor

set_option linter.unusedSimpArgs false
set_option linter.unusedVariables false
namespace Go.Proofs.YtabkelhipmijfaaGreatDoor
open Go.RowKit

variable {w : World} {S : Nat → Prop} {r t g : Nat} {qv pv : Value} {V : List Value} {R : Rs}
theorem IsRs.turnQ (h : IsRs w S r t g qv pv V R) {w' : World} (nb : ∀ (x : Nat) (cs : Array Value) (ty : TypeId) (f : Nat × Nat), w.heap[x]? = some (Obj.cells cs ty f) → ty ≠ 87 → w'.heap[x]? = w.heap[x]?) (hs : w.heap.size ≤ w'.heap.size) (L : List Qn) (hq : OwnQ w' qv L) (ok : ({ R with qs := L } : Rs).Ok) : IsRs w' S r t g qv pv V { R with qs := L } :=
  ⟨(nb _ _ _ _ h.head (by decide)).trans h.head, h.tab.keep (nb _ _ _ _ (show w.heap[t]? = some (Obj.cells _ 119) from h.tab.head) (by decide)) (nb _ _ _ _ (show w.heap[g]? = some (Obj.cells _ 125) from h.tab.row) (by decide)), hq, h.ps.keep (fun x hx => by
    obtain ⟨cur, hc⟩ := own_block h.ps.own hx
    exact nb _ _ _ _ hc (by decide)) (fun x cur _ hc => nb _ _ _ _ hc (by decide)), ok, fun x hx => Nat.lt_of_lt_of_le (h.lt x hx) hs, h.sr, h.st, h.sg, h.sq, h.sp⟩
theorem IsRs.turnT (h : IsRs w S r t g qv pv V R) {w' : World} (k : Nm.Kept g g w w') (T : List Nm.Sl) (ht : Nm.IsTab w' t g T) (ok : ({ R with tab := T } : Rs).Ok) : IsRs w' S r t g qv pv V { R with tab := T } := by
  have nb : ∀ (x : Nat) (cs : Array Value) (ty : TypeId) (f : Nat × Nat), w.heap[x]? = some (Obj.cells cs ty f) → ty ≠ 125 → w'.heap[x]? = w.heap[x]? := fun x cs ty f hx hne => k.block x (Nm.lt_of_some hx) (ty_ne hx (show w.heap[g]? = some (Obj.cells _ 125) from h.tab.row) hne) (ty_ne hx (show w.heap[g]? = some (Obj.cells _ 125) from h.tab.row) hne)
  refine ⟨(nb _ _ _ _ h.head (by decide)).trans h.head, ht, own_keep h.qs (fun x hx => ?_), h.ps.keep (fun x hx => ?_) (fun x cur _ hc => nb _ _ _ _ hc (by decide)), ok, fun x hx => Nat.lt_of_lt_of_le (h.lt x hx) k.size, h.sr, h.st, h.sg, h.sq, h.sp⟩
  · obtain ⟨cur, hc⟩ := own_block h.qs hx
    exact nb _ _ _ _ hc (by decide)
  · obtain ⟨cur, hc⟩ := own_block h.ps.own hx
    exact nb _ _ _ _ hc (by decide)
theorem setHead {w : World} {b : Nat} {C : Array Value} {t : TypeId} (h : w.heap[b]? = some (.cells C t)) (o : Nat) (v : Value) {D : Array Value} (hD : C.setIfInBounds o v = D) : (w.setCell ⟨b, o, none⟩ v).heap[b]? = some (.cells D t) := by
  rw [Nm.heap_setCell_same h, hD]
/-- The questions lie in another slice, and the resolver's own cell of them has turned. -/
theorem IsRs.turnQV (h : IsRs w S r t g qv pv V R) {w3 : World} (qv' : Value) (L : List Qn) (k : KeptS S w w3) (nb : ∀ (x : Nat) (cs : Array Value) (ty : TypeId) (f : Nat × Nat), w.heap[x]? = some (Obj.cells cs ty f) → ty ≠ 87 → w3.heap[x]? = w.heap[x]?) (ho : OwnQ w3 qv' L) (hn : ∀ x, qv'.ownBlock = some x → S x ∨ w.heap.size ≤ x) (ok : ({ R with qs := L } : Rs).Ok) :
    IsRs (w3.setCell ⟨r, 2, none⟩ qv') (YtabkelhipmijfaaGreatDoor.grow S w (w3.setCell ⟨r, 2, none⟩ qv')) r t g qv' pv V { R with qs := L } ∧ KeptS S w (w3.setCell ⟨r, 2, none⟩ qv') := by
  have hz : (w3.setCell ⟨r, 2, none⟩ qv').heap.size = w3.heap.size := by simp [World.setCell]
  have hr3 := nb _ _ _ _ h.head (by decide)
  have n2 : ∀ (x : Nat) (cs : Array Value) (ty : TypeId) (f : Nat × Nat), w.heap[x]? = some (Obj.cells cs ty f) → ty ≠ 87 → ty ≠ 74 → (w3.setCell ⟨r, 2, none⟩ qv').heap[x]? = w.heap[x]? := fun x cs ty f hx h1 h2 => by
    rw [Below.heap_setCell _ _ _ _ (ty_ne hx h.head h2)]
    exact nb x cs ty f hx h1
  refine ⟨⟨setHead (hr3.trans h.head) 2 qv' rfl, h.tab.keep (n2 _ _ _ _ (show w.heap[t]? = some (Obj.cells _ 119) from h.tab.head) (by decide) (by decide)) (n2 _ _ _ _ (show w.heap[g]? = some (Obj.cells _ 125) from h.tab.row) (by decide) (by decide)), own_keep ho (fun x hx => ?_), (h.ps.keep (fun x hx => ?_) (fun x cur _ hc => n2 _ _ _ _ hc (by decide) (by decide))).wide (fun x hx => Or.inl hx), ok, fun x hx => ?_, Or.inl h.sr, Or.inl h.st, Or.inl h.sg, fun x hx => ?_, fun x hx => Or.inl (h.sp x hx)⟩, k.setCell h.sr qv'⟩
  · obtain ⟨cur, hc⟩ := own_block ho hx
    exact Below.heap_setCell _ _ _ _ (ty_ne hc (hr3.trans h.head) (by decide))
  · obtain ⟨cur, hc⟩ := own_block h.ps.own hx
    exact n2 _ _ _ _ hc (by decide) (by decide)
  · rcases hx with hx | hx
    · rw [hz]; exact Nat.lt_of_lt_of_le (h.lt x hx) k.size
    · exact hx.2
  · rcases hn x hx with h1 | h1
    · exact Or.inl h1
    · obtain ⟨cur, hc⟩ := own_block ho hx
      exact Or.inr ⟨h1, by rw [hz]; exact Nm.lt_of_some hc⟩
/-- The posts lie in another slice, and the resolver's own cell of them has turned. -/
theorem IsRs.turnPV (h : IsRs w S r t g qv pv V R) {w3 : World} (pv' : Value) (V' : List Value) (L : List (List Nat)) (k : KeptS S w w3) (nb : ∀ (x : Nat) (cs : Array Value) (ty : TypeId) (f : Nat × Nat), w.heap[x]? = some (Obj.cells cs ty f) → ty ≠ 30 → w3.heap[x]? = w.heap[x]?) (ho : IsPs w3 (fun x => S x ∨ w.heap.size ≤ x) pv' V' L) (hn : ∀ x, pv'.ownBlock = some x → S x ∨ w.heap.size ≤ x) :
    IsRs (w3.setCell ⟨r, 3, none⟩ pv') (YtabkelhipmijfaaGreatDoor.grow S w (w3.setCell ⟨r, 3, none⟩ pv')) r t g qv pv' V' { R with ps := L } ∧ KeptS S w (w3.setCell ⟨r, 3, none⟩ pv') := by
  have hz : (w3.setCell ⟨r, 3, none⟩ pv').heap.size = w3.heap.size := by simp [World.setCell]
  have hr3 := nb _ _ _ _ h.head (by decide)
  have n2 : ∀ (x : Nat) (cs : Array Value) (ty : TypeId) (f : Nat × Nat), w.heap[x]? = some (Obj.cells cs ty f) → ty ≠ 30 → ty ≠ 74 → (w3.setCell ⟨r, 3, none⟩ pv').heap[x]? = w.heap[x]? := fun x cs ty f hx h1 h2 => by
    rw [Below.heap_setCell _ _ _ _ (ty_ne hx h.head h2)]
    exact nb x cs ty f hx h1
  have hgr : ∀ x cur, (S x ∨ w.heap.size ≤ x) → w3.heap[x]? = some (.cells cur 5) → YtabkelhipmijfaaGreatDoor.grow S w (w3.setCell ⟨r, 3, none⟩ pv') x := fun x cur hx hc => by
    rcases hx with h1 | h1
    · exact Or.inl h1
    · exact Or.inr ⟨h1, by rw [hz]; exact Nm.lt_of_some hc⟩
  have hp := ho.keep (w' := w3.setCell ⟨r, 3, none⟩ pv') (fun x hx => by
    obtain ⟨cur, hc⟩ := own_block ho.own hx
    exact Below.heap_setCell _ _ _ _ (ty_ne hc (hr3.trans h.head) (by decide))) (fun x cur _ hc => Below.heap_setCell _ _ _ _ (ty_ne hc (hr3.trans h.head) (by decide)))
  refine ⟨⟨setHead (hr3.trans h.head) 3 pv' rfl, h.tab.keep (n2 _ _ _ _ (show w.heap[t]? = some (Obj.cells _ 119) from h.tab.head) (by decide) (by decide)) (n2 _ _ _ _ (show w.heap[g]? = some (Obj.cells _ 125) from h.tab.row) (by decide) (by decide)), own_keep h.qs (fun x hx => ?_), ⟨hp.own, fun i l u hl hu => ?_⟩, ⟨h.ok.most, h.ok.few, h.ok.tl, h.ok.q⟩, fun x hx => ?_, Or.inl h.sr, Or.inl h.st, Or.inl h.sg, fun x hx => Or.inl (h.sq x hx), fun x hx => ?_⟩, k.setCell h.sr pv'⟩
  · obtain ⟨cur, hc⟩ := own_block h.qs hx
    exact n2 _ _ _ _ hc (by decide) (by decide)
  · obtain ⟨e1, e2, e3⟩ := ho.each i l u hl hu
    obtain ⟨f1, f2, f3⟩ := hp.each i l u hl hu
    exact ⟨f1, fun x hx => by
      obtain ⟨cur, hc⟩ := own_block e1 hx
      exact hgr x cur (e2 x hx) hc, f3⟩
  · rcases hx with hx | hx
    · rw [hz]; exact Nat.lt_of_lt_of_le (h.lt x hx) k.size
    · exact hx.2
  · rcases hn x hx with h1 | h1
    · exact Or.inl h1
    · obtain ⟨cur, hc⟩ := own_block ho.own hx
      exact Or.inr ⟨h1, by rw [hz]; exact Nm.lt_of_some hc⟩
theorem qCs_set (L : List Qn) (i j : Nat) (u : Value) (q : Qn) (hi : i < L.length) (hj : j < 4) (hq : (qC (qAt L i)).set j u = qC q) : (qCs L).set (i * 4 + j) u = qCs (L.set i q) := by
  induction L generalizing i with
  | nil => simp at hi
  | cons x L ih =>
    rw [qCs_cons]
    cases i with
    | zero =>
      rw [Nat.zero_mul, Nat.zero_add, List.set_cons_zero, qCs_cons, List.set_append_left _ _ (by rw [qC_len]; exact hj)]
      have hq' : (qC x).set j u = qC q := hq
      rw [hq']
    | succ i =>
      rw [List.set_cons_succ, qCs_cons, List.set_append_right _ _ (by rw [qC_len]; omega), qC_len, show (i + 1) * 4 + j - 4 = i * 4 + j by omega, ih i (by simp at hi; omega) (by simpa [qAt] using hq)]
theorem own_set {w : World} {b n c : Nat} {L : List Qn} (h : OwnQ w (.slice (some ⟨b, 0, none⟩) n c) L) {i : Nat} (hi : i < L.length) {j : Nat} (hj : j < 4) (u : Value) (q : Qn) (hq : (qC (qAt L i)).set j u = qC q) : OwnQ (w.setCell ⟨b, i * 4 + j, none⟩ u) (.slice (some ⟨b, 0, none⟩) n c) (L.set i q) := by
  rcases h.2 with ⟨e, h0⟩ | ⟨x, cap, cur, e, hx, hh, hnc, hcm, hcs, htake⟩
  · cases e
  · simp only [Value.slice.injEq, Option.some.injEq, Addr.mk.injEq, and_true] at e
    obtain ⟨rfl, rfl, rfl⟩ := e
    refine ⟨by rw [qCs_len], Or.inr ⟨b, c, cur.setIfInBounds (i * 4 + j) u, by rw [List.length_set], Nat.zero_le _, Nm.heap_setCell_same hh _ _, by rw [List.length_set]; exact hnc, hcm, by simpa using hcs, ?_⟩⟩
    rw [List.length_set, Array.toList_setIfInBounds, List.take_set, htake, qCs_set L i j u q hi hj hq]
theorem qAt_set {L : List Qn} {i : Nat} (hi : i < L.length) (q : Qn) : qAt (L.set i q) i = q := by simp [qAt, hi]
theorem set_set' (L : List Qn) (i : Nat) (a b : Qn) : (L.set i a).set i b = L.set i b := by rw [List.set_set]
/-- A question's three numbers have turned. -/
theorem IsRs.set3 {b n c : Nat} (h : IsRs w S r t g (.slice (some ⟨b, 0, none⟩) n c) pv V R) {i : Nat} (hi : i < R.qs.length) (id sent again : Int) (h0 : 0 ≤ sent) (h3 : sent ≤ 3) :
    IsRs (((w.setCell ⟨b, i * 4, none⟩ (.int .i64 id)).setCell ⟨b, i * 4 + 2, none⟩ (.int .i64 sent)).setCell ⟨b, i * 4 + 3, none⟩ (.int .i64 again)) S r t g (.slice (some ⟨b, 0, none⟩) n c) pv V { R with qs := R.qs.set i ⟨id, (qAt R.qs i).nm, sent, again⟩ } ∧ KeptS S w (((w.setCell ⟨b, i * 4, none⟩ (.int .i64 id)).setCell ⟨b, i * 4 + 2, none⟩ (.int .i64 sent)).setCell ⟨b, i * 4 + 3, none⟩ (.int .i64 again)) := by
  have hb : S b := h.sq b rfl
  have o1 := own_set h.qs hi (j := 0) (by omega) (.int .i64 id) ⟨id, (qAt R.qs i).nm, (qAt R.qs i).sent, (qAt R.qs i).again⟩ rfl
  rw [Nat.add_zero] at o1
  have o2 := own_set o1 (i := i) (by simpa using hi) (j := 2) (by omega) (.int .i64 sent) ⟨id, (qAt R.qs i).nm, sent, (qAt R.qs i).again⟩ (by rw [qAt_set hi]; rfl)
  have o3 := own_set o2 (i := i) (by simpa using hi) (j := 3) (by omega) (.int .i64 again) ⟨id, (qAt R.qs i).nm, sent, again⟩ (by rw [qAt_set (by simpa using hi)]; rfl)
  rw [set_set', set_set'] at o3
  obtain ⟨cur, hcur⟩ := own_block h.qs (g := b) rfl
  have k := (((KeptS.refl (fun x => x = b) w).setCell (p := ⟨b, i * 4, none⟩) rfl (.int .i64 id)).setCell (p := ⟨b, i * 4 + 2, none⟩) rfl (.int .i64 sent)).setCell (p := ⟨b, i * 4 + 3, none⟩) rfl (.int .i64 again)
  refine ⟨h.turnQ (fun x cs ty f hx hne => k.block x (Nm.lt_of_some hx) (ty_ne hx hcur hne)) k.size _ o3 ⟨h.ok.most, by simpa using h.ok.few, h.ok.tl, fun q hq => ?_⟩, k.mono (fun x hx => Or.inl (by subst hx; exact hb))⟩
  rcases mem_set hq with h1 | h1
  · exact h.ok.q q h1
  · subst h1
    exact ⟨(h.ok.at_ hi).nm, h0, h3⟩
theorem and_draw (d : Int) : bits .and .i64 d 65535 = d % 65536 := by
  have h1 : (BitVec.ofInt 64 d).toNat = (d % 18446744073709551616).toNat := by
    rw [BitVec.toNat_ofInt]; rfl
  have h2 : (BitVec.ofInt 64 65535).toNat = 65535 := by decide
  show IntKind.i64.wrap ((BitVec.ofInt 64 d &&& BitVec.ofInt 64 65535).toNat : Int) = _
  rw [BitVec.toNat_and, h1, h2, show (65535 : Nat) = 2 ^ 16 - 1 from rfl, Nat.and_two_pow_sub_one_eq_mod, IntKind.wrap_i64]
  omega
theorem undP : Tryz.prog.underlying 49 = some (.slice 30) := by kernel_rfl
theorem infP : ∃ i, Tryz.prog.info? 30 = some i ∧ i.zero = some (.slice none 0 0) ∧ i.size = 1 ∧ i.bytes = 24 := info_parts (by kernel_rfl)
theorem run_gP (ρ : Operand → Value) (dst : Option Tmp) (x y : Operand) (pos : String) (after : Array Edge) (guard : Option (Nat × Bool)) (w : World) (h : gOk Tryz.prog 49 (ρ x) (ρ y) w = true) :
    (execOp ρ { dst, op := .call { callee := .builtin .append, args := #[x, y], argTypes := #[49, 49] }, type := 49, pos, after, guard }).run Tryz.prog w = .ok (.value (gV Tryz.prog 49 (ρ x) (ρ y) w)) (gW Tryz.prog 49 (ρ x) (ρ y) w) := g_step 49 ρ dst x y pos after guard w h
/-- A post behind the others. -/
theorem post_step (h : IsRs w S r t g qv pv V R) (u : Value) (l : List Nat) (ho : w.ownsRow 0 5 1 u l.length (nums .u8 l)) (hu : ∀ x, u.ownBlock = some x → S x) (hb : ∀ x ∈ l, x < 256) (hlen : R.ps.length ≤ 5000000000000) :
    ∃ av cv w3, (Builtin.append_ #[49, 49] 49 #[pv, .slice (some ⟨w.heap.size, 0, none⟩) 1 1]).run Tryz.prog (w.alloc (.cells #[u] 30)) = .ok (.slice av (R.ps.length + 1) cv) w3 ∧
      w3.cell? ⟨r, 3, none⟩ = some pv ∧ w3.frozen? ⟨r, 3, none⟩ = false ∧ Res (w3.setCell ⟨r, 3, none⟩ (.slice av (R.ps.length + 1) cv)) (YtabkelhipmijfaaGreatDoor.grow S w (w3.setCell ⟨r, 3, none⟩ (.slice av (R.ps.length + 1) cv))) r { R with ps := R.ps ++ [l] } ∧ KeptS S w (w3.setCell ⟨r, 3, none⟩ (.slice av (R.ps.length + 1) cv)) := by
  have b2 : Below w.heap.size w (w.alloc (.cells #[u] 30)) := (Below.refl _ _).alloc (Nat.le_refl _) _
  have hown : (w.alloc (.cells #[u] 30)).ownsRow 0 30 1 pv R.ps.length V := own_keep h.ps.own (fun x hx => b2.block x (h.lt x (h.sp x hx)))
  have hone : u.oneCell' = true := by
    obtain ⟨a, c, rfl⟩ := own_shape ho
    rfl
  obtain ⟨pv', w3, hr, ho3, hg3, hn3⟩ := app_gen 49 30 _ 1 24 undP infP rfl (by omega) hown ⟨w.heap.size, 0, none⟩ 1 1 [u] rfl (fun j x hx => by
    cases j with
    | zero =>
      simp at hx
      subst hx
      rw [Nm.add_none, show (w.alloc (.cells #[u] 30)).cell? ⟨w.heap.size, 0 + 0, none⟩ = _ from World.cell?_alloc_new w _ _ 0]
      rfl
    | succ j => simp at hx) (by intro x hx; simp at hx; subst hx; exact hone) (by unfold maxLen; omega) (by omega) (by omega)
  obtain ⟨av, cv, rfl⟩ := own_shape ho3
  have k3 : KeptS S w w3 := ⟨hg3.os.trans b2.os, hg3.tape.trans b2.tape, hg3.output.trans b2.output, Nat.le_trans b2.size hg3.size, fun x hx hn => (hg3.block x (Nat.lt_of_lt_of_le hx b2.size) (fun e => hn (h.sp x e.symm))).trans (b2.block x hx)⟩
  have nb : ∀ (x : Nat) (cs : Array Value) (ty : TypeId) (f : Nat × Nat), w.heap[x]? = some (Obj.cells cs ty f) → ty ≠ 30 → w3.heap[x]? = w.heap[x]? := fun x cs ty f hx hne => by
    rw [hg3.block x (Nat.lt_of_lt_of_le (Nm.lt_of_some hx) b2.size) (fun e => by
      obtain ⟨cur, hc⟩ := own_block h.ps.own e.symm
      rw [hx] at hc
      simp at hc
      exact hne hc.2.1), b2.block x (Nm.lt_of_some hx)]
  have hps : IsPs w3 (fun x => S x ∨ w.heap.size ≤ x) (.slice av (R.ps.length + 1) cv) (V ++ [u]) (R.ps ++ [l]) := by
    refine ⟨by rw [List.length_append]; exact ho3, fun i x y hx hy => ?_⟩
    have hl := h.ps.len
    by_cases hi : i < R.ps.length
    · rw [List.getElem?_append_left hi] at hx
      rw [List.getElem?_append_left (by omega)] at hy
      obtain ⟨e1, e2, e3⟩ := h.ps.each i x y hx hy
      exact ⟨own_keep e1 (fun z hz => by
        obtain ⟨cur, hc⟩ := own_block e1 hz
        exact nb _ _ _ _ hc (by decide)), fun z hz => Or.inl (e2 z hz), e3⟩
    · have hil := (List.getElem?_eq_some_iff.1 hx).1
      simp at hil
      obtain rfl : i = R.ps.length := by omega
      rw [List.getElem?_append_right (Nat.le_refl _), Nat.sub_self] at hx
      rw [← hl, List.getElem?_append_right (Nat.le_refl _), Nat.sub_self] at hy
      simp at hx hy
      subst hx hy
      exact ⟨own_keep ho (fun z hz => by
        obtain ⟨cur, hc⟩ := own_block ho hz
        exact nb _ _ _ _ hc (by decide)), fun z hz => Or.inl (hu z hz), hb⟩
  have hr3 := nb _ _ _ _ h.head (by decide)
  obtain ⟨t1, t2⟩ := h.turnPV (w3 := w3) (.slice av (R.ps.length + 1) cv) (V ++ [u]) (R.ps ++ [l]) k3 nb hps (fun x hx => by
    rcases hn3 x hx with h1 | h1
    · exact Or.inl (h.sp x h1)
    · have := b2.size; right; omega)
  exact ⟨av, cv, w3, hr, by rw [World.cell?_of_block hr3]; exact h.cells.2.2.2, by rw [World.frozen?_of_block hr3]; exact h.frozen 3, Res.of t1, t2⟩

end Go.Proofs.YtabkelhipmijfaaGreatDoor
