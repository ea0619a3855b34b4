/-
  Copies of slices of bytes and of slices of them, and whether two are alike; conditions as each theorem has them.
-/
import Derived.Test.YtaibdmmacncejaaDoorU
set_option linter.unusedSimpArgs false
set_option linter.unusedVariables false
namespace Go.Proofs.YtaibdmmacncejaaDoor
open Go.RowKit

theorem run_str_src {w : World} {a : Option Addr} {len cap : Nat} {l : List Nat} (h : Src w a len cap l) : (convert 28 9 (.slice a len cap)).run Tryd.prog w = .ok (.string (strN l)) w := by
  by_cases h0 : 0 < len
  · obtain ⟨b, o, rfl, _, hc⟩ := h.lies h0
    exact run_str w b o len cap l h.hlen hc
  · obtain rfl : len = 0 := by omega
    obtain rfl : l = [] := List.eq_nil_of_length_eq_zero h.hlen
    cases a with
    | none => exact run_convert_bytes_nil (P := Tryd.prog) w 28 5 Tryd.underlying28 Tryd.underlying5 0 cap 9 Tryd.underlying9
    | some x =>
      rw [run_convert_bytes_string w 28 9 5 _ 0 cap Tryd.underlying28 Tryd.underlying5 Tryd.underlying9]
      exact run_bytesToString w x 0 cap [] (by simpa using run_loadCells_list (P := Tryd.prog) w x [] (by simp))

set_option maxHeartbeats 400000 in
theorem same_bytes (w : World) (a b : Option Addr) (n c m d : Nat) (l : List Nat) (h1 : Src w a n c l) (h2 : Src w b m d l) : Calls Tryd.prog 11 #[.slice a n c, .slice b m d] w fun e w' => e = .returned (.bool true) ∧ w = w' := by
  have r1 := run_str_src h1
  have r2 := run_str_src h2
  clear h1 h2
  go_enter Tryd.func11, Tryd.ntmps11
  go_wp2
  go_ret
  simp

/-- The block behind a slice holds bytes. -/
def Tag (w : World) (a : Option Addr) : Prop := ∀ b o, a = some ⟨b, o, none⟩ → ∃ C, w.heap[b]? = some (.cells C 5)
theorem own_src' {w : World} {B : Nat} {v : Value} {l : List Nat} (h : Own w B v l) (hb : ∀ x ∈ l, x < 256) : ∃ a cap, v = .slice a l.length cap ∧ Src w a l.length cap l ∧ Tag w a ∧ (∀ b o, a = some ⟨b, o, none⟩ → B ≤ b) := by
  obtain ⟨a, cap, e, h1, h2⟩ := own_src h hb
  refine ⟨a, cap, e, h1, ?_, h2⟩
  rintro b o rfl
  rcases h.2 with ⟨rfl, h0⟩ | ⟨g, cap', cur, rfl, hg, hh, hrest⟩
  · simp at e
  · simp at e; exact ⟨cur, by rw [← e.1.1]; exact hh⟩

set_option maxHeartbeats 1000000 in
theorem cp_at (a : Option Addr) (n c : Nat) (l : List Nat) (w : World) (h : Src w a n c l) (hn : n ≤ 140737488355328) : Calls Tryd.prog 14 #[.slice a n c] w fun e w' => ∃ a' c', e = .returned (.slice a' n c') ∧ Src w' a' n c' l ∧ Tag w' a' ∧ (∀ b o, a' = some ⟨b, o, none⟩ → w.heap.size ≤ b) ∧ Below w.heap.size w w' := by
  obtain ⟨W1, hW1⟩ : ∃ W1, W1 = w.alloc (.cells #[] 5) := ⟨_, rfl⟩
  have b1 : Below w.heap.size w W1 := by rw [hW1]; exact (Below.refl _ _).alloc (Nat.le_refl _) _
  have o1 : Own W1 w.heap.size (.slice (some ⟨w.heap.size, 0, none⟩) 0 0) [] := by rw [hW1]; exact own_new w
  obtain ⟨v', W2, hap, o2, b2⟩ := run_app 28 o1 (h.below b1) (by simpa using hn) b1.size
  rw [List.nil_append] at o2
  obtain ⟨a', c', rfl, s2, t2, f2⟩ := own_src' o2 h.byte
  rw [h.hlen] at s2 hap
  have hAl : w.alloc (.cells #[] 5) = W1 := hW1.symm
  have HAP := hide hap
  have HS := hide s2
  have HT := hide t2
  have HF := hide f2
  have HB : Hid (Below w.heap.size w W2) := b1.trans b2
  clear h hW1 b1 o1 hap o2 b2 s2 t2 f2
  go_enter Tryd.func14, Tryd.ntmps14
  go_wp2_with (refine wpList_app_run _ rfl _ _ 28 28 rfl _ _ rfl rfl HAP.out ?_)
  go_ret
  exact ⟨a', c', rfl, HS.out, HT.out, HF.out, HB.out⟩

/-- The call's own slice of slices of bytes. -/
def Cop (w : World) (B : Nat) (v : Value) (ps : List (List Nat)) : Prop :=
  ∃ sl : List Value, w.ownsRow B 28 1 v ps.length sl ∧ ∀ i, i < ps.length → ∃ ai li ci, sl[i]? = some (.slice ai li ci) ∧ Src w ai li ci (ps.getD i []) ∧ Tag w ai
theorem info28' : (Tryd.prog.info? 28).map (fun i => (i.zero, i.size, i.bytes)) = some (some (.slice none 0 0), 1, 24) := by kernel_rfl
theorem info28p : ∃ i, Tryd.prog.info? 28 = some i ∧ i.zero = some (.slice none 0 0) ∧ i.size = 1 ∧ i.bytes = 24 := info_parts info28'
theorem cop_new_at (w : World) (g : Nat) (hg : g = w.heap.size) : Cop (w.alloc (.cells #[] 28)) g (.slice (some ⟨g, 0, none⟩) 0 0) [] := by
  subst hg
  exact ⟨[], ⟨by simp, Or.inr ⟨w.heap.size, 0, #[], rfl, Nat.le_refl _, alloc_new _ _, by simp, Nat.zero_le _, by simp, by simp⟩⟩, fun i hi => by simp at hi⟩
theorem Cop.below {w w' : World} {B : Nat} {v : Value} {ps : List (List Nat)} (h : Cop w B v ps) (k : Below w.heap.size w w') : Cop w' B v ps := by
  obtain ⟨sl, ho, hc⟩ := h
  refine ⟨sl, ⟨ho.1, ?_⟩, fun i hi => ?_⟩
  · rcases ho.2 with h0 | ⟨x, cap, cur, hv, hx, hh, hrest⟩
    · exact Or.inl h0
    · exact Or.inr ⟨x, cap, cur, hv, hx, (k.block x (lt_of_some hh)).trans hh, hrest⟩
  · obtain ⟨ai, li, ci, e, s, t⟩ := hc i hi
    refine ⟨ai, li, ci, e, s.below k, fun b o eb => ?_⟩
    obtain ⟨C, hC⟩ := t b o eb
    exact ⟨C, (k.block b (lt_of_some hC)).trans hC⟩
theorem Cop.parts {w : World} {B : Nat} {v : Value} {ps : List (List Nat)} (h : Cop w B v ps) : ∃ a cap, v = .slice a ps.length cap ∧ Parts w a ps.length cap ps := by
  obtain ⟨sl, ho, hc⟩ := h
  rcases ho.2 with ⟨rfl, h0⟩ | ⟨g, cap, cur, rfl, hg, hh, hcap, hm, hs, ht⟩
  · exact ⟨none, 0, by rw [h0], ⟨rfl, by omega, Nat.zero_le _, fun _ => rfl, fun h => by omega⟩⟩
  · refine ⟨some ⟨g, 0, none⟩, cap, rfl, ⟨rfl, hcap, hm, fun e => (by cases e), fun _ => ⟨g, 0, rfl, lt_of_some hh, fun i hi => ?_⟩⟩⟩
    obtain ⟨ai, li, ci, e, s, t⟩ := hc i hi
    refine ⟨ai, li, ci, ?_, s⟩
    rw [Nat.mul_one] at ht
    have e1 : cur[i]? = sl[i]? := by rw [← ht, List.getElem?_take, if_pos hi]; simp
    rw [Nat.zero_add]
    simp only [World.cell?, hh]
    rw [e1]
    exact e
theorem run_app22 {w : World} {B : Nat} {v : Value} {ps : List (List Nat)} (ty : TypeId) (hown : Cop w B v ps) {r : Nat} {ai : Option Addr} {li ci : Nat} {l : List Nat} (hr : w.cell? ⟨r, 0, none⟩ = some (.slice ai li ci)) (hs : Src w ai li ci l) (ht : Tag w ai) (hlen : ps.length < 1000000000000) (hB : B ≤ w.heap.size) :
    ∃ v' w', (Builtin.append_ #[22, 22] ty #[v, .slice (some ⟨r, 0, none⟩) 1 1]).run Tryd.prog w = .ok v' w' ∧ Cop w' B v' (ps ++ [l]) ∧ Below B w w' := by
  obtain ⟨i, hi, hz, hsz, hby⟩ := info28p
  obtain ⟨sl, ho, hc⟩ := hown
  have hrow : ∀ k, v.ownBlock = some k → B ≤ k := by
    intro k hk
    rcases ho.2 with ⟨rfl, _⟩ | ⟨g, cap, cur, rfl, hg, _⟩
    · cases hk
    · simp [Value.ownBlock] at hk; omega
  have hrow2 : ∀ k, v.ownBlock = some k → ∃ cur, w.heap[k]? = some (.cells cur 28) := by
    intro k hk
    rcases ho.2 with ⟨rfl, _⟩ | ⟨g, cap, cur, rfl, hg, hh, _⟩
    · cases hk
    · simp [Value.ownBlock] at hk; subst hk; exact ⟨cur, hh⟩
  obtain ⟨v', w', hrun, hown', hg, _⟩ := run_append_own (P := Tryd.prog) w B 22 ty 28 i (.slice none 0 0) 1 24 Tryd.underlying22 hi hz hsz hby rfl (by omega) v ps.length sl ho ⟨r, 0, none⟩ 1 1 [.slice ai li ci] rfl
    (fun j u hu => by
      cases j with
      | zero => simp at hu; subst hu; rw [add_none]; exact hr
      | succ j => simp at hu) (by simp [Value.oneCell']) (by unfold maxLen; omega) (by omega) hB
  have keep : ∀ (b : Nat) (C : Array Value), w.heap[b]? = some (.cells C 5) → w'.heap[b]? = w.heap[b]? := by
    intro b C hC
    refine hg.block b (lt_of_some hC) (fun e => ?_)
    obtain ⟨cur, hcur⟩ := hrow2 b e.symm
    rw [hC] at hcur
    simp at hcur
  have ks : ∀ {ai li ci l}, Src w ai li ci l → Tag w ai → Src w' ai li ci l ∧ Tag w' ai := by
    intro ai li ci l s t
    refine ⟨s.keep (fun _ b o e => ?_) hg.size, fun b o e => ?_⟩
    · obtain ⟨C, hC⟩ := t b o e; exact keep b C hC
    · obtain ⟨C, hC⟩ := t b o e; exact ⟨C, (keep b C hC).trans hC⟩
  refine ⟨v', w', hrun, ⟨sl ++ [.slice ai li ci], by rw [List.length_append, List.length_singleton]; exact hown', fun j hj => ?_⟩, (Below.refl B w).grown hg hB hrow⟩
  rw [List.length_append, List.length_singleton] at hj
  have hsl : sl.length = ps.length := by rw [ho.1, Nat.mul_one]
  by_cases h1 : j < ps.length
  · obtain ⟨aj, lj, cj, e, s, t⟩ := hc j h1
    obtain ⟨s', t'⟩ := ks s t
    refine ⟨aj, lj, cj, by rw [List.getElem?_append_left (by omega)]; exact e, ?_, t'⟩
    rw [List.getD, List.getElem?_append_left h1]
    exact s'
  · obtain rfl : j = ps.length := by omega
    obtain ⟨s', t'⟩ := ks hs ht
    refine ⟨ai, li, ci, by rw [← hsl]; simp, ?_, t'⟩
    simpa [List.getD] using s'

set_option maxHeartbeats 1000000 in
theorem copied_at (a : Option Addr) (n cap : Nat) (ps : List (List Nat)) (w : World) (hp : Parts w a n cap ps) (hn : n < 1000000000000) (hl : ∀ i, i < n → (ps.getD i []).length ≤ 140737488355328) :
    Calls Tryd.prog 8 #[.slice a n cap] w fun e w' => ∃ a' c', e = .returned (.slice a' n c') ∧ Parts w' a' n c' ps ∧ Below w.heap.size w w' := by
  have HP := hide hp
  have HL := hide hl
  have hcm := hp.hmax
  have hnc := hp.hcap
  have hpl := hp.hlen
  unfold maxLen at hcm
  clear hp hl
  go_enter Tryd.func8, Tryd.ntmps8
  go_wp2_with fail
  go_loopw [3, 4] (fun v i wr => ∃ k : Nat, k ≤ n ∧ i = .int .i64 k ∧ Hid (Cop wr w.heap.size v (ps.take k) ∧ Below w.heap.size w wr)) (fun _ i _ => n - (intOf i).toNat)
  case atStart => exact ⟨0, by omega, rfl, cop_new_at _ _ rfl, (Below.refl _ _).alloc (Nat.le_refl _) _⟩
  case round =>
    obtain ⟨k, hk, rfl, HI⟩ := hrel
    by_cases h1 : k < n
    · obtain ⟨i1, i3⟩ := HI.out
      obtain ⟨b, o, rfl, hb, hc⟩ := HP.out.lies (by omega)
      obtain ⟨ai, li, ci, hcell, hsrc⟩ := hc k h1
      have e1 : wr.cell? ⟨b, o + k, none⟩ = some (.slice ai li ci) := (i3.cell (p := ⟨b, o + k, none⟩) hb).trans hcell
      have hll : li ≤ 140737488355328 := by rw [← hsrc.hlen]; exact HL.out k h1
      have HC := hide (cp_at ai li ci _ wr (hsrc.below i3) hll)
      have I1 := hide i1
      have I3 := hide i3
      have hkI : (k : Int) < n := by omega
      have htk : Hid (ps.take (k + 1) = ps.take k ++ [ps.getD k []]) := by
        show _ = _
        rw [List.take_succ_eq_append_getElem (by omega)]
        simp [List.getD, List.getElem?_eq_getElem (show k < ps.length by omega)]
      clear i1 i3 hc hcell hsrc hll HI
      go_wp2_with fail
      refine HC.out.mono ?_
      rintro e w2 ⟨a2, c2, rfl, s2, t2, _, b2⟩
      obtain ⟨W3, hW3⟩ : ∃ W3, W3 = w2.alloc (.cells #[.slice a2 li c2] 28) := ⟨_, rfl⟩
      have b3 : Below w2.heap.size w2 W3 := by rw [hW3]; exact (Below.refl _ _).alloc (Nat.le_refl _) _
      have r3 : W3.cell? ⟨w2.heap.size, 0, none⟩ = some (.slice a2 li c2) := by rw [hW3]; exact (Row.new w2 #[.slice a2 li c2] 28).cell 0
      have t3 : Tag W3 a2 := fun b o e => by
        obtain ⟨C, hC⟩ := t2 b o e
        exact ⟨C, (b3.block b (lt_of_some hC)).trans hC⟩
      have s2' := b2.size
      have s3' := b3.size
      have s1' := I3.out.size
      obtain ⟨v', W4, hap, o4, b4⟩ := run_app22 22 ((I1.out.below b2).below b3) r3 (s2.below b3) t3 (by rw [List.length_take]; omega) (by omega)
      rw [← htk.out] at o4
      have HW3 := hide hW3
      have HAP := hide hap
      have O4 := hide o4
      have B4 : Hid (Below w.heap.size w W4) := ((I3.out.trans (b2.mono (by omega))).trans (b3.mono (by omega))).trans b4
      clear hW3 b3 r3 t3 s2 t2 b2 s2' s3' s1' hap o4 b4 HC htk
      go_wp2_with (rw [← HW3.out]; refine wpList_app_run _ rfl _ _ 22 22 rfl _ _ rfl rfl HAP.out ?_)
      go_roundw
      case rel => exact ⟨k + 1, by omega, by go_num, O4.out, B4.out⟩
      case measure => simp [intOf]; omega
    · obtain ⟨i1, i3⟩ := HI.out
      rw [List.take_of_length_le (by omega)] at i1
      obtain ⟨a', c', rfl, hp'⟩ := i1.parts
      rw [hpl] at hp' ⊢
      have HP' := hide hp'
      have I3 := hide i3
      clear i1 i3 HI hp'
      go_wp2_with fail
      go_ret
      exact ⟨a', c', rfl, HP'.out, I3.out⟩
end Go.Proofs.YtaibdmmacncejaaDoor
