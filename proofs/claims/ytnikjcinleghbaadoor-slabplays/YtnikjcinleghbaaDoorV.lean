/-
  Slices of one-cell values that a call itself appends to, and Held of package slab; conditions as each theorem has them.
-/
import Derived.Test.YtnikjcinleghbaaDoorCountsW
set_option linter.unusedSimpArgs false
set_option linter.unusedVariables false
namespace Go.Proofs.YtnikjcinleghbaaDoor
open Go.RowKit

/-- A slice type T of one-cell elements of type E, B bytes each. -/
structure ElemT (T E : TypeId) (B : Nat) : Prop where
  under : Tryd.prog.underlying T = some (.slice E)
  info : ∃ i z, Tryd.prog.info? E = some i ∧ i.zero = some z ∧ i.size = 1 ∧ i.bytes = B ∧ z.cells.size = 1
  small : B ≤ 24

theorem elemI : ElemT 43 3 8 := by
  refine ⟨Tryd.underlying43, ?_, by omega⟩
  have h : (Tryd.prog.info? 3).map (fun i => (i.zero, i.size, i.bytes)) = some (some (.int .i64 0), 1, 8) := by kernel_rfl
  obtain ⟨i, h1, h2, h3, h4⟩ := info_parts h
  exact ⟨i, _, h1, h2, h3, h4, rfl⟩
theorem elemB : ElemT 47 4 1 := by
  refine ⟨Tryd.underlying47, ?_, by omega⟩
  obtain ⟨i, h1, h2, h3, h4⟩ := info_parts info4'
  exact ⟨i, _, h1, h2, h3, h4, rfl⟩
theorem elemS : ElemT 46 30 24 := by
  refine ⟨Tryd.underlying46, ?_, by omega⟩
  have h : (Tryd.prog.info? 30).map (fun i => (i.zero, i.size, i.bytes)) = some (some (.slice none 0 0), 1, 24) := by kernel_rfl
  obtain ⟨i, h1, h2, h3, h4⟩ := info_parts h
  exact ⟨i, _, h1, h2, h3, h4, rfl⟩

/-- v is a slice of the values vs at the head of block h, which is the call's own. -/
structure OwnR (E : TypeId) (w : World) (h : Nat) (v : Value) (cap : Nat) (cur : Array Value) (vs : List Value) : Prop where
  val : v = .slice (some ⟨h, 0, none⟩) vs.length cap
  row : w.heap[h]? = some (.cells cur E (0, 0))
  fit : vs.length ≤ cap
  max : cap ≤ maxLen
  size : cur.size = cap
  take : cur.toList.take vs.length = vs

theorem OwnR.keep {E : TypeId} {w w' : World} {h : Nat} {v : Value} {cap : Nat} {cur : Array Value} {vs : List Value} (o : OwnR E w h v cap cur vs) (e : w'.heap[h]? = w.heap[h]?) : OwnR E w' h v cap cur vs := ⟨o.val, e.trans o.row, o.fit, o.max, o.size, o.take⟩
theorem OwnR.lt {E : TypeId} {w : World} {h : Nat} {v : Value} {cap : Nat} {cur : Array Value} {vs : List Value} (o : OwnR E w h v cap cur vs) : h < w.heap.size := lt_of_some o.row
theorem OwnR.cell {E : TypeId} {w : World} {h : Nat} {v : Value} {cap : Nat} {cur : Array Value} {vs : List Value} (o : OwnR E w h v cap cur vs) (k : Nat) (x : Value) (hx : vs[k]? = some x) : w.cell? ⟨h, k, none⟩ = some x := by
  have hk := (List.getElem?_eq_some_iff.1 hx).1
  have e1 : cur[k]? = vs[k]? := by rw [← o.take, List.getElem?_take, if_pos hk]; simp
  simp only [World.cell?, o.row]
  simp [e1, hx]
theorem OwnR.frozen {E : TypeId} {w : World} {h : Nat} {v : Value} {cap : Nat} {cur : Array Value} {vs : List Value} (o : OwnR E w h v cap cur vs) (k : Nat) : w.frozen? ⟨h, k, none⟩ = false := by
  simp [World.frozen?, o.row]
theorem OwnR.set {E : TypeId} {w : World} {h : Nat} {v : Value} {cap : Nat} {cur : Array Value} {vs : List Value} (o : OwnR E w h v cap cur vs) (k : Nat) (x : Value) (hk : k < vs.length) : OwnR E (w.setCell ⟨h, k, none⟩ x) h v cap (cur.setIfInBounds k x) (vs.set k x) := by
  refine ⟨by rw [List.length_set]; exact o.val, heap_setCell_same o.row _ _, by rw [List.length_set]; exact o.fit, o.max, by rw [Array.size_setIfInBounds]; exact o.size, ?_⟩
  have := o.take
  rw [List.length_set, Array.toList_setIfInBounds, List.take_set, this]

/-- 'append(v, x)' for a slice that is nil or the call's own. -/
theorem run_app_one {T E : TypeId} {B : Nat} (el : ElemT T E B) (ty : TypeId) {w : World} {v : Value} {vs : List Value} (ho : (v = .slice none 0 0 ∧ vs = []) ∨ ∃ h cap cur, OwnR E w h v cap cur vs)
    {x : Value} (hx : x.oneCell' = true) {s : Nat} {fr : Nat × Nat} (hs : w.heap[s]? = some (.cells #[x] E fr)) (hl : vs.length < 65536) :
    ∃ v' w' h' cap' cur', (Builtin.append_ #[T, T] ty #[v, .slice (some ⟨s, 0, none⟩) 1 1]).run Tryd.prog w = .ok v' w' ∧ OwnR E w' h' v' cap' cur' (vs ++ [x]) ∧
      (h' = w.heap.size ∨ ∃ cap cur, OwnR E w h' v cap cur vs) ∧ w.heap.size ≤ w'.heap.size ∧ w'.os = w.os ∧ w'.tape = w.tape ∧ w'.output = w.output ∧ (∀ k, k < w.heap.size → v.ownBlock ≠ some k → w'.heap[k]? = w.heap[k]?) := by
  obtain ⟨i, z, hi, hz, hsz, hby, hzc⟩ := el.info
  have hB := el.small
  have hown : w.ownsRow 0 E 1 v vs.length vs := by
    refine ⟨by omega, ?_⟩
    rcases ho with ⟨rfl, rfl⟩ | ⟨h, cap, cur, o⟩
    · exact Or.inl ⟨rfl, rfl⟩
    · exact Or.inr ⟨h, cap, cur, o.val, Nat.zero_le _, o.row, o.fit, o.max, by rw [o.size]; omega, by rw [Nat.mul_one]; exact o.take⟩
  have hmul : (vs.length + 1) * B ≤ 65536 * 24 := Nat.mul_le_mul (by omega) hB
  obtain ⟨v', w', hr, hw, hg, hnil, hat⟩ := run_append_own_at (P := Tryd.prog) w 0 T ty E i z 1 B el.under hi hz hsz hby hzc (by omega) v vs.length vs hown ⟨s, 0, none⟩ 1 1 [x] rfl
    (fun j u hu => by
      obtain ⟨hj, rfl⟩ := List.getElem?_eq_some_iff.1 hu
      have : j = 0 := by simp at hj; omega
      subst this
      rw [add_none]
      simp [World.cell?, hs]) (by intro u hu; simp at hu; subst hu; exact hx) (by unfold maxLen; omega) (by omega) (Nat.zero_le _)
  rcases hw.2 with ⟨hv, h0⟩ | ⟨h', cap', cur', hv, _, hh, h1, h2, h3, h4⟩
  · omega
  · subst hv
    refine ⟨_, w', h', cap', cur', hr, ⟨by simp, hh, by simpa using h1, h2, by omega, by simpa using h4⟩, ?_, hg.size, hg.os, hg.tape, hg.output, fun k hk hne => hg.block k hk (Ne.symm hne)⟩
    · simp only [Value.ownBlock] at hat
      rcases hat with hat | hat
      · rcases ho with ⟨rfl, rfl⟩ | ⟨h, cap, cur, o⟩
        · cases hat
        · have := o.val
          subst this
          simp at hat
          subst hat
          exact Or.inr ⟨cap, cur, o⟩
      · simp at hat
        exact Or.inl hat

/-- Which of the first j blocks are held. -/
def heldL (hs : List Bool) : Nat → List Nat
  | 0 => []
  | j + 1 => if hs.getD j true then heldL hs j ++ [j] else heldL hs j
theorem heldL_lt (hs : List Bool) : ∀ j k, k ∈ heldL hs j → k < j ∧ hs.getD k true = true
  | 0, k, h => by simp [heldL] at h
  | j + 1, k, h => by
    unfold heldL at h
    split at h
    · rcases List.mem_append.1 h with h | h
      · have := heldL_lt hs j k h; exact ⟨by omega, this.2⟩
      · simp at h; subst h; exact ⟨by omega, by assumption⟩
    · have := heldL_lt hs j k h; exact ⟨by omega, this.2⟩
theorem heldL_len (hs : List Bool) : ∀ j, (heldL hs j).length = sumB j (fun k => hs.getD k true)
  | 0 => rfl
  | j + 1 => by
    unfold heldL
    rw [sumB, ← heldL_len hs j]
    cases h : hs.getD j true <;> simp
theorem sumB_held : ∀ (hs : List Bool), sumB hs.length (fun k => hs.getD k true) = hs.count true
  | [] => rfl
  | a :: t => by
    rw [List.length_cons, sumB_front, sumB_congr t.length _ (fun k => t.getD k true) (fun k _ => by simp), sumB_held t, List.count_cons]
    cases a <;> simp
    omega
theorem heldL_count (hs : List Bool) : (heldL hs hs.length).length = hs.count true := by rw [heldL_len, sumB_held]
def nums (l : List Nat) : List Value := l.map fun k => Value.int .i64 (k : Nat)

set_option maxHeartbeats 2000000 in
theorem held_at (r g bl sz : Nat) (hs : List Bool) (zs : List Int) (w : World) (h : IsSlab w r g bl sz hs zs) :
    Calls Tryd.prog 22 #[.pointer (some ⟨r, 0, none⟩)] w fun e w' => ∃ v, e = .returned v ∧ ((v = .slice none 0 0 ∧ heldL hs bl = []) ∨ ∃ hh cap cur, OwnR 3 w' hh v cap cur (nums (heldL hs bl)) ∧ w.heap.size ≤ hh) ∧ Below w.heap.size w w' := by
  obtain ⟨ws, h1, h2⟩ := h.mem
  obtain ⟨c0, c1, c2, c3, c4⟩ := hdr_cells h1 h2.len
  have hmb := h.mb
  have hlt := h.lt
  have H := hide h
  have HLen := hide h.len
  clear h1 h2 h c2 c3 c4
  go_enter Tryd.func22, Tryd.ntmps22
  go_wp2_with fail
  refine (isMade_at r true _ c0).mono ?_
  rintro e w1 ⟨rfl, rfl⟩
  go_wp2_with fail
  go_loopw [3, 12] (fun v i wr => ∃ (j : Nat), j ≤ bl ∧ i = .int .i64 j ∧ Hid ((v = .slice none 0 0 ∧ heldL hs j = []) ∨ ∃ hh cap cur, OwnR 3 wr hh v cap cur (nums (heldL hs j)) ∧ w.heap.size ≤ hh) ∧ Hid (Below w.heap.size w wr)) (fun _ i _ => bl - (intOf i).toNat)
  case atStart => exact ⟨0, Nat.zero_le _, rfl, Or.inl ⟨rfl, rfl⟩, Below.refl _ _⟩
  case round =>
    obtain ⟨j, hj, rfl, HO, HB⟩ := hrel
    by_cases h1 : j < bl
    · have HS : Hid (IsSlab wr r g bl sz hs zs) := H.out.below HB.out hlt.1 hlt.2.1
      have HL := hide (isHeld_at r g bl sz hs zs j wr HS.out)
      rw [heldAt_nat hs j (by rw [HLen.out]; exact h1)] at HL
      cases hv : hs.getD j true with
      | true =>
        rw [hv] at HL
        have HV := hide hv
        clear hv
        go_wp2_with fail
        refine HL.out.mono ?_
        rintro e w2 ⟨rfl, n2, rfl⟩
        have hsz := HB.out.size
        obtain ⟨v', w', h', cap', cur', hr, hown, hat, hz, ho1, ho2, ho3, hblk⟩ := run_app_one elemI 43 (w := (wr.drewN n2).alloc (.cells #[.int .i64 (j : Nat)] 3)) (v := u3) (vs := nums (heldL hs j)) (by
            rcases HO.out with ⟨e1, e2⟩ | ⟨hh, cap, cur, o, _⟩
            · exact Or.inl ⟨e1, by rw [e2]; rfl⟩
            · exact Or.inr ⟨hh, cap, cur, o.keep (Below.heap_alloc (wr.drewN n2) _ _ o.lt)⟩) (x := .int .i64 (j : Nat)) rfl (s := wr.heap.size) (alloc_new (wr.drewN n2) _) (by
            have e : (nums (heldL hs j)).length = (heldL hs j).length := by simp [nums]
            have : ∀ n f, sumB n f ≤ n := by
              intro n f
              induction n with
              | zero => exact Nat.le_refl _
              | succ n ih => rw [sumB]; have := Bool.toNat_le (f n); omega
            have := this j (fun k => hs.getD k true)
            rw [e, heldL_len]
            omega)
        have HR := hide hr
        have HO2 : Hid ((v' = .slice none 0 0 ∧ heldL hs (j + 1) = []) ∨ ∃ hh cap cur, OwnR 3 w' hh v' cap cur (nums (heldL hs (j + 1))) ∧ w.heap.size ≤ hh) := by
          refine Or.inr ⟨h', cap', cur', ?_, ?_⟩
          · rw [heldL, if_pos HV.out]
            simpa [nums] using hown
          · rcases hat with hat | ⟨cap, cur, hat⟩
            · rw [hat]; simp; omega
            · rcases HO.out with ⟨e1, e2⟩ | ⟨hh, cap2, cur2, o, hle⟩
              · rw [e1] at hat; have := hat.val; cases this
              · have e1 := hat.val
                rw [o.val] at e1
                simp at e1
                omega
        have HB2 : Hid (Below w.heap.size w w') := ⟨ho1.trans HB.out.os, ho2.trans HB.out.tape, ho3.trans HB.out.output, by simp at hz; omega, fun k hk => by
          rw [hblk k (by simp; omega) (by
            rcases HO.out with ⟨e1, e2⟩ | ⟨hh, cap2, cur2, o, hle⟩
            · rw [e1]; simp [Value.ownBlock]
            · rw [o.val]; simp [Value.ownBlock]; omega), Below.heap_alloc (wr.drewN n2) _ _ (by show k < wr.heap.size; omega)]
          exact HB.out.block k hk⟩
        clear hr hown hat hz ho1 ho2 ho3 hblk
        go_wp2_with (at_builtin; refine wpList_app_run _ rfl _ _ _ _ rfl _ _ rfl rfl HR.out ?_)
        go_roundw
        case rel => exact ⟨j + 1, by omega, by go_num, HO2, HB2⟩
        case measure => simp [intOf]; omega
      | false =>
        rw [hv] at HL
        have HV := hide hv
        clear hv
        go_wp2_with fail
        refine HL.out.mono ?_
        rintro e w2 ⟨rfl, n2, rfl⟩
        go_wp2_with fail
        go_roundw
        case rel =>
          refine ⟨j + 1, by omega, by go_num, ?_, below_drewN HB.out n2⟩
          have : heldL hs (j + 1) = heldL hs j := by rw [heldL, if_neg (by rw [HV.out]; simp)]
          rw [this]
          rcases HO.out with h | ⟨hh, cap, cur, o, hle⟩
          · exact Or.inl h
          · exact Or.inr ⟨hh, cap, cur, o.keep rfl, hle⟩
        case measure => simp [intOf]; omega
    · obtain rfl : j = bl := by omega
      go_wp2_with fail
      go_ret
      exact ⟨_, rfl, HO.out, HB.out⟩

end Go.Proofs.YtnikjcinleghbaaDoor
