/-
  Lower of the reference's base, and ParseName of the reference; conditions as each theorem has them.
-/
import Derived.Test.YtccoddmdlbdfjaaGreatDoorP
import Derived.Test.YtccoddmdlbdfjaaGreatDoorJoinedO
import Derived.Lib.ConvBytes
set_option linter.unusedSimpArgs false
set_option linter.unusedVariables false
namespace Go.Proofs.YtccoddmdlbdfjaaGreatDoor
open Go.RowKit

/-- The block B begins by the bytes l, which may be written. -/
def Beg (w : World) (B : Nat) (l : List Nat) : Prop := ∃ C fr, w.heap[B]? = some (.cells C 5 fr) ∧ l.length ≤ fr.1 ∧ ∀ j, j < l.length → C[j]? = some (.int .u8 (l.getD j 0 : Nat))
theorem Beg.cell {w : World} {B : Nat} {l : List Nat} (h : Beg w B l) {j : Nat} (hj : j < l.length) : w.cell? ⟨B, j, none⟩ = some (.int .u8 (l.getD j 0 : Nat)) := by
  obtain ⟨C, fr, h1, h2, h3⟩ := h
  simp only [World.cell?, h1]
  exact h3 j hj
theorem Beg.frozen {w : World} {B : Nat} {l : List Nat} (h : Beg w B l) {j : Nat} (hj : j < l.length) : w.frozen? ⟨B, j, none⟩ = false := by
  obtain ⟨C, fr, h1, h2, h3⟩ := h
  simp [World.frozen?, h1]
  intro h; omega
theorem heap_setCell_fr {w : World} {r : Nat} {C : Array Value} {t : TypeId} {fr : Nat × Nat} (h : w.heap[r]? = some (.cells C t fr)) (o : Nat) (v : Value) : (w.setCell ⟨r, o, none⟩ v).heap[r]? = some (.cells (C.setIfInBounds o v) t fr) := by
  have hg := lt_of_some h
  have e : w.heap[r] = .cells C t fr := by rw [Array.getElem?_eq_getElem hg] at h; exact Option.some.inj h
  simp [World.setCell, hg, Array.getElem_modify, e]
theorem Beg.set {w : World} {B : Nat} {l : List Nat} (h : Beg w B l) {j : Nat} (hj : j < l.length) (x : Nat) : Beg (w.setCell ⟨B, j, none⟩ (.int .u8 (x : Nat))) B (l.set j x) := by
  obtain ⟨C, fr, h1, h2, h3⟩ := h
  refine ⟨_, fr, heap_setCell_fr h1 j _, by rw [List.length_set]; exact h2, fun i hi => ?_⟩
  rw [List.length_set] at hi
  have hjs : j < C.size := by
    have := h3 j hj
    exact (Array.getElem?_eq_some_iff.1 this).1
  by_cases e : j = i
  · subst e
    simp [List.getD, hj, hjs]
  · rw [Array.getElem?_setIfInBounds_ne e, h3 i hi]
    simp [List.getD, List.getElem?_set_ne e]
theorem conv_bytes (t : ByteArray) (w : World) : ∃ cap, ∃ w', (convert 9 35 (.string t)).run Tryz.prog w = .ok (.slice (some ⟨w.heap.size, 0, none⟩) t.size cap) w' ∧ t.size ≤ cap ∧ Below w.heap.size w w' ∧ Beg w' w.heap.size (byt t) := by
  have hr := Lib.run_convert_string_bytes (P := Tryz.prog) w 9 35 5 t Tryz.underlying9 Tryz.underlying35 Tryz.underlying5
  refine ⟨_, _, hr, ?_, ?_, ?_⟩
  · exact grownCap_ge _ _ _ _
  · refine ⟨rfl, ?_, rfl, by rw [Lib.bytesWorld_size]; omega, fun k hk => Lib.bytesWorld_at_old w 5 t k hk⟩
    rfl
  · refine ⟨_, _, Lib.bytesWorld_at_new w 5 t, ?_, fun j hj => ?_⟩
    · rw [byt_length]; simp [Lib.bytesCells]
    · rw [byt_length] at hj
      have := Lib.bytesWorld_cell w 5 t j hj
      have h3 : (Lib.bytesCells w 5 t)[j]? = some (Value.int .u8 ((t.data.toList.getD j 0).toNat : Nat)) := by simpa [World.cell?, Lib.bytesWorld_at_new] using this
      rw [h3]
      have h' : j < t.data.toList.length := by rw [Array.length_toList]; exact hj
      simp only [byt, List.getD, List.getElem?_map, List.getElem?_eq_getElem h']
      rfl
theorem low_set (l : List Nat) (k : Nat) (h : k < l.length) : (low (l.take k) ++ l.drop k).set k (lo (l.getD k 0)) = low (l.take (k + 1)) ++ l.drop (k + 1) := by
  rw [List.set_append_right _ _ (by rw [low_length, List.length_take]; omega), low_length, List.length_take, Nat.min_eq_left (by omega), Nat.sub_self, drop_getD (d := 0) h, List.set_cons_zero, low_snoc l k h, List.append_assoc]
  rfl
theorem low_same (l : List Nat) (k : Nat) (h : k < l.length) (hc : lo (l.getD k 0) = l.getD k 0) : low (l.take k) ++ l.drop k = low (l.take (k + 1)) ++ l.drop (k + 1) := by
  rw [drop_getD (d := 0) h, low_snoc l k h, hc, List.append_assoc]
  rfl
theorem mid_getD (l : List Nat) (k : Nat) (h : k < l.length) : (low (l.take k) ++ l.drop k).getD k 0 = l.getD k 0 := by
  rw [List.getD, List.getElem?_append_right (by rw [low_length, List.length_take]; omega), low_length, List.length_take, Nat.min_eq_left (by omega), Nat.sub_self, List.getElem?_drop, Nat.add_zero]; rfl
theorem mid_len (l : List Nat) (k : Nat) : (low (l.take k) ++ l.drop k).length = l.length := by
  rw [List.length_append, low_length, List.length_take, List.length_drop]; omega

set_option maxRecDepth 100000 in
set_option maxHeartbeats 4000000 in
theorem lower_at (t : ByteArray) (w : World) (hm : t.size ≤ 140737488355328) : Calls Tryz.prog 32 #[.string t] w fun e w' => e = .returned (.string (strN (low (byt t)))) ∧ Below w.heap.size w w' := by
  obtain ⟨l, hl⟩ : ∃ l, l = byt t := ⟨_, rfl⟩
  rw [← hl]
  have HL : Hid (byt t = l) := hl.symm
  obtain ⟨N, hN⟩ : ∃ N, N = t.size := ⟨_, rfl⟩
  have HNL : Hid (N = l.length) := by show _ = _; rw [hN, hl, byt_length]
  have HLT : Hid (∀ k, l.getD k 0 < 256) := fun k => by rw [hl]; exact getD_lt (byt_lt t) k
  obtain ⟨cap, w1, hcv, hcap, hb1, hbeg⟩ := conv_bytes t w
  rw [← hN] at hcv hcap hm
  rw [← hl] at hbeg
  have HI : Hid (Beg w1 w.heap.size (low (l.take 0) ++ l.drop 0) ∧ Below w.heap.size w w1) := ⟨hbeg, hb1⟩
  clear hl hN hb1 hbeg
  go_enter Tryz.func32, Tryz.ntmps32
  go_wp2_with fail
  clear hcv
  go_loopw [4] (fun i wr => ∃ k : Nat, k ≤ N ∧ i = .int .i64 k ∧ Hid (Beg wr w.heap.size (low (l.take k) ++ l.drop k) ∧ Below w.heap.size w wr)) (fun i _ => N - (intOf i).toNat)
  case atStart => exact ⟨0, by omega, rfl, HI.out⟩
  case round =>
    obtain ⟨k, hk, rfl, HI⟩ := hrel
    obtain ⟨i1, i2⟩ := HI.out
    have I1 := hide i1
    have I2 := hide i2
    by_cases hkN : k < N
    · have hdk : decide ((k : Int) < (N : Int)) = true := decide_eq_true (by omega)
      have hkl : k < l.length := by rw [← HNL.out]; exact hkN
      have hcl := i1.cell (j := k) (by rw [mid_len]; exact hkl)
      rw [mid_getD l k hkl] at hcl
      have hfr := i1.frozen (j := k) (by rw [mid_len]; exact hkl)
      have hc := HLT.out k
      have HS := hide (i1.set (j := k) (by rw [mid_len]; exact hkl) (lo (l.getD k 0)))
      rw [low_set l k hkl] at HS
      have HM : Hid (lo (l.getD k 0) = l.getD k 0 → low (l.take k) ++ l.drop k = low (l.take (k + 1)) ++ l.drop (k + 1)) := low_same l k hkl
      obtain ⟨c, hcc⟩ : ∃ c, c = l.getD k 0 := ⟨_, rfl⟩
      rw [← hcc] at hcl hc HS HM
      clear hcc hkl i1 i2
      by_cases h65 : 65 ≤ c
      · have q1 : decide (65 ≤ (c : Int)) = true := decide_eq_true (by omega)
        by_cases h90 : c ≤ 90
        · have q2 : decide ((c : Int) ≤ 90) = true := decide_eq_true (by omega)
          have hlo : lo c = c + 32 := by rw [lo, if_pos ⟨h65, h90⟩]
          rw [hlo] at HS
          clear hlo HM
          go_wp2_with fail
          go_roundw
          case rel => exact ⟨k + 1, by omega, by go_num, HS.out, I2.out.setCell (by simp) _⟩
          case measure => simp [intOf]; omega
        · have q2 : decide ((c : Int) ≤ 90) = false := decide_eq_false (by omega)
          have hlo : lo c = c := by rw [lo, if_neg (by omega)]
          have HM2 := hide (HM.out hlo)
          clear hlo HM HS
          go_wp2_with fail
          go_roundw
          case rel => exact ⟨k + 1, by omega, by go_num, by have := I1.out; rw [HM2.out] at this; exact this, I2.out⟩
          case measure => simp [intOf]; omega
      · have q1 : decide (65 ≤ (c : Int)) = false := decide_eq_false (by omega)
        have hlo : lo c = c := by rw [lo, if_neg (by omega)]
        have HM2 := hide (HM.out hlo)
        clear hlo HM HS
        go_wp2_with fail
        go_roundw
        case rel => exact ⟨k + 1, by omega, by go_num, by have := I1.out; rw [HM2.out] at this; exact this, I2.out⟩
        case measure => simp [intOf]; omega
    · have hdk : decide ((k : Int) < (N : Int)) = false := decide_eq_false (by omega)
      rw [List.take_of_length_le (by rw [← HNL.out]; omega), List.drop_eq_nil_of_le (by rw [← HNL.out]; omega), List.append_nil] at i1
      have hstr := run_str wr w.heap.size 0 N cap (low l) (by rw [low_length, ← HNL.out]) (fun i hi => by
        rw [Nat.zero_add]; exact i1.cell (by rw [low_length, ← HNL.out]; exact hi))
      clear i1 i2
      go_wp2_with fail
      go_ret
      exact ⟨rfl, I2.out⟩

theorem lo_ok (c : Nat) : okR (lo c) = lb c := by
  unfold okR lb lo dig
  by_cases h : 65 ≤ c ∧ c ≤ 90
  · rw [if_pos h]
    have e1 : decide (97 ≤ c + 32) = true := decide_eq_true (by omega)
    have e2 : decide (c + 32 ≤ 122) = true := decide_eq_true (by omega)
    have e3 : decide (65 ≤ c) = true := decide_eq_true h.1
    have e4 : decide (c ≤ 90) = true := decide_eq_true h.2
    simp [e1, e2, e3, e4]
  · rw [if_neg h]
    have : (decide (65 ≤ c) && decide (c ≤ 90)) = false := by simp; omega
    simp [this]
theorem lo_45 (c : Nat) : lo c = 45 ↔ c = 45 := by unfold lo; split <;> omega
theorem low_getD (l : List Nat) (i : Nat) (h : i < l.length) : (low l).getD i 0 = lo (l.getD i 0) := by
  simp [low, List.getD, h]
theorem lab_low (p : List Nat) : labR (low p) = labB p := by
  have key : labR (low p) = true ↔ isLab p := by
    unfold labR isLab
    simp only [Bool.and_eq_true, decide_eq_true_eq, Bool.not_eq_true', decide_eq_false_iff_not, low_length]
    constructor
    · rintro ⟨⟨⟨⟨h1, h2⟩, h3⟩, h4⟩, h5⟩
      have hp : 0 < p.length := by
        rcases Nat.eq_zero_or_pos p.length with e | e
        · exact absurd (List.eq_nil_of_length_eq_zero (by rw [low_length]; exact e)) h1
        · exact e
      refine ⟨hp, h2, fun i hi => ?_⟩
      rw [low_getD p 0 hp, lo_45] at h3
      rw [low_getD p (p.length - 1) (by omega), lo_45] at h4
      have h6 := List.all_eq_true.1 h5 (lo (p.getD i 0)) (by rw [← low_getD p i hi]; exact getD_mem (by rw [low_length]; exact hi))
      rw [lo_ok] at h6
      unfold lbAt
      rw [h6]
      simp only [Bool.true_and, Bool.or_eq_true, Bool.not_eq_true', decide_eq_false_iff_not, Bool.and_eq_true, decide_eq_true_eq]
      by_cases h45 : p.getD i 0 = 45
      · right
        refine ⟨?_, ?_⟩
        · rcases Nat.eq_zero_or_pos i with e | e
          · rw [e] at h45; exact absurd h45 h3
          · exact e
        · rcases Nat.lt_or_ge (i + 1) p.length with e | e
          · exact e
          · rw [show i = p.length - 1 by omega] at h45; exact absurd h45 h4
      · left; exact h45
    · rintro ⟨h1, h2, h3⟩
      have g : ∀ i, i < p.length → lb (p.getD i 0) = true := fun i hi => by
        have := h3 i hi
        unfold lbAt at this
        simp only [Bool.and_eq_true] at this
        exact this.1
      have d : ∀ i, i < p.length → p.getD i 0 = 45 → 0 < i ∧ i + 1 < p.length := fun i hi e => by
        have := h3 i hi
        unfold lbAt at this
        simp only [Bool.and_eq_true, Bool.or_eq_true, Bool.not_eq_true', decide_eq_false_iff_not, decide_eq_true_eq] at this
        rcases this.2 with h | h
        · exact absurd e h
        · exact h
      refine ⟨⟨⟨⟨fun e => ?_, h2⟩, fun e => ?_⟩, fun e => ?_⟩, ?_⟩
      · have := congrArg List.length e
        rw [low_length] at this
        simp at this
        rw [this] at h1
        simp at h1
      · rw [low_getD p 0 (by omega), lo_45] at e
        have := d 0 (by omega) e
        omega
      · rw [low_getD p (p.length - 1) (by omega), lo_45] at e
        have := d (p.length - 1) (by omega) e
        omega
      · rw [List.all_eq_true]
        intro x hx
        simp only [low, List.mem_map] at hx
        obtain ⟨c, hc, rfl⟩ := hx
        rw [lo_ok]
        obtain ⟨i, hi, rfl⟩ := List.getElem_of_mem hc
        have := g i hi
        rw [List.getD, List.getElem?_eq_getElem hi] at this
        exact this
  cases h : labB p with
  | true => exact key.2 ((labB_iff p).1 h)
  | false =>
    cases h2 : labR (low p) with
    | false => rfl
    | true =>
      have := (labB_iff p).2 (key.1 h2)
      rw [h] at this; cases this
theorem dig_lo (c : Nat) : dig (lo c) = dig c := by
  unfold lo
  split
  · rename_i h
    have e1 : dig (c + 32) = false := by simp [dig]; omega
    have e2 : dig c = false := by simp [dig]; omega
    rw [e1, e2]
  · rfl
theorem all_low (p : List Nat) : (low p).all dig = p.all dig := by
  unfold low
  rw [List.all_map]
  congr 1
  funext c
  exact dig_lo c
theorem beg_low : ∀ (ps : List (List Nat)) (a : Nat), beg a (ps.map low) = beg a ps
  | [], _ => rfl
  | p :: r, a => by simp only [List.map_cons, beg, low_length, beg_low r]
theorem beg_last : ∀ (ps : List (List Nat)) (a : Nat), ps ≠ [] → (beg a ps).getD (ps.length - 1) 0 + (ps.getD (ps.length - 1) []).length = a + (jn ps).length
  | [], _, h => absurd rfl h
  | [p], a, _ => by simp [beg, jn]
  | p :: q :: r, a, _ => by
    have ih := beg_last (q :: r) (a + p.length + 1) (by simp)
    simp only [List.length_cons, Nat.add_sub_cancel, beg, jn] at ih ⊢
    simp only [List.getD_cons_succ, List.length_append, List.length_cons] at ih ⊢
    omega
theorem map_getD (ps : List (List Nat)) (k : Nat) (h : k < ps.length) : (ps.map low).getD k [] = low (ps.getD k []) := by
  simp [List.getD, h]
theorem low_lt {p : List Nat} (h : ∀ x ∈ p, x < 256) : ∀ x ∈ low p, x < 256 := by
  intro x hx
  simp only [low, List.mem_map] at hx
  obtain ⟨c, hc, rfl⟩ := hx
  exact lo_lt (h c hc)
theorem labs_at : ∀ (ps : List (List Nat)) (a k : Nat), k < ps.length → (∀ j, j < k → labB (ps.getD j []) = true) → labB (ps.getD k []) = false → labs a ps = some ((beg a ps).getD k 0)
  | [], _, k, h, _, _ => by simp at h
  | p :: r, a, 0, _, _, h => by
    simp at h
    unfold labs
    rw [if_neg (by simp [h])]; rfl
  | p :: r, a, k + 1, hk, hj, h => by
    have h0 := hj 0 (by omega)
    simp at h0
    unfold labs
    rw [if_pos h0]
    have := labs_at r (a + p.length + 1) k (by simpa using hk) (fun j hjk => by have := hj (j + 1) (by omega); simpa using this) (by simpa using h)
    rw [this]; simp [beg]
theorem labs_all : ∀ (ps : List (List Nat)) (a : Nat), (∀ p ∈ ps, labB p = true) → labs a ps = none
  | [], _, _ => rfl
  | p :: r, a, h => by
    unfold labs
    rw [if_pos (h p (by simp))]
    exact labs_all r _ fun q hq => h q (by simp [hq])
theorem res_tmp_cell {P : Program} {fn : Func} {u q : Tmp} {ty2 : TypeId} (h : fn.results = #[.tmp u, .cell q ty2]) (tmps : Array Value) (w : World)
    (g2 : Nat) (t2 : TypeId) (cs2 : Array Value) (fr2 : Nat × Nat) (d2 : TypeDesc)
    (hp2 : tmps.getD q undef = .pointer (some ⟨g2, 0, none⟩)) (hg2 : w.heap[g2]? = some (.cells cs2 t2 fr2))
    (hu2 : P.underlying ty2 = some d2) (hd2 : (match d2 with | .struct _ | .array _ _ => true | _ => false) = true) (hi2 : (P.info? ty2).map (·.size) = some cs2.size) :
    (results fn tmps).run P w = .ok (.tuple #[tmps.getD u undef, .agg cs2]) w := by
  have hp2' : tmps[q]?.getD undef = .pointer (some ⟨g2, 0, none⟩) := by simpa using hp2
  simp only [results, h]
  simp [Sem.run_bind, Result.andThen, hp2', asAddr, run_loadVar_row w g2 t2 ty2 cs2 fr2 d2 hg2 hu2 hd2 hi2]
theorem beg_le : ∀ (ps : List (List Nat)) (a N : Nat), (∀ p ∈ ps, p.length ≤ N) → ∀ k, k < ps.length → a + ps.length * (N + 1) ≤ 100000 → (beg a ps).getD k 0 ≤ 100000
  | [], _, _, _, k, h, _ => by simp at h
  | p :: r, a, N, hp, 0, _, h => by
    simp [beg]; simp at h; omega
  | p :: r, a, N, hp, k + 1, hk, h => by
    have h1 := hp p (by simp)
    have := beg_le r (a + p.length + 1) N (fun q hq => hp q (by simp [hq])) k (by simpa using hk) (by
      rw [List.length_cons, Nat.add_mul] at h; omega)
    simpa [beg] using this

set_option maxRecDepth 100000 in
set_option maxHeartbeats 4000000 in
theorem rparseName_at (t : ByteArray) (w : World) (hm : t.size ≤ maxLen) : Calls Tryz.prog 147 #[.string t] w fun e w' => e = .returned (.tuple #[.string (strN (name (byt t)).1), badV (name (byt t)).2]) ∧ Below w.heap.size w w' := by
  obtain ⟨l, hl⟩ : ∃ l, l = byt t := ⟨_, rfl⟩
  rw [← hl]
  have HL : Hid (byt t = l) := hl.symm
  obtain ⟨N, hN⟩ : ∃ N, N = t.size := ⟨_, rfl⟩
  have HNL : Hid (N = l.length) := by show _ = _; rw [hN, hl, byt_length]
  have HLT : Hid (∀ x ∈ l, x < 256) := by rw [hl]; exact byt_lt t
  have hNI : (t.size : Int) = (N : Int) := by rw [hN]
  have HN := hide hN
  rw [← hN] at hm
  unfold maxLen at hm
  have b0 : Below w.heap.size w (w.alloc (.cells (badC .ok) 89)) := (Below.refl _ _).alloc (Nat.le_refl _) _
  have HR0 : Hid ((w.alloc (.cells (badC .ok) 89)).heap[w.heap.size]? = some (.cells (badC .ok) 89)) := alloc_new _ _
  have B0 := hide b0
  obtain ⟨W0, hW0⟩ : ∃ W0, W0 = w.alloc (.cells (badC .ok) 89) := ⟨_, rfl⟩
  rw [← hW0] at HR0 B0
  have HW0 : Hid (w.alloc (.cells #[.int .i64 0, .string ⟨#[]⟩, .string ⟨#[]⟩, .string ⟨#[]⟩, .string ⟨#[]⟩, .int .i64 0, .int .i64 0, .int .i64 0, .int .i64 0, .int .i64 0] 89) = W0) := hW0.symm
  clear hl hN b0 hW0
  by_cases h253 : 253 < N
  · have HR : Hid (name l = ([], .one 253 3)) := by show _ = _; rw [name, if_pos (by rw [← HNL.out]; exact h253)]
    have hd : decide (253 < (N : Int)) = true := decide_eq_true (by omega)
    have hd' : decide (253 < N) = true := decide_eq_true (by omega)
    go_enter Tryz.func147, Tryz.ntmps147
    go_wp2_with fail
    rw [HW0.out]
    refine (fault_at 253 3 _).mono ?_
    rintro e w4 ⟨rfl, hb4⟩
    have h14 : w4.heap[w.heap.size]? = some (.cells (badC .ok) 89) := (hb4.block _ (lt_of_some HR0.out)).trans HR0.out
    obtain ⟨W2, hW2⟩ : ∃ W2, W2 = w4.setRow w.heap.size (badC (.one 253 3)) := ⟨_, rfl⟩
    have F1 := hide h14
    have F3 : Hid (W2.heap[w.heap.size]? = some (.cells (badC (.one 253 3)) 89)) := by rw [hW2]; exact setRow_heap _ _ _ _ _ h14
    have F5 : Hid (Below w.heap.size w W2) := by rw [hW2]; exact below_setRow (B0.out.trans (hb4.mono B0.out.size)) (Nat.le_refl _) _
    have HW2 := hide hW2
    clear hW2 h14 hb4
    rw [badV_badC]
    go_wp2_with (first
      | (refine wpList_store_rowW rfl 89 _ _ rfl w.heap.size (badC (.one 253 3)) rfl rfl 89 (badC .ok) F1.out info32 rfl (badC_one _) W2 HW2.out ?_))
    refine bodyPost_ret (res_tmp_cell rfl _ _ w.heap.size 89 (badC (.one 253 3)) (0, 0) _ rfl F3.out Tryz.underlying89 rfl info32) rfl ⟨?_, F5.out⟩
    rw [HR.out, badV_badC]; rfl
  have hd : decide (253 < (N : Int)) = false := decide_eq_false (by omega)
  have hd' : decide (253 < N) = false := decide_eq_false (by omega)
  have hN253 : N ≤ 253 := by omega
  obtain ⟨ps, hps⟩ : ∃ ps, ps = pcs l := ⟨_, rfl⟩
  have hln := pcs_len l
  rw [← hps] at hln
  have HPL : Hid (∀ p ∈ ps, p.length ≤ N) := fun p hp => by have := hln.2 p hp; have := HNL.out; omega
  have HPB : Hid (∀ p ∈ ps, ∀ x ∈ p, x < 256) := by rw [hps]; exact pcs_lt HLT.out
  have hln1 := hln.1
  obtain ⟨n, hn⟩ : ∃ n, n = ps.length := ⟨_, rfl⟩
  have hn254 : n ≤ 254 := by have := HNL.out; omega
  have hn1 : 1 ≤ n := by rw [hn, hps]; exact List.length_pos_iff.2 (pcs_ne l)
  have HBL : Hid ((beg 0 ps).getD (n - 1) 0 = N - (ps.getD (n - 1) []).length) := by
    have := beg_last ps 0 (by rw [hps]; exact pcs_ne l)
    rw [← hn, hps, jn_pcs, ← hps, ← HNL.out] at this
    show _ = _
    omega
  have HAD : Hid (name l = match labs 0 ps with
      | some a => ([], .one a 61)
      | none => if (ps.getLastD []).all dig = true then ([], .one (N - (ps.getLastD []).length) 63) else (low l, .ok)) := by
    show _ = _
    rw [name, if_neg (by rw [← HNL.out]; omega), ← hps, ← HNL.out]
    rfl
  have HLW : Hid (pcs (byt (strN (low l))) = ps.map low) := by
    show _ = _
    rw [byt_strN _ (low_lt HLT.out), pcs_low, hps]
  have HNN := hide hn
  clear h253 hln hln1 hps hn
  go_enter Tryz.func147, Tryz.ntmps147
  go_wp2_with fail
  rw [HW0.out]
  refine (lower_at t _ (by rw [← HN.out]; omega)).mono ?_
  rintro e w1 ⟨rfl, hb1⟩
  rw [HL.out]
  have r1 : w1.heap[w.heap.size]? = some (.cells (badC .ok) 89) := (hb1.block _ (lt_of_some HR0.out)).trans HR0.out
  have b1 : Below w.heap.size w w1 := B0.out.trans (hb1.mono B0.out.size)
  have R1 := hide r1
  have B1 := hide b1
  clear r1 b1 hb1
  go_wp2_with fail
  refine (parts_at (strN (low l)) _ (by rw [strN_size, low_length, ← HNL.out]; unfold maxLen; omega) (by rw [strN_size, low_length, ← HNL.out]; exact hN253)).mono ?_
  rintro e w2 ⟨o, at_, rfl, ho, ha, hb2⟩
  rw [HLW.out] at ho ha
  rw [beg_low] at ha
  have r2 : w2.heap[w.heap.size]? = some (.cells (badC .ok) 89) := (hb2.block _ (lt_of_some R1.out)).trans R1.out
  have b2 : Below w.heap.size w w2 := B1.out.trans (hb2.mono B1.out.size)
  obtain ⟨g1, cap1, rfl, hBg1, hgl1, hlc1, hcm1, hcells1, _⟩ := ho.lies (by rw [strs_length, List.length_map, ← HNN.out]; omega)
  obtain ⟨g2, cap2, rfl, hBg2, hgl2, hlc2, hcm2, hcells2, _⟩ := ha.lies (by rw [ints_length, beg_length, ← HNN.out]; omega)
  rw [strs_length, List.length_map, ← HNN.out] at hlc1 ⊢
  rw [ints_length, beg_length, ← HNN.out] at hlc2 ⊢
  have C1 : Hid (∀ k, k < n → w2.cell? ⟨g1, k, none⟩ = some (.string (strN (low (ps.getD k []))))) := fun k hk => by
    rw [← map_getD ps k (by rw [← HNN.out]; exact hk)]
    exact hcells1 k _ (strs_get _ k (by rw [List.length_map, ← HNN.out]; exact hk))
  have C2 : Hid (∀ k, k < n → w2.cell? ⟨g2, k, none⟩ = some (.int .i64 ((beg 0 ps).getD k 0 : Nat))) := fun k hk => hcells2 k _ (ints_get _ k (by rw [beg_length, ← HNN.out]; exact hk))
  have R2 := hide r2
  have B2 := hide b2
  clear ho ha hb2 hBg1 hBg2 hcells1 hcells2 r2 b2 hcm1 hcm2
  have HBD : Hid (∀ k, k < n → (beg 0 ps).getD k 0 ≤ 100000) := fun k hk => beg_le ps 0 N HPL.out k (by rw [← HNN.out]; exact hk) (by rw [← HNN.out]; have := Nat.mul_le_mul hn254 (show N + 1 ≤ 254 by omega); omega)
  go_wp2_with fail
  go_loop [7] (fun i => ∃ k : Nat, k ≤ n ∧ i = .int .i64 k ∧ Hid (∀ j, j < k → labB (ps.getD j []) = true)) (fun i => n - (intOf i).toNat)
  case atStart => exact ⟨0, by omega, rfl, fun j hj => by omega⟩
  case round =>
    obtain ⟨k, hk, rfl, HI⟩ := hrel
    by_cases hkn : k < n
    · have hdn : decide ((k : Int) < (n : Int)) = true := decide_eq_true (by omega)
      have hkn' : Hid (k < ps.length) := by show _ < _; rw [← HNN.out]; exact hkn
      have hc1 := C1.out k hkn
      have hc2 := C2.out k hkn
      have hbd := HBD.out k hkn
      have HPM : Hid (ps.getD k [] ∈ ps) := getD_mem hkn'.out
      have hpl := HPL.out _ HPM.out
      have HSZ : Hid ((strN (low (ps.getD k []))).size ≤ maxLen) := by show _ ≤ _; rw [strN_size, low_length]; unfold maxLen; omega
      have HBY : Hid (labR (byt (strN (low (ps.getD k [])))) = labB (ps.getD k [])) := by
        show _ = _
        rw [byt_strN _ (low_lt (HPB.out _ HPM.out)), lab_low]
      have HLS : Hid (labB (ps.getD k []) = false → labs 0 ps = some ((beg 0 ps).getD k 0)) := fun h => labs_at ps 0 k hkn'.out HI.out h
      have HNX : Hid (labB (ps.getD k []) = true → ∀ j, j < k + 1 → labB (ps.getD j []) = true) := fun h j hj => by
        rcases Nat.lt_or_ge j k with e | e
        · exact HI.out j e
        · obtain rfl : j = k := by omega
          exact h
      obtain ⟨a, ha⟩ : ∃ a, a = (beg 0 ps).getD k 0 := ⟨_, rfl⟩
      rw [← ha] at hc2 hbd HLS
      clear ha hpl HPM
      generalize ps.getD k [] = p at hc1 HSZ HBY HLS HNX
      cases hlab : labB p with
      | false =>
        have HR : Hid (name l = ([], .one a 61)) := by show _ = _; rw [HAD.out, HLS.out hlab]
        rw [hlab] at HBY
        clear hlab HNX HLS
        go_wp2_with fail
        refine (rlabel_at (strN (low p)) _ HSZ.out).mono ?_
        rintro e w3 ⟨rfl, rfl⟩
        rw [HBY.out]
        go_wp2_with fail
        refine (fault_at a 61 _).mono ?_
        rintro e w4 ⟨rfl, hb4⟩
        have h14 : w4.heap[w.heap.size]? = some (.cells (badC .ok) 89) := (hb4.block _ (lt_of_some R2.out)).trans R2.out
        obtain ⟨W2, hW2⟩ : ∃ W2, W2 = w4.setRow w.heap.size (badC (.one a 61)) := ⟨_, rfl⟩
        have F1 := hide h14
        have F3 : Hid (W2.heap[w.heap.size]? = some (.cells (badC (.one a 61)) 89)) := by rw [hW2]; exact setRow_heap _ _ _ _ _ h14
        have F5 : Hid (Below w.heap.size w W2) := by rw [hW2]; exact below_setRow (B2.out.trans (hb4.mono B2.out.size)) (Nat.le_refl _) _
        have HW2 := hide hW2
        clear hW2 h14 hb4
        rw [badV_badC]
        go_wp2_with (first
          | (refine wpList_store_rowW rfl 89 _ _ rfl w.heap.size (badC (.one a 61)) rfl rfl 89 (badC .ok) F1.out info32 rfl (badC_one _) W2 HW2.out ?_))
        refine bodyPost_ret (res_tmp_cell rfl _ _ w.heap.size 89 (badC (.one a 61)) (0, 0) _ rfl F3.out Tryz.underlying89 rfl info32) rfl ⟨?_, F5.out⟩
        rw [HR.out, badV_badC]; rfl
      | true =>
        have HNX2 := hide (HNX.out hlab)
        rw [hlab] at HBY
        clear hlab HNX HLS
        go_wp2_with fail
        refine (rlabel_at (strN (low p)) _ HSZ.out).mono ?_
        rintro e w3 ⟨rfl, rfl⟩
        rw [HBY.out]
        go_wp2_with fail
        go_round
        case rel => exact ⟨k + 1, by omega, by go_num, HNX2.out⟩
        case measure => simp [intOf]; omega
    · have hdn : decide ((k : Int) < (n : Int)) = false := decide_eq_false (by omega)
      have hnone : labs 0 ps = none := labs_all ps 0 fun p hp => by
        obtain ⟨i, hi, rfl⟩ := List.getElem_of_mem hp
        have := HI.out i (by rw [HNN.out] at hkn; omega)
        rw [List.getD, List.getElem?_eq_getElem hi] at this
        exact this
      have hl1 : n - 1 < ps.length := by rw [← HNN.out]; omega
      have hlast : ps.getLastD [] = ps.getD (n - 1) [] := by rw [getLastD_getD (by rw [← HNN.out]; omega), ← HNN.out]
      have hc1 := C1.out (n - 1) (by omega)
      have hc2 := C2.out (n - 1) (by omega)
      rw [HBL.out] at hc2
      have hpm : ps.getD (n - 1) [] ∈ ps := getD_mem hl1
      have hpl := HPL.out _ hpm
      have HPB' := hide (HPB.out _ hpm)
      have HAD2 : Hid (name l = if (ps.getD (n - 1) []).all dig = true then ([], .one (N - (ps.getD (n - 1) []).length) 63) else (low l, .ok)) := by
        show _ = _
        rw [HAD.out, hnone, hlast]
      generalize ps.getD (n - 1) [] = p at hc1 hc2 hpl HPB' HAD2 hpm hlast
      obtain ⟨n1, hn1'⟩ : ∃ n1, n1 = n - 1 := ⟨_, rfl⟩
      have hn1I : (n : Int) - 1 = (n1 : Int) := by omega
      rw [← hn1'] at hc1 hc2
      have hn1n : n1 < n := by omega
      obtain ⟨P, hP⟩ : ∃ P, P = p.length := ⟨_, rfl⟩
      rw [← hP] at hc2 hpl HAD2
      have HPS : Hid (P = (strN (low p)).size) := by show _ = _; rw [strN_size, low_length, hP]
      have hPI : ((strN (low p)).size : Int) = (P : Int) := by rw [HPS.out]
      have hix : ∀ i, i < P → ∀ w, (Instr.index 9 (.string (strN (low p))) (.int .i64 (i : Nat))).run Tryz.prog w = .ok (.int .u8 ((low p).getD i 0 : Nat)) w := fun i hi w => by
        have := run_ixstr (strN (low p)) i (by rw [← HPS.out]; exact hi) w
        rw [byt_strN _ (low_lt HPB'.out)] at this
        exact this
      have HIX := hide hix
      have HBT : Hid (∀ i, (low p).getD i 0 < 256) := fun i => getD_lt (low_lt HPB'.out) i
      have HALL : Hid ((low p).all dig = p.all dig) := all_low p
      have HPl : Hid (P = (low p).length) := by show _ = _; rw [low_length, hP]
      obtain ⟨M, hM⟩ : ∃ M, M = N - P := ⟨_, rfl⟩
      rw [← hM] at hc2 HAD2
      have hMN : M ≤ 253 := by omega
      obtain ⟨q, hq⟩ : ∃ q, q = low p := ⟨_, rfl⟩
      rw [← hq] at hc1 hPI HIX HBT HALL HPl
      clear hnone hl1 hlast hpm hn1' hP hix hM hq HI HPS
      go_wp2_with fail
      clear hc1
      go_loop [9, 10] (fun al i => ∃ k : Nat, k ≤ P ∧ i = .int .i64 k ∧ ∃ b : Bool, al = .bool b ∧ Hid (b = (q.take k).all dig)) (fun _ i => P - (intOf i).toNat)
      case atStart => exact ⟨0, by omega, rfl, true, rfl, rfl⟩
      case round =>
        obtain ⟨j, hj, rfl, b, rfl, HB⟩ := hrel
        by_cases hjP : j < P
        · have hdj : decide ((j : Int) < (P : Int)) = true := decide_eq_true (by omega)
          have hjq : Hid (j < q.length) := by show _ < _; rw [← HPl.out]; exact hjP
          have HT : Hid ((q.take (j + 1)).all dig = (b && dig (q.getD j 0))) := by
            show _ = _
            rw [take_snoc q j hjq.out, List.all_append, List.all_cons, List.all_nil, ← HB.out, Bool.and_true]
          cases b with
          | false =>
            go_wp2_with fail
            go_round
            case rel => exact ⟨j + 1, by omega, by go_num, false, rfl, by show _ = _; rw [HT.out]; rfl⟩
            case measure => simp [intOf]; omega
          | true =>
            have hx := HIX.out j hjP
            have hc := HBT.out j
            generalize q.getD j 0 = c at hx hc HT
            obtain ⟨d, hd⟩ : ∃ d, d = dig c := ⟨_, rfl⟩
            rw [← hd] at HT
            have HD := hide hd
            clear hd
            go_wp2_with fail
            refine (digit_at c _ hc).mono ?_
            rintro e w3 ⟨rfl, rfl⟩
            rw [← HD.out]
            go_wp2_with fail
            go_round
            case rel => exact ⟨j + 1, by omega, by go_num, d, by first | rfl | simp, by show _ = _; rw [HT.out]; rfl⟩
            case measure => simp [intOf]; omega
        · have hdj : decide ((j : Int) < (P : Int)) = false := decide_eq_false (by omega)
          have HBA : Hid (b = p.all dig) := by
            have := HB.out
            rw [List.take_of_length_le (by rw [← HPl.out]; omega), HALL.out] at this
            exact this
          cases b with
          | true =>
            have HR : Hid (name l = ([], .one M 63)) := by show _ = _; rw [HAD2.out, if_pos HBA.out.symm]
            go_wp2_with fail
            refine (fault_at M 63 _).mono ?_
            rintro e w4 ⟨rfl, hb4⟩
            have h14 : w4.heap[w.heap.size]? = some (.cells (badC .ok) 89) := (hb4.block _ (lt_of_some R2.out)).trans R2.out
            obtain ⟨W2, hW2⟩ : ∃ W2, W2 = w4.setRow w.heap.size (badC (.one M 63)) := ⟨_, rfl⟩
            have F1 := hide h14
            have F3 : Hid (W2.heap[w.heap.size]? = some (.cells (badC (.one M 63)) 89)) := by rw [hW2]; exact setRow_heap _ _ _ _ _ h14
            have F5 : Hid (Below w.heap.size w W2) := by rw [hW2]; exact below_setRow (B2.out.trans (hb4.mono B2.out.size)) (Nat.le_refl _) _
            have HW2 := hide hW2
            clear hW2 h14 hb4
            rw [badV_badC]
            go_wp2_with (first
              | (refine wpList_store_rowW rfl 89 _ _ rfl w.heap.size (badC (.one M 63)) rfl rfl 89 (badC .ok) F1.out info32 rfl (badC_one _) W2 HW2.out ?_))
            refine bodyPost_ret (res_tmp_cell rfl _ _ w.heap.size 89 (badC (.one M 63)) (0, 0) _ rfl F3.out Tryz.underlying89 rfl info32) rfl ⟨?_, F5.out⟩
            rw [HR.out, badV_badC]; rfl
          | false =>
            have HR : Hid (name l = (low l, .ok)) := by show _ = _; rw [HAD2.out, if_neg (by rw [← HBA.out]; simp)]
            obtain ⟨W2, hW2⟩ : ∃ W2, W2 = w2.setRow w.heap.size (badC .ok) := ⟨_, rfl⟩
            have F3 : Hid (W2.heap[w.heap.size]? = some (.cells (badC .ok) 89)) := by rw [hW2]; exact setRow_heap _ _ _ _ _ R2.out
            have F5 : Hid (Below w.heap.size w W2) := by rw [hW2]; exact below_setRow B2.out (Nat.le_refl _) _
            have HW2 := hide hW2
            clear hW2
            go_wp2_with (first
              | (refine wpList_store_rowW rfl 89 _ _ rfl w.heap.size (badC .ok) rfl rfl 89 (badC .ok) R2.out info32 rfl (badC_one _) W2 HW2.out ?_))
            refine bodyPost_ret (res_tmp_cell rfl _ _ w.heap.size 89 (badC .ok) (0, 0) _ rfl F3.out Tryz.underlying89 rfl info32) rfl ⟨?_, F5.out⟩
            rw [HR.out, badV_badC]; rfl
end Go.Proofs.YtccoddmdlbdfjaaGreatDoor
