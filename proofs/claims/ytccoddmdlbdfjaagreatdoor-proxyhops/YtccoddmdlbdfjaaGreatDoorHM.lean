/-
  sameName and Get of package head; Find of the reference's base; conditions as each theorem has them.
-/
import Derived.Test.YtccoddmdlbdfjaaGreatDoorJoinedHE
import Derived.Deep.QuietTactic
set_option linter.unusedSimpArgs false
set_option linter.unusedVariables false
namespace Go.Proofs.YtccoddmdlbdfjaaGreatDoor
open Go.RowKit

theorem low_take_succ {l m : List Nat} {k : Nat} (h1 : k < l.length) (h2 : k < m.length) (h : low (l.take k) = low (m.take k)) (hc : lo (l.getD k 0) = lo (m.getD k 0)) : low (l.take (k + 1)) = low (m.take (k + 1)) := by
  rw [take_snoc l k h1, take_snoc m k h2]
  unfold low at h ⊢
  rw [List.map_append, List.map_append, h]
  simp only [List.map_cons, List.map_nil, hc]
theorem low_differ {l m : List Nat} {k : Nat} (h1 : k < l.length) (h2 : k < m.length) (hc : lo (l.getD k 0) ≠ lo (m.getD k 0)) : low l ≠ low m := by
  intro h
  apply hc
  have e := congrArg (fun x => x.getD k 0) h
  simp only [low, List.getD, List.getElem?_map] at e ⊢
  rw [List.getElem?_eq_getElem h1, List.getElem?_eq_getElem h2] at e ⊢
  simpa using e
set_option maxRecDepth 100000 in
set_option maxHeartbeats 2000000 in
theorem sameName_at (s t : ByteArray) (w : World) (hs : s.size ≤ maxLen) (ht : t.size ≤ maxLen) : Calls Tryz.prog 102 #[.string s, .string t] w fun e w' => e = .returned (.bool (decide (low (byt s) = low (byt t)))) ∧ Below w.heap.size w w' := by
  obtain ⟨l, hl⟩ : ∃ l, l = byt s := ⟨_, rfl⟩
  obtain ⟨m, hm⟩ : ∃ l, l = byt t := ⟨_, rfl⟩
  have hix : ∀ i, i < s.size → ∀ w, (Instr.index 9 (.string s) (.int .i64 (i : Nat))).run Tryz.prog w = .ok (.int .u8 (l.getD i 0 : Nat)) w := fun i hi w => by rw [hl]; exact run_ixstr s i hi w
  have hiy : ∀ i, i < t.size → ∀ w, (Instr.index 9 (.string t) (.int .i64 (i : Nat))).run Tryz.prog w = .ok (.int .u8 (m.getD i 0 : Nat)) w := fun i hi w => by rw [hm]; exact run_ixstr t i hi w
  have HLT : Hid (∀ k, l.getD k 0 < 256) := fun k => by rw [hl]; exact getD_lt (byt_lt s) k
  have HMT : Hid (∀ k, m.getD k 0 < 256) := fun k => by rw [hm]; exact getD_lt (byt_lt t) k
  rw [← hl, ← hm]
  obtain ⟨N, hN⟩ : ∃ N, N = s.size := ⟨_, rfl⟩
  obtain ⟨M, hM⟩ : ∃ N, N = t.size := ⟨_, rfl⟩
  have hNI : (s.size : Int) = (N : Int) := by rw [hN]
  have hMI : (t.size : Int) = (M : Int) := by rw [hM]
  have hnl : N = l.length := by rw [hN, hl, byt_length]
  have hml : M = m.length := by rw [hM, hm, byt_length]
  rw [← hN] at hix hs
  rw [← hM] at hiy ht
  unfold maxLen at hs ht
  have HIX := hide hix
  have HIY := hide hiy
  by_cases hnm : N = M
  · subst hnm
    have HNL := hide hnl
    have HML := hide hml
    clear hl hm hix hiy hN hM hnl hml
    go_enter Tryz.func102, Tryz.ntmps102
    go_wp2_with fail
    go_loopw [13] (fun i wr => ∃ k : Nat, k ≤ N ∧ i = .int .i64 k ∧ Hid (low (l.take k) = low (m.take k) ∧ Below w.heap.size w wr)) (fun i _ => N - (intOf i).toNat)
    case atStart => exact ⟨0, by omega, rfl, rfl, Below.refl _ _⟩
    case round =>
      obtain ⟨k, hk, rfl, HI⟩ := hrel
      by_cases hkN : k < N
      · have hdk : decide ((k : Int) < (N : Int)) = true := decide_eq_true (by omega)
        have hx := HIX.out k hkN
        have hy := HIY.out k hkN
        have hkl : k < l.length := by rw [← HNL.out]; exact hkN
        have hkm : k < m.length := by rw [← HML.out]; exact hkN
        have h1 := HLT.out k
        have h2 := HMT.out k
        have HA : Hid (lo (l.getD k 0) = lo (m.getD k 0) → low (l.take (k + 1)) = low (m.take (k + 1))) := low_take_succ hkl hkm HI.out.1
        have HB : Hid (lo (l.getD k 0) ≠ lo (m.getD k 0) → low l ≠ low m) := low_differ hkl hkm
        obtain ⟨c, hc⟩ : ∃ c, c = l.getD k 0 := ⟨_, rfl⟩
        obtain ⟨d, hd⟩ : ∃ c, c = m.getD k 0 := ⟨_, rfl⟩
        rw [← hc] at hx h1 HA HB
        rw [← hd] at hy h2 HA HB
        have SC : Hid (∀ W, Calls Tryz.prog 140 #[.int .u8 (c : Nat)] W fun e w' => e = .returned (.int .u8 (lo c : Nat)) ∧ w' = W) := fun W => (small_at c W h1).mono fun e w' ⟨a, b⟩ => ⟨a, b.symm⟩
        have SD : Hid (∀ W, Calls Tryz.prog 140 #[.int .u8 (d : Nat)] W fun e w' => e = .returned (.int .u8 (lo d : Nat)) ∧ w' = W) := fun W => (small_at d W h2).mono fun e w' ⟨a, b⟩ => ⟨a, b.symm⟩
        obtain ⟨C, hC⟩ : ∃ x, x = lo c := ⟨_, rfl⟩
        obtain ⟨D, hD⟩ : ∃ x, x = lo d := ⟨_, rfl⟩
        rw [← hC] at SC HA HB
        rw [← hD] at SD HA HB
        clear hc hd hkl hkm hC hD
        by_cases hcd : C = D
        · have q1 : ((C : Int) != (D : Int)) = false := by simp; omega
          have q2 : ((C : Int) == (D : Int)) = true := by simp; omega
          have ht' := hide (HA.out hcd)
          clear HA HB
          go_wp2_with fail
          go_quiet (first
            | (go_at_call_of 140 (Value.int .u8 (c : Int)); exact Calls.quiet_of_same (SC.out _))
            | (go_at_call_of 140 (Value.int .u8 (d : Int)); exact Calls.quiet_of_same (SD.out _)))
          go_wp2_with fail
          go_roundw
          case rel => exact ⟨k + 1, by omega, by go_num, ht'.out, below_drewN HI.out.2 _⟩
          case measure => simp [intOf]; omega
        · have q1 : ((C : Int) != (D : Int)) = true := by simp; omega
          have q2 : ((C : Int) == (D : Int)) = false := by simp; omega
          have ht' := hide (HB.out hcd)
          clear HA HB
          go_wp2_with fail
          go_quiet (first
            | (go_at_call_of 140 (Value.int .u8 (c : Int)); exact Calls.quiet_of_same (SC.out _))
            | (go_at_call_of 140 (Value.int .u8 (d : Int)); exact Calls.quiet_of_same (SD.out _)))
          go_wp2_with fail
          go_ret
          exact ⟨by rw [decide_eq_false ht'.out]; rfl, below_drewN HI.out.2 _⟩
      · have hdk : decide ((k : Int) < (N : Int)) = false := decide_eq_false (by omega)
        have hr := HI.out.1
        rw [List.take_of_length_le (by rw [← HNL.out]; omega), List.take_of_length_le (by rw [← HML.out]; omega)] at hr
        have HR := hide hr
        clear hr
        go_wp2_with fail
        go_ret
        exact ⟨by rw [decide_eq_true HR.out]; rfl, HI.out.2⟩
  · have q1 : ((N : Int) != (M : Int)) = true := by simp; omega
    have q2 : ((N : Int) == (M : Int)) = false := by simp; omega
    have hne : ¬ low l = low m := fun e => hnm (by rw [hnl, hml, ← low_length l, ← low_length m, e])
    rw [decide_eq_false hne]
    clear hl hm hix hiy hN hM hnl hml hnm hne
    go_enter Tryz.func102, Tryz.ntmps102
    go_wp2_with fail
    go_ret
    exact ⟨rfl, Below.refl _ _⟩
theorem fst_take {d : Nat} {l : List Nat} {k : Nat} (hk : k < l.length) (h : ∀ j, j < k → l.getD j 0 ≠ d) (hd : l.getD k 0 = d) : fst d l = some k := by
  cases hf : fst d l with
  | none =>
    exact absurd (by rw [← hd]; exact getD_mem hk) (fst_none_iff.1 hf)
  | some j =>
    obtain ⟨h1, h2, h3⟩ := fst_lt hf
    rcases Nat.lt_trichotomy j k with g | g | g
    · have := h j g
      rw [List.getD, h2] at this
      exact absurd rfl this
    · rw [g]
    · have := h3 k g
      rw [List.getElem?_eq_getElem hk] at this
      rw [List.getD, List.getElem?_eq_getElem hk] at hd
      exact absurd (by rw [← hd]; rfl) this
theorem fst_no {d : Nat} {l : List Nat} (h : ∀ j, j < l.length → l.getD j 0 ≠ d) : fst d l = none :=
  fst_none fun hm => by
    obtain ⟨i, hi, e⟩ := List.getElem_of_mem hm
    have := h i hi
    rw [List.getD, List.getElem?_eq_getElem hi] at this
    exact this e
def fI (o : Option Nat) : Int := match o with | none => -1 | some k => (k : Int)
set_option maxRecDepth 100000 in
set_option maxHeartbeats 2000000 in
theorem find_at (s : ByteArray) (d : Nat) (D : ByteArray) (w : World) (hs : s.size ≤ 140737488355328) (hd : d < 256) (hD : D = strN [d]) : Calls Tryz.prog 105 #[.string s, .string D] w fun e w' => e = .returned (.int .i64 (fI (fst d (byt s)))) ∧ w = w' := by
  obtain ⟨l, hl⟩ : ∃ l, l = byt s := ⟨_, rfl⟩
  obtain ⟨N, hN⟩ : ∃ N, N = s.size := ⟨_, rfl⟩
  have hNI : (s.size : Int) = (N : Int) := by rw [hN]
  have hnl : N = l.length := by rw [hN, hl, byt_length]
  have hDs : (D.size : Int) = 1 := by rw [hD, strN_size]; rfl
  have HEX : Hid (∀ k, k < N → (((s.extract k (k + 1)).toList == D.toList) = decide (l.getD k 0 = d))) := fun k hk => by
    have hb : byt (s.extract k (k + 1)) = [l.getD k 0] := by
      unfold byt
      rw [ByteArray.data_extract, Array.toList_extract, List.extract_eq_take_drop]
      have hk' : k < s.data.toList.length := by rw [Array.length_toList]; show k < s.size; omega
      rw [show k + 1 - k = 1 by omega, List.drop_eq_getElem_cons hk', List.take_succ_cons, List.take_zero, hl]
      simp only [List.map_cons, List.map_nil, byt, List.getD, List.getElem?_map, List.getElem?_eq_getElem hk']
      rfl
    rw [Lib.toList_data D, toList_byt, hb, hD, show (strN [d]).data.toList.map UInt8.toNat = byt (strN [d]) from rfl, byt_strN [d] (by intro x hx; simp at hx; omega)]
    apply decide_eq_decide.2
    simp
  rw [← hl]
  have HNL := hide hnl
  rw [← hN] at hs
  clear hl hN hnl hD
  go_enter Tryz.func105, Tryz.ntmps105
  go_wp2_with fail
  go_loop [5] (fun i => ∃ k : Nat, k ≤ N ∧ i = .int .i64 k ∧ Hid (∀ j, j < k → l.getD j 0 ≠ d)) (fun i => N - (intOf i).toNat)
  case atStart => exact ⟨0, by omega, rfl, fun j hj => by omega⟩
  case round =>
    obtain ⟨k, hk, rfl, HI⟩ := hrel
    by_cases hkN : k < N
    · have hdk : decide ((k : Int) + 1 ≤ (N : Int)) = true := decide_eq_true (by omega)
      have hx := HEX.out k hkN
      have hkl : k < l.length := by rw [← HNL.out]; exact hkN
      by_cases hc : l.getD k 0 = d
      · rw [decide_eq_true hc] at hx
        have HR := hide (fst_take hkl HI.out hc)
        clear hc hkl
        go_wp2_with fail
        go_ret
        exact ⟨by rw [HR.out]; rfl, rfl⟩
      · rw [decide_eq_false hc] at hx
        have HR : Hid (∀ j, j < k + 1 → l.getD j 0 ≠ d) := fun j hj => by
          by_cases e : j = k
          · rw [e]; exact hc
          · exact HI.out j (by omega)
        clear hc hkl
        go_wp2_with fail
        go_round
        case rel => exact ⟨k + 1, by omega, by go_num, HR.out⟩
        case measure => simp [intOf]; omega
    · have hdk : decide ((k : Int) + 1 ≤ (N : Int)) = false := decide_eq_false (by omega)
      have HR := hide (fst_no (d := d) (l := l) (fun j hj => HI.out j (by rw [← HNL.out] at hj; omega)))
      go_wp2_with fail
      go_ret
      exact ⟨by rw [HR.out]; rfl, rfl⟩

theorem get_snoc (fs : List Fd) (f : Fd) (n : List Nat) : get (fs ++ [f]) n = if low f.1 = low n then ((if (get fs n).2 = 0 then f.2 else (get fs n).1), (get fs n).2 + 1) else get fs n := by
  induction fs with
  | nil =>
    simp only [List.nil_append, get]
    split <;> simp
  | cons g r ih =>
    rw [List.cons_append, get, get, ih]
    by_cases hg : low g.1 = low n
    · rw [if_pos hg, if_pos hg]
      by_cases hf : low f.1 = low n
      · rw [if_pos hf, if_pos hf]; simp
      · rw [if_neg hf, if_neg hf]
    · rw [if_neg hg, if_neg hg]
theorem get_zero (fs : List Fd) (n : List Nat) (h : (get fs n).2 = 0) : (get fs n).1 = [] := by
  induction fs with
  | nil => rfl
  | cons g r ih =>
    rw [get] at h ⊢
    split at h
    · simp at h
    · rename_i hg; rw [if_neg hg]; exact ih h
theorem get_le (fs : List Fd) (n : List Nat) : (get fs n).2 ≤ fs.length := by
  induction fs with
  | nil => exact Nat.le_refl _
  | cons g r ih =>
    rw [get]
    split
    · simp; exact ih
    · simp; omega
theorem ftake_snoc (fs : List Fd) (k : Nat) (h : k < fs.length) : fs.take (k + 1) = fs.take k ++ [fs.getD k ([], [])] := by
  rw [List.take_add_one, List.getD, List.getElem?_eq_getElem h]; rfl
set_option maxRecDepth 100000 in
set_option maxHeartbeats 4000000 in
theorem get_at (a : Option Addr) (n c : Nat) (fs : List Fd) (t : ByteArray) (w : World) (h : SrcF w a n c fs) (hfm : ∀ f ∈ fs, f.1.length ≤ maxLen) (ht : t.size ≤ maxLen) : Calls Tryz.prog 59 #[.slice a n c, .string t] w fun e w' => e = .returned (.tuple #[.string (strN (get fs (byt t)).1), .int .i64 ((get fs (byt t)).2 : Nat)]) ∧ Below w.heap.size w w' := by
  obtain ⟨nm, hnm⟩ : ∃ x, x = byt t := ⟨_, rfl⟩
  rw [← hnm]
  have hcl := h.hcap
  have hmx := h.hmax
  unfold maxLen at hmx
  have H := hide h
  have HFM := hide hfm
  have HNM := hide hnm.symm
  clear h hfm hnm
  go_enter Tryz.func59, Tryz.ntmps59
  go_wp2_with fail
  go_loopw [6, 7, 12] (fun v q i wr => ∃ k m : Nat, k ≤ n ∧ m ≤ k ∧ i = .int .i64 k ∧ q = .int .i64 m ∧ ∃ V : ByteArray, v = .string V ∧ Hid (get (fs.take k) nm = (byt V, m) ∧ Below w.heap.size w wr)) (fun _ _ i _ => n - (intOf i).toNat)
  case atStart => exact ⟨0, 0, by omega, by omega, rfl, rfl, ⟨#[]⟩, rfl, rfl, Below.refl _ _⟩
  case round =>
    obtain ⟨k, m, hk, hmk, rfl, rfl, V, rfl, HI⟩ := hrel
    by_cases hkn : k < n
    · have hdk : decide ((k : Int) < (n : Int)) = true := decide_eq_true (by omega)
      have s1 := H.out.keep (w' := wr) (fun h0 b o e => HI.out.2.block b (H.out.lt h0 e)) HI.out.2.size
      obtain ⟨b, o, rfl, c0, c1⟩ := s1.at_ hkn
      rw [Nat.mul_comm 2 k] at c0 c1
      have hkl : k < fs.length := by rw [H.out.hlen]; exact hkn
      have hmem : fs.getD k ([], []) ∈ fs := getD_mem hkl
      have hby := H.out.byte _ hmem
      have hfl := HFM.out _ hmem
      have HSN := hide (get_snoc (fs.take k) (fs.getD k ([], [])) nm)
      rw [← ftake_snoc fs k hkl, HI.out.1] at HSN
      obtain ⟨f, hf⟩ : ∃ f, f = fs.getD k ([], []) := ⟨_, rfl⟩
      rw [← hf] at c0 c1 hby hfl HSN
      obtain ⟨p, q⟩ := f
      simp only at c0 c1 hby hfl HSN
      have HSA : Hid (∀ W, Calls Tryz.prog 102 #[.string (strN p), .string t] W fun e w' => e = .returned (.bool (decide (low p = low nm))) ∧ Below W.heap.size W w') := fun W => by
        have := sameName_at (strN p) t W (by rw [strN_size]; exact hfl) ht
        rw [byt_strN p hby.1, HNM.out] at this; exact this
      have HQB : Hid (byt (strN q) = q) := byt_strN q hby.2
      obtain ⟨P, hP⟩ : ∃ x, x = strN p := ⟨_, rfl⟩
      obtain ⟨R, hR⟩ : ∃ x, x = strN q := ⟨_, rfl⟩
      rw [← hP] at c0 HSA
      rw [← hR] at c1 HQB
      obtain ⟨G, hG⟩ : ∃ G, G = wr.heap.size := ⟨_, rfl⟩
      obtain ⟨W1, hW1⟩ : ∃ W, W = wr.alloc (.cells #[.string P, .string R] 68) := ⟨_, rfl⟩
      have b1 : Below wr.heap.size wr W1 := by rw [hW1]; exact (Below.refl _ _).alloc (Nat.le_refl _) _
      have g1 : W1.heap[G]? = some (.cells #[.string P, .string R] 68) := by rw [hW1, hG]; exact alloc_new _ _
      have B1 := hide (HI.out.2.trans (b1.mono HI.out.2.size))
      have G1 := hide g1
      have HW1 : Hid (wr.alloc (.cells #[.string P, .string R] 68) = W1) := hW1.symm
      have HG := hide hG.symm
      have e0 : W1.cell? ⟨G, 0, none⟩ = some (.string P) := by simp [World.cell?, g1]
      clear hkl hmem hby hfl hf hP hR s1 hG hW1 b1 g1
      go_wp2_with (first | (rw [HW1.out, HG.out]))
      try (rw [HW1.out, HG.out]; go_wp2_with fail)
      refine (HSA.out _).mono ?_
      rintro e w2 ⟨rfl, hb2⟩
      have e1 : w2.cell? ⟨G, 1, none⟩ = some (.string R) := by simp [World.cell?, keepB hb2 G1.out]
      have B2 := hide (B1.out.trans (hb2.mono B1.out.size))
      clear hb2 HSA e0 c0 c1 B1
      by_cases hs : low p = low nm
      · rw [decide_eq_true hs]
        rw [if_pos hs] at HSN
        by_cases hm0 : m = 0
        · subst hm0
          have HS2 : Hid (get (fs.take (k + 1)) nm = (byt R, 0 + 1)) := by show _ = _; rw [HSN.out, HQB.out]; rfl
          clear hs HSN
          go_wp2_with fail
          go_roundw
          case rel => exact ⟨k + 1, 1, by omega, by omega, by go_num, rfl, R, rfl, HS2.out, B2.out⟩
          case measure => simp [intOf]; omega
        · have q0 : ((m : Int) == 0) = false := by simp; omega
          have HS2 : Hid (get (fs.take (k + 1)) nm = (byt V, m + 1)) := by show _ = _; rw [HSN.out, if_neg hm0]
          clear hs HSN hm0
          go_wp2_with fail
          go_roundw
          case rel => exact ⟨k + 1, m + 1, by omega, by omega, by go_num, by go_num, V, rfl, HS2.out, B2.out⟩
          case measure => simp [intOf]; omega
      · rw [decide_eq_false hs]
        rw [if_neg hs] at HSN
        clear hs
        go_wp2_with fail
        go_roundw
        case rel => exact ⟨k + 1, m, by omega, by omega, by go_num, rfl, V, rfl, HSN.out, B2.out⟩
        case measure => simp [intOf]; omega
    · have hdk : decide ((k : Int) < (n : Int)) = false := decide_eq_false (by omega)
      have hr := HI.out.1
      rw [List.take_of_length_le (by rw [H.out.hlen]; omega)] at hr
      have HR := hide hr
      clear hr
      go_wp2_with fail
      go_ret2
      refine ⟨?_, HI.out.2⟩
      rw [HR.out, strN_byt]; rfl
end Go.Proofs.YtccoddmdlbdfjaaGreatDoor
