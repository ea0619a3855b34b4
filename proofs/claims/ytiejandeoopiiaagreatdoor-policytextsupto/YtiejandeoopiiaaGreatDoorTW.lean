/-
  The reference's words: a text cut at each place of a byte; conditions as each theorem has them.
-/
import Derived.Test.YtiejandeoopiiaaGreatDoorTN
set_option linter.unusedSimpArgs false
set_option linter.unusedVariables false
namespace Go.Proofs.YtiejandeoopiiaaGreatDoor
open Go.RowKit
theorem wrd_dot (c : Nat) : ∀ l, wrd c (l ++ [c]) = wrd c l ++ [[]]
  | [] => by simp [wrd]
  | b :: r => by
    have ih := wrd_dot c r
    have hne := wrd_ne c r
    rw [List.cons_append, wrd, wrd, ih]
    split
    · rfl
    · cases h : wrd c r with
      | nil => exact absurd h hne
      | cons p ps => rfl
theorem wrd_ext (d c : Nat) (hc : c ≠ d) : ∀ l, wrd d (l ++ [c]) = ext c (wrd d l)
  | [] => by simp [wrd, hc, ext]
  | b :: r => by
    have ih := wrd_ext d c hc r
    have hne := wrd_ne d r
    rw [List.cons_append, wrd, wrd, ih]
    cases h : wrd d r with
    | nil => exact absurd h hne
    | cons p ps =>
      split
      · rfl
      · cases ps with
        | nil => rfl
        | cons q qs => rfl
theorem wrd_len (c : Nat) : ∀ (l : List Nat), (wrd c l).length ≤ l.length + 1 ∧ ∀ p ∈ wrd c l, p.length ≤ l.length
  | [] => by simp [wrd]
  | b :: r => by
    have ih := wrd_len c r
    have hne := wrd_ne c r
    rw [wrd]
    cases h : wrd c r with
    | nil => exact absurd h hne
    | cons p ps =>
      rw [h] at ih
      obtain ⟨i1, i2⟩ := ih
      simp at i1 i2
      split
      · refine ⟨by simp; omega, ?_⟩
        intro q hq
        simp at hq
        rcases hq with rfl | rfl | hq
        · simp
        · simp; omega
        · have := i2.2 q hq; simp; omega
      · refine ⟨by simp; omega, ?_⟩
        intro q hq
        simp at hq
        rcases hq with rfl | hq
        · simp; omega
        · have := i2.2 q hq; simp; omega
theorem wrd_mem (c : Nat) : ∀ (l : List Nat), ∀ p ∈ wrd c l, ∀ x ∈ p, x ∈ l
  | [], p, hp, x, hx => by simp [wrd] at hp; subst hp; cases hx
  | b :: r, p, hp, x, hx => by
    have ih := wrd_mem c r
    have hne := wrd_ne c r
    rw [wrd] at hp
    cases h : wrd c r with
    | nil => exact absurd h hne
    | cons q qs =>
      rw [h] at hp ih
      split at hp
      · simp at hp
        rcases hp with rfl | rfl | hp
        · cases hx
        · exact List.mem_cons_of_mem _ (ih _ (by simp) x hx)
        · exact List.mem_cons_of_mem _ (ih _ (List.mem_cons_of_mem _ hp) x hx)
      · simp at hp
        rcases hp with rfl | hp
        · rcases List.mem_cons.1 hx with rfl | hx
          · simp
          · exact List.mem_cons_of_mem _ (ih _ (by simp) x hx)
        · exact List.mem_cons_of_mem _ (ih _ (List.mem_cons_of_mem _ hp) x hx)
set_option maxRecDepth 100000 in
set_option maxHeartbeats 4000000 in
theorem words_at (t : ByteArray) (d : Nat) (w : World) (hm : t.size ≤ maxLen) (hsmall : t.size ≤ 1000000000000) (hd256 : d < 256) : Calls Tryz.prog 35 #[.string t, .int .u8 (d : Nat)] w fun e w' => ∃ o, e = .returned o ∧ Own w' w.heap.size 9 o (strs (wrd d (byt t))) ∧ Below w.heap.size w w' := by
  obtain ⟨l, hl⟩ : ∃ l, l = byt t := ⟨_, rfl⟩
  have hix : ∀ i, i < t.size → ∀ w, (Instr.index 9 (.string t) (.int .i64 (i : Nat))).run Tryz.prog w = .ok (.int .u8 (l.getD i 0 : Nat)) w := fun i hi w => by rw [hl]; exact run_ixstr t i hi w
  have hlt : ∀ k, l.getD k 0 < 256 := fun k => by rw [hl]; exact getD_lt (byt_lt t) k
  have hsz : t.size = l.length := by rw [hl, byt_length]
  rw [← hl]
  have HL : Hid (byt t = l) := hl.symm
  have HIX := hide hix
  have HLT := hide hlt
  have HSZ := hide hsz
  obtain ⟨N, hN⟩ : ∃ N, N = t.size := ⟨_, rfl⟩
  have HN := hide hN
  have HMX := hide hm
  rw [← hN] at hm
  unfold maxLen at hm
  have hNI : (t.size : Int) = (N : Int) := by rw [hN]
  have HNL : Hid (N = l.length) := by show _ = _; rw [hN, hsz]
  clear hix hlt hl hsz hN
  rw [← HN.out] at hsmall
  go_enter Tryz.func35, Tryz.ntmps35
  go_wp2_with fail
  obtain ⟨W0, hW0⟩ : ∃ W0, W0 = w.alloc (.cells #[.string ⟨#[]⟩] 9) := ⟨_, rfl⟩
  have o0 : Own W0 w.heap.size 9 (.slice (some ⟨w.heap.size, 0, none⟩) 1 1) (strs [[]]) := by
    rw [hW0]
    exact own_new1 w 9 (.string ⟨#[]⟩) w.heap.size rfl w.heap.size (Nat.le_refl _)
  have b0 : Below w.heap.size w W0 := by rw [hW0]; exact (Below.refl _ _).alloc (Nat.le_refl _) _
  have HI : Hid (Own W0 w.heap.size 9 (.slice (some ⟨w.heap.size, 0, none⟩) 1 1) (strs [[]]) ∧ Below w.heap.size w W0) := ⟨o0, b0⟩
  rw [← hW0]
  clear hW0 o0 b0
  go_loopw [5, 6] (fun o i wr => ∃ k : Nat, k ≤ N ∧ i = .int .i64 k ∧ Hid (Own wr w.heap.size 9 o (strs (wrd d (l.take k))) ∧ Below w.heap.size w wr)) (fun _ i _ => N - (intOf i).toNat)
  case atStart => exact ⟨0, by omega, rfl, HI.out⟩
  case round =>
    obtain ⟨k, hk, rfl, HI⟩ := hrel
    obtain ⟨i1, i3⟩ := HI.out
    by_cases hkN : k < N
    · have hdk : decide ((k : Int) < (N : Int)) = true := decide_eq_true (by omega)
      have hx := HIX.out k (by rw [← HN.out]; exact hkN)
      have hc := HLT.out k
      have hkl : k < l.length := by rw [← HNL.out]; exact hkN
      have htk := take_snoc l k hkl
      obtain ⟨c, hcc⟩ : ∃ c, c = l.getD k 0 := ⟨_, rfl⟩
      rw [← hcc] at hx hc htk
      have hlen := (wrd_len d (l.take k)).1
      rw [List.length_take] at hlen
      have hpl : (wrd d (l.take k)).length ≤ 1000000000001 := by omega
      have hpn := wrd_ne d (l.take k)
      obtain ⟨ps, hps⟩ : ∃ ps, ps = wrd d (l.take k) := ⟨_, rfl⟩
      rw [← hps] at i1 hpl hpn
      by_cases h46 : c = d
      · have q1 : ((c : Int) == (d : Int)) = true := by simp; omega
        have e1 : wrd d (l.take (k + 1)) = ps ++ [[]] := by rw [htk, h46, wrd_dot, hps]
        obtain ⟨o1, w1, hap1, ow1, bw1, kw1⟩ := own_app 57 9 (.string ⟨#[]⟩) 16 Tryz.underlying57 inf9 rfl (i1.below ((Below.refl _ _).alloc (Nat.le_refl _) (.cells #[.string ⟨#[]⟩] 9))) ⟨wr.heap.size, 0, none⟩ 1 1 [.string ⟨#[]⟩] rfl
          (fun j u hu => by
            have hj := (List.getElem?_eq_some_iff.1 hu).1
            simp at hj
            subst hj
            rw [add_none]
            simp at hu
            rw [← hu]; simp) (by simp [Value.oneCell']) (by rw [strs_length]; omega) (by rw [strs_length]; omega) (by simp; have := i3.size; omega)
        have ib1 : Below w.heap.size w w1 := (i3.alloc i3.size _).trans bw1
        have io2 : Own w1 w.heap.size 9 o1 (strs (wrd d (l.take (k + 1)))) := by
          rw [e1]
          simpa [strs, show strN [] = ⟨#[]⟩ from rfl] using ow1
        have HAP1 := hide hap1
        have HO2 := hide io2
        have HB2 := hide ib1
        clear i1 i3 hap1 io2 ow1 bw1 kw1 ib1 e1 h46 hcc hkl htk hlen hpl hpn hps
        go_wp2_with (refine wpList_app_run _ rfl _ _ 57 57 rfl _ _ rfl rfl HAP1.out ?_)
        go_roundw
        case rel => exact ⟨k + 1, by omega, by go_num, HO2.out, HB2.out⟩
        case measure => simp [intOf]; omega
      · have q1 : ((c : Int) == (d : Int)) = false := by simp; omega
        have e1 : wrd d (l.take (k + 1)) = ext c ps := by rw [htk, wrd_ext d c h46, hps]
        have hn1 : 0 < ps.length := List.length_pos_iff.2 hpn
        obtain ⟨g, cap, hv, hBg, hgl, hlc, hcm, hcells, hfr⟩ := i1.lies (by rw [strs_length]; omega)
        rw [strs_length] at hv hlc
        obtain ⟨n, hn⟩ : ∃ n, n = ps.length := ⟨_, rfl⟩
        rw [← hn] at hv hlc hpl hn1
        subst hv
        have hcl := hcells (n - 1) _ (strs_get ps (n - 1) (by omega))
        have hf1 := hfr (n - 1)
        obtain ⟨p, hp⟩ : ∃ p, p = ps.getD (n - 1) [] := ⟨_, rfl⟩
        rw [← hp] at hcl
        have hplen : p.length ≤ 1000000000000 := by
          have h2 := (wrd_len d (l.take k)).2 p (by rw [hp, ← hps]; exact getD_mem (by omega))
          rw [List.length_take] at h2; omega
        have hsl : byt (t.extract k (k + 1)) = [c] := by
          unfold byt
          rw [ByteArray.data_extract, Array.toList_extract, List.extract_eq_take_drop, List.map_take, List.map_drop]
          show ((byt t).drop k).take (k + 1 - k) = [c]
          rw [HL.out, drop_getD (d := 0) hkl, ← hcc, show k + 1 - k = 1 by omega]; rfl
        obtain ⟨T, hT⟩ : ∃ T, T = t.extract k (k + 1) := ⟨_, rfl⟩
        rw [← hT] at hsl
        have hTn : T = strN [c] := by rw [← strN_byt T, hsl]
        have hTs : T.size = 1 := by rw [← byt_length, hsl]; rfl
        have hps2 : (strN p).size = p.length := strN_size p
        have hno : ¬ (9223372036854775807 < (strN p).size + T.size) := by omega
        have io2 : Own (wr.setCell ⟨g, n - 1, none⟩ (.string (strN p ++ T))) w.heap.size 9 (.slice (some ⟨g, 0, none⟩) n cap) (strs (wrd d (l.take (k + 1)))) := by
          have := i1.set (n - 1) (.string (strN (p ++ [c])))
          rw [strs_set, hp, hn, ← ext_set, ← e1, ← hn, ← hp, strN_append, ← hTn] at this
          exact this
        have ib2 : Below w.heap.size w (wr.setCell ⟨g, n - 1, none⟩ (.string (strN p ++ T))) := i3.setCell hBg _
        have HO2 := hide io2
        have HB2 := hide ib2
        obtain ⟨n1, hn1'⟩ : ∃ n1, n1 = n - 1 := ⟨_, rfl⟩
        rw [← hn1'] at hcl hf1 HO2 HB2
        have hn1I : (n : Int) - 1 = (n1 : Int) := by omega
        have hn1n : n1 < n := by omega
        have hw1 : IntKind.i64.wrap ((n : Int) - 1) = (n1 : Int) := by rw [hn1I, IntKind.wrap_i64]; omega
        have hw2 : IntKind.i64.wrap (n1 : Int) = (n1 : Int) := by rw [IntKind.wrap_i64]; omega
        have hw3 : IntKind.i64.wrap ((k : Int) + 1) = ((k + 1 : Nat) : Int) := by rw [IntKind.wrap_i64]; omega
        have hw4 : IntKind.i64.wrap (((k + 1 : Nat) : Int)) = ((k + 1 : Nat) : Int) := by rw [IntKind.wrap_i64]; omega
        have HT := hide hT
        clear i1 i3 io2 ib2 e1 h46 hcc htk hlen hpn hcells hfr hp hsl hTn hps hn1' hn hT
        go_wp2_with fail
        go_region
        rw [← HT.out]
        go_wp2_with fail
        go_roundw
        case rel => exact ⟨k + 1, by omega, by go_num, HO2.out.drew, HB2.out.drew⟩
        case measure => simp [intOf]; omega
    · have hdk : decide ((k : Int) < (N : Int)) = false := decide_eq_false (by omega)
      rw [List.take_of_length_le (by rw [← HNL.out]; omega)] at i1
      have H1 := hide i1
      have H3 := hide i3
      clear i1 i3
      go_wp2_with fail
      go_ret
      exact ⟨_, rfl, H1.out, H3.out⟩
end Go.Proofs.YtiejandeoopiiaaGreatDoor
