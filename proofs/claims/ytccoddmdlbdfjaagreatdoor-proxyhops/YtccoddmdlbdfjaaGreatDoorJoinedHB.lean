/-
  trimmed, Value, hasLoneEnd of package head; hasLoneEnd of package head: strings.ContainsAny at the two bytes that end a line; conditions as each theorem has them.
-/
import Derived.Test.YtccoddmdlbdfjaaGreatDoorHA
import Derived.Test.YtccoddmdlbdfjaaGreatDoorJoinedF
import Derived.Test.YtccoddmdlbdfjaaGreatDoorShelf
import Derived.Laws.RangeAny
import Derived.Laws.Runes
import Derived.WalkMore
import Derived.Lib.OthersKept
import Derived.Deep.QuietTactic
set_option linter.unusedSimpArgs false
set_option linter.unusedVariables false
namespace Go.Proofs.YtccoddmdlbdfjaaGreatDoor
open Go.RowKit

theorem dw_map (p : UInt8 → Bool) (q : Nat → Bool) (h : ∀ x, p x = q x.toNat) : ∀ l : List UInt8, (l.dropWhile p).map UInt8.toNat = (l.map UInt8.toNat).dropWhile q
  | [] => rfl
  | c :: r => by
    rw [List.dropWhile_cons, List.map_cons, List.dropWhile_cons, ← h c]
    split
    · exact dw_map p q h r
    · rfl
theorem bk_byte : ∀ x : UInt8, ([32, 9] : List UInt8).contains x = bk x.toNat := by
  intro x
  unfold bk
  by_cases h1 : x = 32
  · subst h1; rfl
  · by_cases h2 : x = 9
    · subst h2; rfl
    · have e1 : ¬ x.toNat = 32 := fun e => h1 (UInt8.toNat_inj.1 (by simpa using e))
      have e2 : ¬ x.toNat = 9 := fun e => h2 (UInt8.toNat_inj.1 (by simpa using e))
      simp [h1, h2, e1, e2]
theorem trimS_trim (l : List UInt8) : (Lib.trimS l [32, 9]).map UInt8.toNat = trim (l.map UInt8.toNat) := by
  unfold Lib.trimS Lib.trimLeftS Lib.trimRightS trim trimL trimR
  rw [dw_map _ bk bk_byte, List.map_reverse, dw_map _ bk bk_byte, List.map_reverse]
theorem strN_mk (l : List UInt8) : (⟨l.toArray⟩ : ByteArray) = strN (l.map UInt8.toNat) := by
  rw [← strN_byt ⟨l.toArray⟩, byt_mk]
theorem trimmed_at (t : ByteArray) (w : World) (hm : t.size ≤ maxLen) : Calls Tryz.prog 137 #[.string t] w fun e w' => e = .returned (.string (strN (trim (byt t)))) ∧ Below w.heap.size w w' := by
  have HT := hide (Any.strings_Trim_laid Tryz.lays160 (by kernel_rfl) t ⟨#[32, 9]⟩ w (by unfold maxLen at hm; omega) (by decide) (ascii_of_all (by decide)))
  go_enter Tryz.func137, Tryz.ntmps137
  go_wp2_with fail
  refine HT.out.mono ?_
  rintro e w0 ⟨rfl, hb⟩
  have HB := hide hb
  have HE : Hid ((⟨(Lib.trimS t.data.toList [32, 9]).toArray⟩ : ByteArray) = strN (trim (byt t))) := by
    show _ = _
    rw [strN_mk, trimS_trim]; rfl
  rw [HE.out]
  clear hb HT
  go_wp2_with fail
  go_ret
  exact ⟨rfl, HB.out⟩
theorem toList_two (a b : List Nat) (ha : ∀ x ∈ a, x < 256) (hb : ∀ x ∈ b, x < 256) : ((strN a).toList == (strN b).toList) = decide (a = b) := by
  rw [Lib.toList_data (strN b), toList_byt, byt_strN a ha]
  congr 1
  have := byt_strN b hb
  unfold byt at this
  rw [this]
theorem trim_mem {l : List Nat} {x : Nat} (h : x ∈ trim l) : x ∈ l := by
  have e1 : trim l <:+: l := by
    unfold trim trimL trimR
    refine List.IsInfix.trans (List.dropWhile_suffix _).isInfix ?_
    have := (List.dropWhile_suffix bk (l := l.reverse))
    have h2 := List.reverse_prefix.2 this
    rw [List.reverse_reverse] at h2
    exact h2.isInfix
  exact e1.subset h
set_option maxRecDepth 100000 in
set_option maxHeartbeats 2000000 in
theorem value_at (t : ByteArray) (w : World) (hm : t.size ≤ maxLen) : Calls Tryz.prog 115 #[.string t] w fun e w' => e = .returned (.bool (value (byt t))) ∧ Below w.heap.size w w' := by
  have hlt := byt_lt t
  have HLT : Hid (∀ k, (byt t).getD k 0 < 256) := fun k => getD_lt (byt_lt t) k
  have HTR := hide (trimmed_at t w hm)
  have hbq := toList_two (trim (byt t)) (byt t) (fun x hx => hlt x (trim_mem hx)) hlt
  rw [strN_byt] at hbq
  obtain ⟨T, hT⟩ : ∃ T, T = strN (trim (byt t)) := ⟨_, rfl⟩
  rw [← hT] at HTR hbq
  clear hT hlt
  obtain ⟨l, hl⟩ : ∃ l, l = byt t := ⟨_, rfl⟩
  rw [← hl] at HLT hbq ⊢
  obtain ⟨N, hN⟩ : ∃ N, N = t.size := ⟨_, rfl⟩
  have HNL : Hid (N = l.length) := by show _ = _; rw [hN, hl, byt_length]
  have hNI : (t.size : Int) = (N : Int) := by rw [hN]
  unfold maxLen at hm
  rw [← hN] at hm
  by_cases h64 : 4096 < N
  · have q1 : decide (4096 < (N : Int)) = true := decide_eq_true (by omega)
    have q2 : decide (4096 < N) = true := decide_eq_true (by omega)
    have hr : value l = false := by unfold value; rw [← HNL.out, decide_eq_false (show ¬ N ≤ 4096 by omega)]; simp
    rw [hr]
    clear hr hl hN hbq
    go_enter Tryz.func115, Tryz.ntmps115
    go_wp2_with fail
    go_ret
    exact ⟨rfl, Below.refl _ _⟩
  have q1 : decide (4096 < (N : Int)) = false := decide_eq_false (by omega)
  have q2 : decide (4096 < N) = false := decide_eq_false (by omega)
  have hN64 : N ≤ 4096 := by omega
  by_cases htr : trim l = l
  · rw [decide_eq_true htr] at hbq
    have hbq2 : (T.toList != t.toList) = false := by rw [bne, hbq]; rfl
    have HR : Hid (value l = l.all vb) := by show _ = _; unfold value; rw [← HNL.out, decide_eq_true (show N ≤ 4096 by omega), decide_eq_true htr]; simp
    have HL := hide hl
    have HN := hide hN
    clear hl hN hm h64 htr
    go_enter Tryz.func115, Tryz.ntmps115
    go_wp2_with fail
    refine HTR.out.mono ?_
    rintro e w1 ⟨rfl, hb1⟩
    obtain ⟨cap, w2, hcv, hcap, hb2, hbeg⟩ := conv_bytes t w1
    rw [← HN.out] at hcv hcap
    rw [← HL.out] at hbeg
    have HI : Hid (Beg w2 w1.heap.size l ∧ Below w.heap.size w w2) := ⟨hbeg, hb1.trans (hb2.mono hb1.size)⟩
    clear hb1 hb2 hbeg HTR
    go_wp2_with fail
    clear hcv hbq hbq2
    go_loop [17] (fun i => ∃ k : Nat, k ≤ N ∧ i = .int .i64 k ∧ Hid ((l.take k).all vb = true)) (fun i => N - (intOf i).toNat)
    case atStart => exact ⟨0, by omega, rfl, rfl⟩
    case round =>
      obtain ⟨k, hk, rfl, HT⟩ := hrel
      by_cases hkN : k < N
      · have hdk : decide ((k : Int) < (N : Int)) = true := decide_eq_true (by omega)
        have hkl : k < l.length := by rw [← HNL.out]; exact hkN
        have hcl := HI.out.1.cell hkl
        have hc := HLT.out k
        have HA : Hid (vb (l.getD k 0) = true → (l.take (k + 1)).all vb = true) := fun h => all_take _ l k hkl HT.out h
        have HF : Hid (vb (l.getD k 0) = false → l.all vb = false) := fun h => all_not _ l k hkl h
        obtain ⟨c, hcc⟩ : ∃ c, c = l.getD k 0 := ⟨_, rfl⟩
        rw [← hcc] at hcl HA HF hc
        clear hcc hkl
        by_cases h9 : c = 9
        · have e9 : ((c : Int) != 9) = false := by simp; omega
          have ht := hide (HA.out (by simp [vb, h9]))
          clear HA HF h9
          go_wp2_with fail
          go_round
          case rel => exact ⟨k + 1, by omega, by go_num, ht.out⟩
          case measure => simp [intOf]; omega
        · have e9 : ((c : Int) != 9) = true := by simp; omega
          by_cases h32 : c < 32
          · have d1 : decide ((c : Int) < 32) = true := decide_eq_true (by omega)
            have hf := hide (HF.out (by simp [vb]; omega))
            clear HA HF h9
            go_wp2_with fail
            go_ret
            refine ⟨?_, HI.out.2⟩
            rw [HR.out, hf.out]; rfl
          · have d1 : decide ((c : Int) < 32) = false := decide_eq_false (by omega)
            by_cases h126 : 126 < c
            · have d2 : decide (126 < (c : Int)) = true := decide_eq_true (by omega)
              have hf := hide (HF.out (by simp [vb]; omega))
              clear HA HF h9
              go_wp2_with fail
              go_ret
              refine ⟨?_, HI.out.2⟩
              rw [HR.out, hf.out]; rfl
            · have d2 : decide (126 < (c : Int)) = false := decide_eq_false (by omega)
              have ht := hide (HA.out (by simp [vb]; omega))
              clear HA HF h9
              go_wp2_with fail
              go_round
              case rel => exact ⟨k + 1, by omega, by go_num, ht.out⟩
              case measure => simp [intOf]; omega
      · have hdk : decide ((k : Int) < (N : Int)) = false := decide_eq_false (by omega)
        have hr := hide (by have := HT.out; rw [List.take_of_length_le (by rw [← HNL.out]; omega)] at this; exact this : l.all vb = true)
        go_wp2_with fail
        go_ret
        refine ⟨?_, HI.out.2⟩
        rw [HR.out, hr.out]; rfl
  · rw [decide_eq_false htr] at hbq
    have hbq2 : (T.toList != t.toList) = true := by rw [bne, hbq]; rfl
    have hr : value l = false := by unfold value; rw [decide_eq_false htr]; simp
    rw [hr]
    clear hr hl hN htr
    go_enter Tryz.func115, Tryz.ntmps115
    go_wp2_with fail
    refine HTR.out.mono ?_
    rintro e w1 ⟨rfl, hb1⟩
    have HB := hide hb1
    clear hb1 HTR
    go_wp2_with fail
    go_ret
    exact ⟨rfl, HB.out⟩
end Go.Proofs.YtccoddmdlbdfjaaGreatDoor

set_option linter.unusedSimpArgs false
set_option linter.unusedVariables false
namespace Go.Proofs.YtccoddmdlbdfjaaGreatDoor
open Go.RowKit

theorem lone_byte : ∀ x : UInt8, ([13, 10] : List UInt8).contains x = (decide (x.toNat = 13) || decide (x.toNat = 10)) := by
  intro x
  by_cases h1 : x = 13
  · subst h1; rfl
  · by_cases h2 : x = 10
    · subst h2; rfl
    · have e1 : ¬ x.toNat = 13 := fun e => h1 (UInt8.toNat_inj.1 (by simpa using e))
      have e2 : ¬ x.toNat = 10 := fun e => h2 (UInt8.toNat_inj.1 (by simpa using e))
      simp [h1, h2, e1, e2]
theorem idxAny_lone : ∀ l : List UInt8, decide (0 ≤ Lib.indexAny l [13, 10]) = lone (l.map UInt8.toNat)
  | [] => rfl
  | c :: r => by
    have ih := idxAny_lone r
    have hge := Lib.indexAny_ge [13, 10] r
    unfold lone at ih ⊢
    rw [Lib.indexAny, List.map_cons, List.any_cons, ← ih, ← lone_byte c]
    cases ([13, 10] : List UInt8).contains c with
    | true => simp
    | false =>
      simp only [Bool.false_eq_true, if_false, Bool.false_or]
      by_cases h : Lib.indexAny r [13, 10] = -1
      · simp [h]
      · rw [if_neg (by simpa using h)]
        apply decide_eq_decide.2; omega
theorem z171 (w : World) : (zeroValue 241).run Tryz.prog w = .ok (.agg (Array.replicate 256 (.bool false))) w := (zero_of_info (n := 256) (by kernel_rfl)).1 w
set_option maxRecDepth 100000 in
theorem cont_at (t : ByteArray) (w : World) (h : Calls Tryz.prog 157 #[.string t, .string ⟨#[13, 10]⟩] w fun e w' => ∃ i : Int, e = .returned (.int .i64 i) ∧ decide (0 ≤ i) = lone (byt t) ∧ Below w.heap.size w w') : Calls Tryz.prog 125 #[.string t, .string ⟨#[13, 10]⟩] w fun e w' => e = .returned (.bool (lone (byt t))) ∧ Below w.heap.size w w' := by
  have H := hide h
  clear h
  go_enter Tryz.func125, Tryz.ntmps125
  go_wp2_with fail
  refine H.out.mono ?_
  rintro e w1 ⟨i, rfl, hi, hb⟩
  have HI := hide hi
  have HB := hide hb
  clear hi hb H
  go_wp2_with fail
  go_ret
  exact ⟨by rw [← HI.out]; rfl, HB.out⟩
theorem long_at (t : ByteArray) (w : World) (h8 : 8 < t.size) (hs : t.size < 4294967281) : Calls Tryz.prog 157 #[.string t, .string ⟨#[13, 10]⟩] w fun e w' => ∃ i : Int, e = .returned (.int .i64 i) ∧ decide (0 ≤ i) = lone (byt t) ∧ Below w.heap.size w w' := by
  refine (Tryz.strings_IndexAny_long z171 t ⟨#[13, 10]⟩ w (by decide) h8 hs (by decide) (ascii_of_all (by decide))).mono ?_
  rintro e w' ⟨rfl, rfl⟩
  refine ⟨_, rfl, idxAny_lone _, ((Below.refl _ _).alloc (Nat.le_refl _) _).alloc (by simp) _⟩

theorem enc_big (r : Nat) (hr : 128 ≤ r) : (2 ≤ (Utf8.encode r).size ∧ (Utf8.encode r).size ≤ 4) ∧ ∀ i, i < (Utf8.encode r).size → 128 ≤ ((Utf8.encode r).data.toList.getD i 0).toNat := by
  unfold Utf8.encode
  obtain ⟨c, hc⟩ : ∃ c, c = (if Utf8.valid r = true then (r : Int).toNat else Utf8.runeError) := ⟨_, rfl⟩
  have h128 : 128 ≤ c := by
    rw [hc]; split
    · omega
    · decide
  simp only [← hc]
  rw [if_neg (by omega)]
  have key : ∀ n : Nat, 128 ≤ n % 256 → 128 ≤ (UInt8.ofNat n).toNat := fun n h => by rw [UInt8.toNat_ofNat']; exact h
  have hle : c ≤ 1114111 := by
    rw [hc]; split
    · rename_i hv
      simp [Utf8.valid] at hv
      omega
    · decide
  split
  · refine ⟨⟨by show 2 ≤ Array.size _; simp, by show Array.size _ ≤ 4; simp⟩, fun i hi => ?_⟩
    have hi : i < 2 := hi
    rcases (show i = 0 ∨ i = 1 by omega) with rfl | rfl
    · exact key _ (by omega)
    · exact key _ (by omega)
  · split
    · refine ⟨⟨by show 2 ≤ Array.size _; simp, by show Array.size _ ≤ 4; simp⟩, fun i hi => ?_⟩
      have hi : i < 3 := hi
      rcases (show i = 0 ∨ i = 1 ∨ i = 2 by omega) with rfl | rfl | rfl
      · exact key _ (by omega)
      · exact key _ (by omega)
      · exact key _ (by omega)
    · refine ⟨⟨by show 2 ≤ Array.size _; simp, by show Array.size _ ≤ 4; simp⟩, fun i hi => ?_⟩
      have hi : i < 4 := hi
      rcases (show i = 0 ∨ i = 1 ∨ i = 2 ∨ i = 3 by omega) with rfl | rfl | rfl | rfl
      · exact key _ (by omega)
      · exact key _ (by omega)
      · exact key _ (by omega)
      · exact key _ (by omega)
theorem valid_at (r : Nat) (w : World) : Calls Tryz.prog 211 #[.int .i32 r] w fun e w' => (∃ q, e = .returned (.bool q)) ∧ w = w' := by
  have d1 : decide (0 ≤ (r : Int)) = true := decide_eq_true (by omega)
  by_cases h1 : r < 55296
  · have d2 : decide ((r : Int) < 55296) = true := decide_eq_true (by omega)
    go_enter Tryz.func211, Tryz.ntmps211
    go_wp2
    go_ret
    exact ⟨⟨_, rfl⟩, rfl⟩
  · have d2 : decide ((r : Int) < 55296) = false := decide_eq_false (by omega)
    by_cases h2 : 57343 < r
    · have d3 : decide (57343 < (r : Int)) = true := decide_eq_true (by omega)
      by_cases h3 : r ≤ 1114111
      · have d4 : decide ((r : Int) ≤ 1114111) = true := decide_eq_true (by omega)
        go_enter Tryz.func211, Tryz.ntmps211
        go_wp2
        go_ret
        exact ⟨⟨_, rfl⟩, rfl⟩
      · have d4 : decide ((r : Int) ≤ 1114111) = false := decide_eq_false (by omega)
        go_enter Tryz.func211, Tryz.ntmps211
        go_wp2
        go_ret
        exact ⟨⟨_, rfl⟩, rfl⟩
    · have d3 : decide (57343 < (r : Int)) = false := decide_eq_false (by omega)
      go_enter Tryz.func211, Tryz.ntmps211
      go_wp2
      go_ret
      exact ⟨⟨_, rfl⟩, rfl⟩
theorem getD_byt (t : ByteArray) (i : Nat) : (byt t).getD i 0 = (t.data.toList.getD i 0).toNat := by
  unfold byt
  rw [List.getD, List.getElem?_map, List.getD]
  cases t.data.toList[i]? <;> rfl
set_option maxRecDepth 100000 in
set_option maxHeartbeats 2000000 in
theorem rune_big (r : Nat) (w : World) (h1 : 128 ≤ r) (h2 : r ≤ 2147483647) (h3 : r ≠ 65533) : Calls Tryz.prog 187 #[.string ⟨#[13, 10]⟩, .int .i32 r] w fun e w' => e = .returned (.int .i64 (-1)) ∧ Below w.heap.size w w' := by
  have d1 : decide (0 ≤ (r : Int)) = true := decide_eq_true (by omega)
  have d2 : decide ((r : Int) < 128) = false := decide_eq_false (by omega)
  have d3 : ((r : Int) == 65533) = false := by simp; omega
  have HV := hide (valid_at r w)
  have hcv0 : ∀ w, (convert 21 9 (.int .i32 (r : Int))).run Tryz.prog w = .ok (.string (Utf8.encode r)) w := fun w => run_convert_int_string w 21 9 .i32 r (by rw [Tryz.underlying21]; rfl) Tryz.underlying9
  obtain ⟨⟨he1, he4⟩, he2⟩ := enc_big r h1
  obtain ⟨E, hE⟩ : ∃ E, E = Utf8.encode r := ⟨_, rfl⟩
  rw [← hE] at hcv0 he1 he2 he4
  clear hE
  have HC := hide hcv0
  clear hcv0
  obtain ⟨S, hS⟩ : ∃ S, S = E.size := ⟨_, rfl⟩
  have hSI : (E.size : Int) = (S : Int) := by rw [hS]
  have h1E : 1 < E.size := by omega
  have hb1 : 128 ≤ (E[1]'h1E).toNat := by
    have := he2 1 h1E
    have e : E.data.toList.getD 1 0 = E[1]'h1E := by
      rw [List.getD, List.getElem?_eq_getElem (by rw [Array.length_toList]; exact h1E)]; rfl
    rw [e] at this; exact this
  rw [← hS] at he1 he4
  have hm3 : ¬ (10 : Int) = ((E[1]'h1E).toNat : Int) := by omega
  have hm4 : ¬ 10 = (E[1]'h1E).toNat := by omega
  have hm5 : ((10 : Int) == ((E[1]'h1E).toNat : Int)) = false := by simp; omega
  have hm6 : ((10 : Int) != ((E[1]'h1E).toNat : Int)) = true := by simp; omega
  have hm7 : ((((⟨#[13, 10]⟩ : ByteArray)[1]'(by decide)).toNat : Int) != ((E[1]'h1E).toNat : Int)) = true := hm6
  have hm8 : ((((⟨#[13, 10]⟩ : ByteArray)[1]'(by decide)).toNat : Int) == ((E[1]'h1E).toNat : Int)) = false := hm5
  have HI : Hid (∀ W (x : Int), Calls Tryz.prog 134 #[.string ByteArray.empty, .int .u8 x] W fun e w' => e = .returned (.int .i64 (-1)) ∧ w' = W) := fun W x => Tryz.strings_IndexByte ⟨#[]⟩ x W
  clear he2 h3
  have HS := hide hS
  clear hS
  go_enter Tryz.func187, Tryz.ntmps187
  go_wp2_with fail
  refine HV.out.mono ?_
  rintro e w1 ⟨⟨q, rfl⟩, rfl⟩
  cases q with
  | false =>
    go_wp2_with fail
    go_ret
    exact ⟨rfl, Below.refl _ _⟩
  | true =>
    have hcv := HC.out
    by_cases h2S : S = 2
    · rw [h2S] at hSI
      go_wp2_with fail
      go_step3
      go_wp2_with fail
      refine wp_loop_rounds 1 ?_
      rw [rounds_succ]
      go_wp2_with fail
      go_step3
      go_wp2_with fail
      go_region
      all_goals go_wp2_with fail
      go_region_with (first | (go_at_call 134; refine (HI.out _ _).mono ?_; rintro e w9 ⟨rfl, rfl⟩))
      all_goals go_wp2_with fail
      all_goals simp only [Exit.noGoto_ret, Exit.inBlock, Exit.then]
      all_goals (try rw [Exit.noGoto_ret])
      all_goals (try simp only [Exit.noGoto_ret, Exit.inBlock, Exit.then])
      all_goals go_ret
      all_goals exact ⟨rfl, by repeat (first | exact Below.refl _ _ | refine Below.drew ?_)⟩
    · have dS : decide ((S : Int) - 1 < 2) = false := decide_eq_false (by omega)
      go_wp2_with fail
      go_step3
      go_wp2_with fail
      refine wp_loop_rounds 1 ?_
      rw [rounds_succ]
      go_wp2_with fail
      rw [Exit.noGoto_ret]
      go_ret
      exact ⟨rfl, Below.refl _ _⟩

set_option maxRecDepth 100000 in
set_option maxHeartbeats 2000000 in
theorem rune_err (w : World) : Calls Tryz.prog 187 #[.string ⟨#[13, 10]⟩, .int .i32 65533] w fun e w' => e = .returned (.int .i64 (-1)) ∧ Below w.heap.size w w' := by
  have n0 := fun ty => run_next_ascii (P := Tryz.prog) w ⟨#[13, 10]⟩ 0 ty (by decide) (by decide)
  have n1 := fun ty => run_next_ascii (P := Tryz.prog) w ⟨#[13, 10]⟩ 1 ty (by decide) (by decide)
  have n2 := fun ty => run_next_end (P := Tryz.prog) w ⟨#[13, 10]⟩ 2 ty (by decide)
  go_enter Tryz.func187, Tryz.ntmps187
  go_wp2_with fail
  refine wp_loop_rounds 3 ?_
  rw [rounds_succ]
  go_wp2_with fail
  rw [rounds_succ]
  go_wp2_with fail
  rw [rounds_succ]
  go_wp2_with fail
  go_ret
  exact ⟨rfl, (Below.refl _ _).alloc (Nat.le_refl _) _⟩
theorem rune_high (r : Nat) (w : World) (h1 : 128 ≤ r) (h2 : r ≤ 2147483647) : Calls Tryz.prog 187 #[.string ⟨#[13, 10]⟩, .int .i32 r] w fun e w' => e = .returned (.int .i64 (-1)) ∧ Below w.heap.size w w' := by
  by_cases h : r = 65533
  · subst h; exact rune_err w
  · exact rune_big r w h1 h2 h
theorem get_bang (s : ByteArray) (i : Nat) (h : i < s.size) : (s.get! i).toNat = (byt s).getD i 0 := by
  rw [getD_byt]
  have h' : i < s.data.toList.length := by rw [Array.length_toList]; exact h
  rw [List.getD, List.getElem?_eq_getElem h']
  simp [ByteArray.get!, getElem!_pos, h]
theorem decode_cont (s : ByteArray) (pos : Nat) (h : pos < s.size) (h0 : 128 ≤ (byt s).getD pos 0) : ∀ j, j < (Utf8.decode s pos).2 → pos + j < s.size ∧ 128 ≤ (byt s).getD (pos + j) 0 := by
  have key : ∀ k, (decide (pos + k < s.size) && ((s.get! (pos + k)).toNat / 64 == 2)) = true → pos + k < s.size ∧ 128 ≤ (byt s).getD (pos + k) 0 := by
    intro k hk
    simp at hk
    refine ⟨hk.1, ?_⟩
    rw [← get_bang s _ hk.1]
    omega
  intro j hj
  by_cases hj0 : j = 0
  · subst hj0; exact ⟨h, h0⟩
  have hle : ∀ d, d = (Utf8.decode s pos).2 → (d = 1 ∨ (d = 2 ∧ (decide (pos + 1 < s.size) && ((s.get! (pos + 1)).toNat / 64 == 2)) = true) ∨ (d = 3 ∧ (decide (pos + 1 < s.size) && ((s.get! (pos + 1)).toNat / 64 == 2)) = true ∧ (decide (pos + 2 < s.size) && ((s.get! (pos + 2)).toNat / 64 == 2)) = true) ∨ (d = 4 ∧ (decide (pos + 1 < s.size) && ((s.get! (pos + 1)).toNat / 64 == 2)) = true ∧ (decide (pos + 2 < s.size) && ((s.get! (pos + 2)).toNat / 64 == 2)) = true ∧ (decide (pos + 3 < s.size) && ((s.get! (pos + 3)).toNat / 64 == 2)) = true)) := by
    intro d hd
    simp only [Utf8.decode] at hd
    repeat' split at hd
    all_goals simp_all
  rcases hle _ rfl with e | ⟨e, a1⟩ | ⟨e, a1, a2⟩ | ⟨e, a1, a2, a3⟩
  · omega
  · obtain rfl : j = 1 := by omega
    exact key 1 a1
  · rcases (show j = 1 ∨ j = 2 by omega) with rfl | rfl
    · exact key 1 a1
    · exact key 2 a2
  · rcases (show j = 1 ∨ j = 2 ∨ j = 3 by omega) with rfl | rfl | rfl
    · exact key 1 a1
    · exact key 2 a2
    · exact key 3 a3
theorem decode_low (s : ByteArray) (pos : Nat) (h : pos < s.size) (h0 : (byt s).getD pos 0 < 128) : Utf8.decode s pos = ((byt s).getD pos 0, 1) := by
  have e := get_bang s pos h
  simp only [Utf8.decode, Nat.add_zero, e]
  rw [if_pos h0]
theorem idx2 (r : Nat) (h : r < 128) : (0 ≤ Lib.indexByte [13, 10] ((r : Int).toNat.toUInt8)) ↔ (r = 13 ∨ r = 10) := by
  have : ∀ c : Fin 128, decide (0 ≤ Lib.indexByte [13, 10] ((c.val : Int).toNat.toUInt8)) = (decide (c.val = 13) || decide (c.val = 10)) := by decide +kernel
  have := this ⟨r, h⟩
  constructor
  · intro h0
    simp only [decide_eq_true h0] at this
    simpa using this.symm
  · intro h0
    have e : (decide (r = 13) || decide (r = 10)) = true := by simpa using h0
    simp only [e] at this
    exact of_decide_eq_true this
/-- No line's end among the first k. -/
def NoL (l : List Nat) (k : Nat) : Prop := ∀ j, j < k → l.getD j 0 ≠ 13 ∧ l.getD j 0 ≠ 10
theorem lone_no {l : List Nat} (h : NoL l l.length) : lone l = false := by
  rw [lone_false]
  intro c hc
  obtain ⟨i, hi, rfl⟩ := List.getElem_of_mem hc
  have := h i hi
  simpa [List.getD, List.getElem?_eq_getElem hi] using this
theorem lone_yes {l : List Nat} {k : Nat} (hk : k < l.length) (h : l.getD k 0 = 13 ∨ l.getD k 0 = 10) : lone l = true := by
  unfold lone
  rw [List.any_eq_true]
  exact ⟨l.getD k 0, getD_mem hk, by simpa using h⟩
set_option maxRecDepth 100000 in
set_option maxHeartbeats 4000000 in
theorem short_at (t : ByteArray) (w : World) (h8 : t.size ≤ 8) : Calls Tryz.prog 157 #[.string t, .string ⟨#[13, 10]⟩] w fun e w' => ∃ i : Int, e = .returned (.int .i64 i) ∧ decide (0 ≤ i) = lone (byt t) ∧ Below w.heap.size w w' := by
  have hl := byt_length t
  obtain ⟨N, hN⟩ : ∃ N, N = t.size := ⟨_, rfl⟩
  have hNI : (t.size : Int) = (N : Int) := by rw [hN]
  have HN := hide hN
  have HL : Hid ((byt t).length = N) := by show _ = _; rw [hl, hN]
  have HB8 : Hid (N ≤ 8) := by show _ ≤ _; rw [hN]; exact h8
  have HS : Hid (∀ W, Calls Tryz.prog 188 #[.int .i64 (N : Int)] W fun e w' => e = .returned (.bool false) ∧ w' = W) := fun W => by
    have := Tryz.strings_shouldUseASCIISet (N : Int) W
    rw [decide_eq_false (show ¬ (8 : Int) < (N : Int) by omega)] at this
    exact this
  obtain ⟨K, hK⟩ : ∃ K, K = w.heap.size := ⟨_, rfl⟩
  obtain ⟨W0, hW0⟩ : ∃ W0, W0 = w.iter t 0 := ⟨_, rfl⟩
  have HI : Hid (W0.heap[K]? = some (.stringIter t 0) ∧ Below K w W0) := by
    rw [hW0, hK]
    exact ⟨World.iter_heap w t 0, (Below.refl _ _).alloc (Nat.le_refl _) _⟩
  have HK := hide hK
  have HW0 := hide hW0.symm
  clear hl hN h8 hK hW0
  go_enter Tryz.func157, Tryz.ntmps157
  go_wp2_with fail
  refine (HS.out _).mono ?_
  rintro e w1 ⟨rfl, rfl⟩
  go_wp2_with fail
  rw [HW0.out]
  rw [← HK.out]
  go_loopw [9, 10] (fun _ _ wr => ∃ pos : Nat, pos ≤ N ∧ Hid (wr.heap[K]? = some (.stringIter t pos) ∧ Below K w1 wr ∧ NoL (byt t) pos)) (fun _ _ wr => N - wr.iterPos K)
  case atStart => exact ⟨0, by omega, HI.out.1, HI.out.2, fun j hj => by omega⟩
  case round =>
    obtain ⟨pos, hp, HR⟩ := hrel
    obtain ⟨r1, r2, r3⟩ := HR.out
    by_cases hpN : pos < N
    · have hnx := fun ty => Lib.run_next_any_at (P := Tryz.prog) wr K t pos ty r1 (by rw [← HN.out]; exact hpN)
      have hh := Lib.iterAt_heap wr K t pos (pos + (Utf8.decode t pos).2) r1
      have hbb := Lib.below_iterAt r2 (Nat.le_refl K) t (pos + (Utf8.decode t pos).2)
      have hip : wr.iterPos K = pos := by simp [World.iterPos, r1]
      by_cases hlo : (byt t).getD pos 0 < 128
      · have hd := decode_low t pos (by rw [← HN.out]; exact hpN) hlo
        rw [hd] at hnx hh hbb
        simp only at hnx hh hbb
        obtain ⟨c, hc⟩ : ∃ c, c = (byt t).getD pos 0 := ⟨_, rfl⟩
        rw [← hc] at hnx hlo
        obtain ⟨W2, hW2⟩ : ∃ W2, W2 = wr.iterAt K t (pos + 1) := ⟨_, rfl⟩
        rw [← hW2] at hnx hh hbb
        have HRU := hide (Tryz.strings_IndexRune_ascii ⟨#[13, 10]⟩ c W2 (by omega) (by omega))
        have hx2 := idx2 c hlo
        obtain ⟨x, hx⟩ : ∃ x, x = Lib.indexByte [13, 10] ((c : Int).toNat.toUInt8) := ⟨_, rfl⟩
        rw [show (⟨#[13, 10]⟩ : ByteArray).data.toList = [13, 10] from rfl, ← hx] at HRU
        rw [← hx] at hx2
        have HC := hide hc
        have HH := hide hh
        have HBB := hide hbb
        have R3 := hide r3
        have HIP := hide hip
        clear hx hW2 hh hbb hd r1 r2 r3 hc hip HR
        by_cases hcr : c = 13 ∨ c = 10
        · have q : decide (0 ≤ x) = true := decide_eq_true (hx2.2 hcr)
          have HY : Hid (lone (byt t) = true) := lone_yes (k := pos) (by rw [HL.out]; exact hpN) (by rw [← HC.out]; exact hcr)
          clear hx2 hcr
          go_wp2_with fail
          refine HRU.out.mono ?_
          rintro e w3 ⟨rfl, hw3⟩
          rw [hw3]
          clear hw3
          go_wp2_with fail
          go_ret
          exact ⟨_, rfl, by rw [HY.out]; exact decide_eq_true (by omega), by rw [← HK.out]; exact HBB.out⟩
        · have q : decide (0 ≤ x) = false := decide_eq_false (fun h => hcr (hx2.1 h))
          have HY : Hid (NoL (byt t) (pos + 1)) := fun j hj => by
            by_cases e : j = pos
            · subst e
              rw [← HC.out]
              exact ⟨fun h => hcr (Or.inl h), fun h => hcr (Or.inr h)⟩
            · exact R3.out j (by omega)
          clear hx2 hcr
          go_wp2_with fail
          refine HRU.out.mono ?_
          rintro e w3 ⟨rfl, hw3⟩
          rw [hw3]
          clear hw3
          go_wp2_with fail
          go_roundw
          case rel => exact ⟨pos + 1, by omega, HH.out, HBB.out, HY.out⟩
          case measure =>
            have e1 : W2.iterPos K = pos + 1 := by simp [World.iterPos, HH.out]
            rw [e1, HIP.out]; omega
      · have hsz : pos < t.size := by rw [← HN.out]; exact hpN
        have hcont := decode_cont t pos hsz (by omega)
        have hb0 : 128 ≤ (t[pos]'hsz).toNat := by
          have := get_bang t pos hsz
          have e : t.get! pos = t[pos]'hsz := by have := get_at t pos hsz; simpa using this
          rw [e] at this; omega
        obtain ⟨hd1, hd2⟩ := decode_high t pos hsz hb0
        have hd3 := decode_le t pos
        obtain ⟨d, hdd⟩ : ∃ d, d = Utf8.decode t pos := ⟨_, rfl⟩
        rw [← hdd] at hnx hh hbb hcont hd1 hd2 hd3
        obtain ⟨r, m⟩ := d
        simp only at hnx hh hbb hcont hd1 hd2 hd3
        obtain ⟨W2, hW2⟩ : ∃ W2, W2 = wr.iterAt K t (pos + m) := ⟨_, rfl⟩
        rw [← hW2] at hnx hh hbb
        have HRU := hide (rune_high r W2 hd1 hd3)
        have hle : pos + m ≤ N := by have := (hcont (m - 1) (by omega)).1; rw [← HN.out] at this; omega
        have HY : Hid (NoL (byt t) (pos + m)) := fun j hj => by
          by_cases e : j < pos
          · exact r3 j e
          · have := (hcont (j - pos) (by omega)).2
            rw [show pos + (j - pos) = j by omega] at this
            omega
        have HH := hide hh
        have HBB := hide hbb
        have HIP := hide hip
        clear hW2 hh hbb r1 r2 r3 hip HR hcont hdd hb0 hlo hsz
        go_wp2_with fail
        refine HRU.out.mono ?_
        rintro e w3 ⟨rfl, hb3⟩
        have H3 : Hid (w3.heap[K]? = some (.stringIter t (pos + m))) := (hb3.block K (lt_of_some HH.out)).trans HH.out
        have B3 : Hid (Below K w1 w3) := HBB.out.trans (hb3.mono (Nat.le_of_lt (lt_of_some HH.out)))
        clear hb3 HRU
        go_wp2_with fail
        go_roundw
        case rel => exact ⟨pos + m, hle, H3.out, B3.out, HY.out⟩
        case measure =>
          have e1 : w3.iterPos K = pos + m := by simp [World.iterPos, H3.out]
          rw [e1, HIP.out]; omega
    · have hnx := fun ty => Lib.run_next_end_at (P := Tryz.prog) wr K t pos ty r1 (by rw [← HN.out]; exact hpN)
      have HY : Hid (lone (byt t) = false) := lone_no (by rw [HL.out]; intro j hj; exact r3 j (by omega))
      have R2 := hide r2
      clear r1 r2 r3 HR
      go_wp2_with fail
      go_ret
      exact ⟨_, rfl, by rw [HY.out]; rfl, by rw [← HK.out]; exact R2.out⟩
theorem loneEnd_at (t : ByteArray) (w : World) (hs : t.size < 4294967281) : Calls Tryz.prog 91 #[.string t] w fun e w' => e = .returned (.bool (lone (byt t))) ∧ Below w.heap.size w w' := by
  have HC := hide (cont_at t w (by
    by_cases h : 8 < t.size
    · exact long_at t w h hs
    · exact short_at t w (by omega)))
  go_enter Tryz.func91, Tryz.ntmps91
  go_wp2_with fail
  refine HC.out.mono ?_
  rintro e w1 ⟨rfl, hb⟩
  have HB := hide hb
  clear hb HC
  go_wp2_with fail
  go_ret
  exact ⟨rfl, HB.out⟩
end Go.Proofs.YtccoddmdlbdfjaaGreatDoor
