/-
  ParseDest of package host; ParsePort and Parse of the reference; conditions as each theorem has them.
-/
import Derived.Test.YtccoddmdlbdfjaaGreatDoorR
import Derived.Test.YtccoddmdlbdfjaaGreatDoorQ
set_option linter.unusedSimpArgs false
set_option linter.unusedVariables false
namespace Go.Proofs.YtccoddmdlbdfjaaGreatDoor
open Go.RowKit

theorem colon_spec : ∀ (l : List Nat) (i : Nat), (colon i l = none ∧ ∀ j, j < l.length → l.getD j 0 ≠ 58) ∨ ∃ j, colon i l = some (i + j) ∧ j < l.length ∧ l.getD j 0 = 58 ∧ ∀ k, j < k → k < l.length → l.getD k 0 ≠ 58
  | [], i => Or.inl ⟨rfl, fun j hj => by simp at hj⟩
  | c :: r, i => by
    rcases colon_spec r (i + 1) with ⟨h, hn⟩ | ⟨j, h, hj, hc, hn⟩
    · unfold colon
      rw [h]
      by_cases hc : c = 58
      · refine Or.inr ⟨0, by simp [hc], by simp, by simpa using hc, fun k h1 h2 => ?_⟩
        obtain ⟨m, rfl⟩ : ∃ m, k = m + 1 := ⟨k - 1, by omega⟩
        simpa using hn m (by simpa using h2)
      · refine Or.inl ⟨by simp [hc], fun k hk => ?_⟩
        cases k with
        | zero => simpa using hc
        | succ m => simpa using hn m (by simpa using hk)
    · unfold colon
      rw [h]
      refine Or.inr ⟨j + 1, by simp; omega, by simpa using hj, by simpa using hc, fun k h1 h2 => ?_⟩
      obtain ⟨m, rfl⟩ : ∃ m, k = m + 1 := ⟨k - 1, by omega⟩
      simpa using hn m (by omega) (by simpa using h2)
theorem bang_byt (t : ByteArray) (j : Nat) (h : j < t.size) : ((t.data[j]!).toNat : Int) = ((byt t).getD j 0 : Nat) := by
  have h' : j < t.data.toList.length := by rw [Array.length_toList]; exact h
  rw [getElem!_pos t.data j h, byt, List.getD, List.getElem?_map, List.getElem?_eq_getElem h']
  rfl
def colI (o : Option Nat) : Int := match o with | some c => (c : Int) | none => -1
theorem colon_last (t : ByteArray) : Lib.lastIndexByte t 58 = colI (colon 0 (byt t)) := by
  have hl := byt_length t
  rcases Lib.lastIndexByte_spec t 58 with ⟨h, hn⟩ | ⟨i, hi, h, hc, hn⟩
  · rcases colon_spec (byt t) 0 with ⟨g, _⟩ | ⟨j, g, hj, hcj, _⟩
    · rw [h, g]; rfl
    · have := hn j (by omega)
      rw [bang_byt t j (by omega), hcj] at this
      exact absurd rfl this
  · rcases colon_spec (byt t) 0 with ⟨g, gn⟩ | ⟨j, g, hj, hcj, gn⟩
    · have := gn i (by omega)
      rw [bang_byt t i hi] at hc
      exact absurd (by omega) this
    · rw [h, g]
      show (i : Int) = ((0 + j : Nat) : Int)
      rcases Nat.lt_trichotomy i j with h1 | h1 | h1
      · have := hn j h1 (by omega)
        rw [bang_byt t j (by omega), hcj] at this
        exact absurd rfl this
      · omega
      · have := gn i h1 (by omega)
        rw [bang_byt t i hi] at hc
        exact absurd (by omega) this
theorem colon_lt {l : List Nat} {c : Nat} (h : colon 0 l = some c) : c < l.length := by
  rcases colon_spec l 0 with ⟨g, _⟩ | ⟨j, g, hj, _⟩
  · rw [g] at h; cases h
  · rw [g] at h; simp at h; omega
theorem host_len (l : List Nat) : (host l).1.1.length = 4 := by
  unfold host
  split
  · rfl
  · split
    · exact addr_len l
    · rfl
theorem port_two (l : List Nat) : (port l).2 = .ok ∨ (port l).2 = .one 0 62 := by
  unfold port
  split
  · split
    · exact Or.inr rfl
    · exact Or.inl rfl
  · exact Or.inr rfl
def deC (d : De) : Array Value := (nums .u8 d.1.1 ++ [Value.string (strN d.1.2), Value.int .i64 (d.2 : Nat)]).toArray
def z6 : Array Value := #[.int .u8 0, .int .u8 0, .int .u8 0, .int .u8 0, .string ⟨#[]⟩, .int .i64 0]
theorem z6_one : z6.all (·.oneCell') = true := by simp [z6, Value.oneCell']
theorem IsEr.some {w : World} {e : Er} {v : Value} (h : IsEr w e v) (he : e ≠ .ok) : ∃ b, v = .iface 145 (.pointer (some ⟨b, 0, none⟩)) := by
  cases e with
  | ok => exact absurd rfl he
  | one a c => obtain ⟨b, hv, _⟩ := h; exact ⟨b, hv⟩
  | two a a2 c => obtain ⟨b, b2, hv, _⟩ := h; exact ⟨b, hv⟩

set_option maxRecDepth 100000 in
set_option maxHeartbeats 4000000 in
theorem parseDest_at (t : ByteArray) (w : World) (hm : t.size ≤ maxLen) (hV : Vars w) (hE : VarE w) : Calls Tryz.prog 93 #[.string t] w fun e w' => ∃ v, e = .returned (.tuple #[.agg (deC (dest (byt t)).1), v]) ∧ IsEr w' (dest (byt t)).2 v ∧ Below w.heap.size w w' := by
  obtain ⟨l, hl⟩ : ∃ l, l = byt t := ⟨_, rfl⟩
  rw [← hl]
  have HL : Hid (byt t = l) := hl.symm
  obtain ⟨N, hN⟩ : ∃ N, N = t.size := ⟨_, rfl⟩
  have HNL : Hid (N = l.length) := by show _ = _; rw [hN, hl, byt_length]
  have hNI : (t.size : Int) = (N : Int) := by rw [hN]
  have HN := hide hN
  rw [← hN] at hm
  unfold maxLen at hm
  clear hl hN
  have b0 : Below w.heap.size w (w.alloc (.cells z6 31)) := (Below.refl _ _).alloc (Nat.le_refl _) _
  have HV := hide (hV.below b0)
  have HE := hide (hE.below b0)
  have HR0 : Hid ((w.alloc (.cells z6 31)).heap[w.heap.size]? = some (.cells z6 31)) := alloc_new _ _
  have B0 := hide b0
  obtain ⟨W0, hW0⟩ : ∃ W0, W0 = w.alloc (.cells z6 31) := ⟨_, rfl⟩
  rw [← hW0] at HV HR0 B0 HE
  have HW0 : Hid (w.alloc (.cells #[.int .u8 0, .int .u8 0, .int .u8 0, .int .u8 0, .string ⟨#[]⟩, .int .i64 0] 31) = W0) := hW0.symm
  clear b0 hV hE hW0
  by_cases h259 : 259 < N
  · have HR : Hid (dest l = ((noH, 0), .one 259 3)) := by show _ = _; rw [dest, if_pos (by rw [← HNL.out]; exact h259)]
    have hd : decide (259 < (N : Int)) = true := decide_eq_true (by omega)
    have hd' : decide (259 < N) = true := decide_eq_true (by omega)
    go_enter Tryz.func93, Tryz.ntmps93
    go_wp2_with fail
    rw [HW0.out]
    refine (refuse_at 259 3 _).mono ?_
    rintro e w' ⟨rfl, rfl⟩
    obtain ⟨f1, f2, f3, f4⟩ := fin_err HR0.out z6 259 3
    have f5 := f4 w (Nat.le_refl _) B0.out
    obtain ⟨W1, hW1⟩ : ∃ W1, W1 = W0.alloc (flt 259 (.iface 44 (.int .i64 ((3 : Nat) : Int)))) := ⟨_, rfl⟩
    rw [← hW1] at f1 f2 f3 f4 f5
    obtain ⟨W2, hW2⟩ : ∃ W2, W2 = W1.setRow w.heap.size z6 := ⟨_, rfl⟩
    rw [← hW2] at f2 f3 f5
    have F1 := hide f1
    have F2 := hide f2
    have F3 := hide f3
    have F5 := hide f5
    have HW2 := hide hW2
    rw [← hW1]
    clear f1 f2 f3 f4 f5 hW1 hW2
    go_wp2_with (first | (refine wpList_store_rowW rfl 31 _ _ rfl w.heap.size z6 rfl rfl 31 z6 F1.out info41 rfl z6_one W2 HW2.out ?_))
    refine bodyPost_ret (res_cell_tmp rfl _ _ w.heap.size 31 z6 (0, 0) _ rfl F2.out Tryz.underlying31 rfl info41) rfl ⟨.iface 145 (.pointer (some ⟨W0.heap.size, 0, none⟩)), ?_, ?_, F5.out⟩
    · rw [HR.out]; rfl
    · rw [HR.out]; exact F3.out
  have hd : decide (259 < (N : Int)) = false := decide_eq_false (by omega)
  have hd' : decide (259 < N) = false := decide_eq_false (by omega)
  have hN259 : N ≤ 259 := by omega
  have HLI : Hid (Lib.lastIndexByte t 58 = colI (colon 0 l)) := by show _ = _; rw [colon_last, HL.out]
  cases hcol : colon 0 l with
  | none =>
    have HR : Hid (dest l = ((noH, 0), .one N 62)) := by show _ = _; rw [dest, if_neg (by rw [← HNL.out]; exact h259), hcol, HNL.out]
    have HLI2 : Hid (Lib.lastIndexByte t 58 = -1) := by show _ = _; rw [HLI.out, hcol]; rfl
    clear h259 hcol HLI
    go_enter Tryz.func93, Tryz.ntmps93
    go_wp2_with fail
    rw [HW0.out]
    refine (Tryz.strings_LastIndexByte t 58 (by rw [← HN.out]; omega) _).mono ?_
    rintro e w2 ⟨rfl, hw2⟩
    have hw3 := hw2.symm
    subst hw3
    rw [HLI2.out]
    go_wp2_with fail
    refine (refuse_at N 62 _).mono ?_
    rintro e w' ⟨rfl, rfl⟩
    obtain ⟨f1, f2, f3, f4⟩ := fin_err HR0.out z6 N 62
    have f5 := f4 w (Nat.le_refl _) B0.out
    obtain ⟨W1, hW1⟩ : ∃ W1, W1 = W0.alloc (flt N (.iface 44 (.int .i64 ((62 : Nat) : Int)))) := ⟨_, rfl⟩
    rw [← hW1] at f1 f2 f3 f4 f5
    obtain ⟨W2, hW2⟩ : ∃ W2, W2 = W1.setRow w.heap.size z6 := ⟨_, rfl⟩
    rw [← hW2] at f2 f3 f5
    have F1 := hide f1
    have F2 := hide f2
    have F3 := hide f3
    have F5 := hide f5
    have HW2 := hide hW2
    rw [← hW1]
    clear f1 f2 f3 f4 f5 hW1 hW2
    go_wp2_with (first | (refine wpList_store_rowW rfl 31 _ _ rfl w.heap.size z6 rfl rfl 31 z6 F1.out info41 rfl z6_one W2 HW2.out ?_))
    refine bodyPost_ret (res_cell_tmp rfl _ _ w.heap.size 31 z6 (0, 0) _ rfl F2.out Tryz.underlying31 rfl info41) rfl ⟨.iface 145 (.pointer (some ⟨W0.heap.size, 0, none⟩)), ?_, ?_, F5.out⟩
    · rw [HR.out]; rfl
    · rw [HR.out]; exact F3.out
  | some c =>
    have hcN : c < N := by rw [HNL.out]; exact colon_lt hcol
    have HDE : Hid (dest l = match host (l.take c) with
        | (h, .ok) => match port (l.drop (c + 1)) with
          | (p, .ok) => ((h, p), .ok)
          | _ => ((noH, 0), .two (c + 1) 0 62)
        | (_, e) => ((noH, 0), e)) := by show _ = _; rw [dest, if_neg (by rw [← HNL.out]; exact h259), hcol]; rfl
    have HLI2 : Hid (Lib.lastIndexByte t 58 = (c : Int)) := by show _ = _; rw [HLI.out, hcol]; rfl
    obtain ⟨T0, hT0⟩ : ∃ T0, T0 = t.extract 0 c := ⟨_, rfl⟩
    obtain ⟨T1, hT1⟩ : ∃ T1, T1 = t.extract (c + 1) t.size := ⟨_, rfl⟩
    have HB0 : Hid (byt T0 = l.take c) := by show _ = _; rw [hT0, byt_take, HL.out]
    have HB1 : Hid (byt T1 = l.drop (c + 1)) := by show _ = _; rw [hT1, byt_drop, HL.out]
    have HS0 : Hid (T0.size ≤ maxLen) := by show _ ≤ _; rw [← byt_length, HB0.out, List.length_take]; have := HNL.out; unfold maxLen; omega
    have HS1 : Hid (T1.size ≤ maxLen) := by show _ ≤ _; rw [← byt_length, HB1.out, List.length_drop]; have := HNL.out; unfold maxLen; omega
    have HT0 : Hid (t.extract 0 c = T0) := hT0.symm
    have HT1 : Hid (t.extract (c + 1) t.size = T1) := hT1.symm
    have hdc : decide ((c : Int) < 0) = false := decide_eq_false (by omega)
    clear h259 hcol HLI hT0 hT1
    obtain ⟨H, er, hH⟩ : ∃ H er, host (l.take c) = (H, er) := ⟨_, _, rfl⟩
    have hHl : H.1.length = 4 := by have := host_len (l.take c); rw [hH] at this; exact this
    obtain ⟨hA, hS⟩ := H
    obtain ⟨x0, x1, x2, x3, rfl⟩ := four hHl
    have HH := hide hH
    rw [hH] at HDE
    clear hH hHl
    go_enter Tryz.func93, Tryz.ntmps93
    go_wp2_with fail
    rw [HW0.out]
    refine (Tryz.strings_LastIndexByte t 58 (by rw [← HN.out]; omega) _).mono ?_
    rintro e w2 ⟨rfl, hw2⟩
    have hw3 := hw2.symm
    subst hw3
    rw [HLI2.out]
    go_wp2_with fail
    rw [HT0.out]
    refine (parse_at T0 _ HS0.out HV.out).mono ?_
    rintro e w3 ⟨v, rfl, her, hb3⟩
    rw [HB0.out, HH.out] at her ⊢
    simp only [hoC, nums, List.map_cons, List.map_nil, List.cons_append, List.nil_append]
    simp only [] at her
    have r3 : w3.heap[w.heap.size]? = some (.cells z6 31) := (hb3.block _ (lt_of_some HR0.out)).trans HR0.out
    have b3 : Below w.heap.size w w3 := B0.out.trans (hb3.mono B0.out.size)
    obtain ⟨W4, hW4⟩ : ∃ W4, W4 = w3.alloc (.cells #[.int .u8 (x0 : Nat), .int .u8 (x1 : Nat), .int .u8 (x2 : Nat), .int .u8 (x3 : Nat), .string (strN hS)] 29) := ⟨_, rfl⟩
    have b34 : Below w3.heap.size w3 W4 := by rw [hW4]; exact (Below.refl _ _).alloc (Nat.le_refl _) _
    have r4 : W4.heap[w.heap.size]? = some (.cells z6 31) := by rw [hW4]; exact alloc_old _ r3
    have q4 : W4.heap[w3.heap.size]? = some (.cells #[.int .u8 (x0 : Nat), .int .u8 (x1 : Nat), .int .u8 (x2 : Nat), .int .u8 (x3 : Nat), .string (strN hS)] 29) := by rw [hW4]; exact alloc_new _ _
    have e4 : IsEr W4 er v := her.below b34
    have b4 : Below w.heap.size w W4 := b3.trans (b34.mono b3.size)
    have HV4 := hide ((HV.out.below hb3).below b34)
    have HE4 := hide ((HE.out.below hb3).below b34)
    have HW4 : Hid (w3.alloc (.cells #[.int .u8 (x0 : Nat), .int .u8 (x1 : Nat), .int .u8 (x2 : Nat), .int .u8 (x3 : Nat), .string (strN hS)] 29) = W4) := hW4.symm
    have R4 := hide r4
    have Q4 := hide q4
    have E4 := hide e4
    have B4 := hide b4
    clear hb3 her r3 b3 hW4 b34 r4 q4 e4 b4
    by_cases hok : er = .ok
    · subst hok
      have hv : v = .nilIface := E4.out
      subst hv
      obtain ⟨pn, pe, hP⟩ : ∃ p e, port (l.drop (c + 1)) = (p, e) := ⟨_, _, rfl⟩
      have hpe : pe = .ok ∨ pe = .one 0 62 := by have := port_two (l.drop (c + 1)); rw [hP] at this; exact this
      have HP := hide hP
      simp only [hP] at HDE
      clear hP
      go_wp2_with (first | rw [HW4.out])
      try rw [HW4.out]
      try go_wp2_with fail
      rw [HT1.out]
      refine (parsePort_at T1 _ HS1.out).mono ?_
      rintro e w5 ⟨u, rfl, her5, hb5⟩
      rw [HB1.out, HP.out] at her5 ⊢
      simp only [] at her5 ⊢
      have r5 : w5.heap[w.heap.size]? = some (.cells z6 31) := (hb5.block _ (lt_of_some R4.out)).trans R4.out
      have q5 : w5.heap[w3.heap.size]? = some (.cells #[.int .u8 (x0 : Nat), .int .u8 (x1 : Nat), .int .u8 (x2 : Nat), .int .u8 (x3 : Nat), .string (strN hS)] 29) := (hb5.block _ (lt_of_some Q4.out)).trans Q4.out
      have b5 : Below w.heap.size w w5 := B4.out.trans (hb5.mono B4.out.size)
      have HE5 := hide (HE4.out.below hb5)
      have R5 := hide r5
      have Q5 := hide q5
      have B5 := hide b5
      have E5 := hide her5
      clear hb5 her5 r5 q5 b5
      rcases hpe with rfl | rfl
      · have hu : u = .nilIface := E5.out
        subst hu
        have HR : Hid (dest l = ((([x0, x1, x2, x3], hS), pn), .ok)) := by show _ = _; rw [HDE.out]
        go_wp2_with fail
        refine (wrap_nil (c + 1) _).mono ?_
        rintro e w6 ⟨rfl, hb6⟩
        have r6 : w6.heap[w.heap.size]? = some (.cells z6 31) := (hb6.block _ (lt_of_some R5.out)).trans R5.out
        have q6 : w6.heap[w3.heap.size]? = some (.cells #[.int .u8 (x0 : Nat), .int .u8 (x1 : Nat), .int .u8 (x2 : Nat), .int .u8 (x3 : Nat), .string (strN hS)] 29) := (hb6.block _ (lt_of_some Q5.out)).trans Q5.out
        have b6 : Below w.heap.size w w6 := B5.out.trans (hb6.mono B5.out.size)
        obtain ⟨W2, hW2⟩ : ∃ W2, W2 = w6.setRow w.heap.size #[.int .u8 (x0 : Nat), .int .u8 (x1 : Nat), .int .u8 (x2 : Nat), .int .u8 (x3 : Nat), .string (strN hS), .int .i64 (pn : Nat)] := ⟨_, rfl⟩
        have F2 : Hid (W2.heap[w.heap.size]? = some (.cells #[.int .u8 (x0 : Nat), .int .u8 (x1 : Nat), .int .u8 (x2 : Nat), .int .u8 (x3 : Nat), .string (strN hS), .int .i64 (pn : Nat)] 31)) := by rw [hW2]; exact setRow_heap _ _ _ _ _ r6
        have F5 : Hid (Below w.heap.size w W2) := by rw [hW2]; exact below_setRow b6 (Nat.le_refl _) _
        have HW2 := hide hW2
        have R6 := hide r6
        have c0 : w6.cell? ⟨w3.heap.size, 0, none⟩ = some (.int .u8 (x0 : Nat)) := by simp [World.cell?, q6]
        have c1 : w6.cell? ⟨w3.heap.size, 1, none⟩ = some (.int .u8 (x1 : Nat)) := by simp [World.cell?, q6]
        have c2 : w6.cell? ⟨w3.heap.size, 2, none⟩ = some (.int .u8 (x2 : Nat)) := by simp [World.cell?, q6]
        have c3 : w6.cell? ⟨w3.heap.size, 3, none⟩ = some (.int .u8 (x3 : Nat)) := by simp [World.cell?, q6]
        have c4 : w6.cell? ⟨w3.heap.size, 4, none⟩ = some (.string (strN hS)) := by simp [World.cell?, q6]
        clear hW2 r6 q6 b6 hb6
        go_wp2_with (first | (refine wpList_store_rowW rfl 31 _ _ rfl w.heap.size #[.int .u8 (x0 : Nat), .int .u8 (x1 : Nat), .int .u8 (x2 : Nat), .int .u8 (x3 : Nat), .string (strN hS), .int .i64 (pn : Nat)] rfl rfl 31 z6 R6.out info41 rfl (by simp [Value.oneCell']) W2 HW2.out ?_))
        refine bodyPost_ret (res_cell_tmp rfl _ _ w.heap.size 31 _ (0, 0) _ rfl F2.out Tryz.underlying31 rfl info41) rfl ⟨.nilIface, ?_, ?_, F5.out⟩
        · rw [HR.out]; rfl
        · rw [HR.out]; rfl
      · have HR : Hid (dest l = ((noH, 0), .two (c + 1) 0 62)) := by show _ = _; rw [HDE.out]
        go_wp2_with fail
        refine (wrap_one (c + 1) 0 62 u _ HE5.out E5.out).mono ?_
        rintro e w6 ⟨x, rfl, her6, hb6⟩
        obtain ⟨bb, rfl⟩ := her6.some (by simp)
        have r6 : w6.heap[w.heap.size]? = some (.cells z6 31) := (hb6.block _ (lt_of_some R5.out)).trans R5.out
        have b6 : Below w.heap.size w w6 := B5.out.trans (hb6.mono B5.out.size)
        obtain ⟨W2, hW2⟩ : ∃ W2, W2 = w6.setRow w.heap.size z6 := ⟨_, rfl⟩
        have F2 : Hid (W2.heap[w.heap.size]? = some (.cells z6 31)) := by rw [hW2]; exact setRow_heap _ _ _ _ _ r6
        have F5 : Hid (Below w.heap.size w W2) := by rw [hW2]; exact below_setRow b6 (Nat.le_refl _) _
        have F3 : Hid (IsEr W2 (.two (c + 1) 0 62) (.iface 145 (.pointer (some ⟨bb, 0, none⟩)))) := by rw [hW2]; exact her6.row r6 _ (by decide)
        have HW2 := hide hW2
        have R6 := hide r6
        clear hW2 r6 b6 hb6 her6
        go_wp2_with (first | (refine wpList_store_rowW rfl 31 _ _ rfl w.heap.size z6 rfl rfl 31 z6 R6.out info41 rfl z6_one W2 HW2.out ?_))
        refine bodyPost_ret (res_cell_tmp rfl _ _ w.heap.size 31 _ (0, 0) _ rfl F2.out Tryz.underlying31 rfl info41) rfl ⟨.iface 145 (.pointer (some ⟨bb, 0, none⟩)), ?_, ?_, F5.out⟩
        · rw [HR.out]; rfl
        · rw [HR.out]; exact F3.out
    · obtain ⟨bb, rfl⟩ := E4.out.some hok
      have HR : Hid (dest l = ((noH, 0), er)) := by
        show _ = _
        rw [HDE.out]
        cases er with
        | ok => exact absurd rfl hok
        | one a c => rfl
        | two a b c => rfl
      obtain ⟨W2, hW2⟩ : ∃ W2, W2 = W4.setRow w.heap.size z6 := ⟨_, rfl⟩
      have F2 : Hid (W2.heap[w.heap.size]? = some (.cells z6 31)) := by rw [hW2]; exact setRow_heap _ _ _ _ _ R4.out
      have F5 : Hid (Below w.heap.size w W2) := by rw [hW2]; exact below_setRow B4.out (Nat.le_refl _) _
      have F3 : Hid (IsEr W2 er (.iface 145 (.pointer (some ⟨bb, 0, none⟩)))) := by rw [hW2]; exact E4.out.row R4.out _ (by decide)
      have HW2 := hide hW2
      clear hW2 hok
      go_wp2_with (first | (rw [HW4.out]; refine wpList_store_rowW rfl 31 _ _ rfl w.heap.size z6 rfl rfl 31 z6 R4.out info41 rfl z6_one W2 HW2.out ?_))
      refine bodyPost_ret (res_cell_tmp rfl _ _ w.heap.size 31 _ (0, 0) _ rfl F2.out Tryz.underlying31 rfl info41) rfl ⟨.iface 145 (.pointer (some ⟨bb, 0, none⟩)), ?_, ?_, F5.out⟩
      · rw [HR.out]; rfl
      · rw [HR.out]; exact F3.out
end Go.Proofs.YtccoddmdlbdfjaaGreatDoor

set_option linter.unusedSimpArgs false
set_option linter.unusedVariables false
namespace Go.Proofs.YtccoddmdlbdfjaaGreatDoor
open Go.RowKit

theorem port_wh (l : List Nat) : port l = match wh l 5 with
    | some n => if n < 1 ∨ 65535 < n then (0, .one 0 62) else (n, .ok)
    | none => (0, .one 0 62) := by
  have h := wh_port l
  unfold port
  rw [← h]
  cases wh l 5 with
  | none => rfl
  | some n =>
    simp only
    by_cases h1 : 65535 < n
    · rw [if_pos h1, if_pos (Or.inr h1)]
    · rw [if_neg h1]
      simp only
      by_cases h0 : n = 0
      · rw [if_pos h0, if_pos (Or.inl (by omega))]
      · rw [if_neg h0, if_neg (by omega)]
theorem wh_lt {l : List Nat} {d n : Nat} (h : wh l d = some n) : n < 10 ^ d := by
  unfold wh at h
  split at h
  · rename_i hh
    simp at h
    have hall : l.all dig = true := by have := hh.1; rw [isNum_of] at this; simp only [Bool.and_eq_true] at this; exact this.1.2
    have := val_lt l hall
    rw [h] at this
    exact Nat.lt_of_lt_of_le this (Nat.pow_le_pow_right (n := 10) (by omega) hh.2)
  · cases h

set_option maxRecDepth 100000 in
set_option maxHeartbeats 2000000 in
theorem rparsePort_at (t : ByteArray) (w : World) (hm : t.size ≤ maxLen) : Calls Tryz.prog 144 #[.string t] w fun e w' => e = .returned (.tuple #[.int .i64 ((port (byt t)).1 : Nat), badV (port (byt t)).2]) ∧ Below w.heap.size w w' := by
  obtain ⟨l, hl⟩ : ∃ l, l = byt t := ⟨_, rfl⟩
  rw [← hl]
  have HL : Hid (byt t = l) := hl.symm
  have HMX := hide hm
  have b0 : Below w.heap.size w (w.alloc (.cells (badC .ok) 89)) := (Below.refl _ _).alloc (Nat.le_refl _) _
  have HR0 : Hid ((w.alloc (.cells (badC .ok) 89)).heap[w.heap.size]? = some (.cells (badC .ok) 89)) := alloc_new _ _
  have B0 := hide b0
  obtain ⟨W0, hW0⟩ : ∃ W0, W0 = w.alloc (.cells (badC .ok) 89) := ⟨_, rfl⟩
  rw [← hW0] at HR0 B0
  have HW0 : Hid (w.alloc (.cells #[.int .i64 0, .string ⟨#[]⟩, .string ⟨#[]⟩, .string ⟨#[]⟩, .string ⟨#[]⟩, .int .i64 0, .int .i64 0, .int .i64 0, .int .i64 0, .int .i64 0] 89) = W0) := hW0.symm
  have hpw := port_wh l
  clear hl hm b0 hW0
  cases hwh : wh l 5 with
  | none =>
    have HR : Hid (port l = (0, .one 0 62)) := by show _ = _; rw [hpw, hwh]
    have HWH := hide hwh
    clear hwh hpw
    go_enter Tryz.func144, Tryz.ntmps144
    go_wp2_with fail
    rw [HW0.out]
    refine (whole_at t 5 _ HMX.out (by omega)).mono ?_
    rintro e w2 ⟨rfl, rfl⟩
    rw [HL.out, HWH.out]
    simp only [two, Option.getD_none, Option.isSome_none]
    go_wp2_with fail
    refine (fault_at 0 62 _).mono ?_
    rintro e w4 ⟨rfl, hb4⟩
    have h14 : w4.heap[w.heap.size]? = some (.cells (badC .ok) 89) := (hb4.block _ (lt_of_some HR0.out)).trans HR0.out
    obtain ⟨W2, hW2⟩ : ∃ W2, W2 = w4.setRow w.heap.size (badC (.one 0 62)) := ⟨_, rfl⟩
    have F1 := hide h14
    have F3 : Hid (W2.heap[w.heap.size]? = some (.cells (badC (.one 0 62)) 89)) := by rw [hW2]; exact setRow_heap _ _ _ _ _ h14
    have F5 : Hid (Below w.heap.size w W2) := by rw [hW2]; exact below_setRow (B0.out.trans (hb4.mono B0.out.size)) (Nat.le_refl _) _
    have HW2 := hide hW2
    clear hW2 h14 hb4
    rw [badV_badC]
    go_wp2_with (first
      | (refine wpList_store_rowW rfl 89 _ _ rfl w.heap.size (badC (.one 0 62)) rfl rfl 89 (badC .ok) F1.out info32 rfl (badC_one _) W2 HW2.out ?_))
    refine bodyPost_ret (res_tmp_cell rfl _ _ w.heap.size 89 (badC (.one 0 62)) (0, 0) _ rfl F3.out Tryz.underlying89 rfl info32) rfl ⟨?_, F5.out⟩
    rw [HR.out, badV_badC]; rfl
  | some n =>
    have hn5 := wh_lt hwh
    have hn : n < 100000 := hn5
    have HWH := hide hwh
    rw [hwh] at hpw
    simp only at hpw
    clear hwh hn5
    by_cases h1 : n < 1
    · have HR : Hid (port l = (0, .one 0 62)) := by show _ = _; rw [hpw, if_pos (Or.inl h1)]
      have q1 : decide ((n : Int) < 1) = true := decide_eq_true (by omega)
      have q1' : decide (n < 1) = true := decide_eq_true (by omega)
      clear hpw
      go_enter Tryz.func144, Tryz.ntmps144
      go_wp2_with fail
      rw [HW0.out]
      refine (whole_at t 5 _ HMX.out (by omega)).mono ?_
      rintro e w2 ⟨rfl, rfl⟩
      rw [HL.out, HWH.out]
      simp only [two, Option.getD_some, Option.isSome_some]
      go_wp2_with fail
      refine (fault_at 0 62 _).mono ?_
      rintro e w4 ⟨rfl, hb4⟩
      have h14 : w4.heap[w.heap.size]? = some (.cells (badC .ok) 89) := (hb4.block _ (lt_of_some HR0.out)).trans HR0.out
      obtain ⟨W2, hW2⟩ : ∃ W2, W2 = w4.setRow w.heap.size (badC (.one 0 62)) := ⟨_, rfl⟩
      have F1 := hide h14
      have F3 : Hid (W2.heap[w.heap.size]? = some (.cells (badC (.one 0 62)) 89)) := by rw [hW2]; exact setRow_heap _ _ _ _ _ h14
      have F5 : Hid (Below w.heap.size w W2) := by rw [hW2]; exact below_setRow (B0.out.trans (hb4.mono B0.out.size)) (Nat.le_refl _) _
      have HW2 := hide hW2
      clear hW2 h14 hb4
      rw [badV_badC]
      go_wp2_with (first
        | (refine wpList_store_rowW rfl 89 _ _ rfl w.heap.size (badC (.one 0 62)) rfl rfl 89 (badC .ok) F1.out info32 rfl (badC_one _) W2 HW2.out ?_))
      refine bodyPost_ret (res_tmp_cell rfl _ _ w.heap.size 89 (badC (.one 0 62)) (0, 0) _ rfl F3.out Tryz.underlying89 rfl info32) rfl ⟨?_, F5.out⟩
      rw [HR.out, badV_badC]; rfl
    have q1 : decide ((n : Int) < 1) = false := decide_eq_false (by omega)
    have q1' : decide (n < 1) = false := decide_eq_false (by omega)
    by_cases h2 : 65535 < n
    · have HR : Hid (port l = (0, .one 0 62)) := by show _ = _; rw [hpw, if_pos (Or.inr h2)]
      have q2 : decide (65535 < (n : Int)) = true := decide_eq_true (by omega)
      have q2' : decide (65535 < n) = true := decide_eq_true (by omega)
      clear hpw
      go_enter Tryz.func144, Tryz.ntmps144
      go_wp2_with fail
      rw [HW0.out]
      refine (whole_at t 5 _ HMX.out (by omega)).mono ?_
      rintro e w2 ⟨rfl, rfl⟩
      rw [HL.out, HWH.out]
      simp only [two, Option.getD_some, Option.isSome_some]
      go_wp2_with fail
      refine (fault_at 0 62 _).mono ?_
      rintro e w4 ⟨rfl, hb4⟩
      have h14 : w4.heap[w.heap.size]? = some (.cells (badC .ok) 89) := (hb4.block _ (lt_of_some HR0.out)).trans HR0.out
      obtain ⟨W2, hW2⟩ : ∃ W2, W2 = w4.setRow w.heap.size (badC (.one 0 62)) := ⟨_, rfl⟩
      have F1 := hide h14
      have F3 : Hid (W2.heap[w.heap.size]? = some (.cells (badC (.one 0 62)) 89)) := by rw [hW2]; exact setRow_heap _ _ _ _ _ h14
      have F5 : Hid (Below w.heap.size w W2) := by rw [hW2]; exact below_setRow (B0.out.trans (hb4.mono B0.out.size)) (Nat.le_refl _) _
      have HW2 := hide hW2
      clear hW2 h14 hb4
      rw [badV_badC]
      go_wp2_with (first
        | (refine wpList_store_rowW rfl 89 _ _ rfl w.heap.size (badC (.one 0 62)) rfl rfl 89 (badC .ok) F1.out info32 rfl (badC_one _) W2 HW2.out ?_))
      refine bodyPost_ret (res_tmp_cell rfl _ _ w.heap.size 89 (badC (.one 0 62)) (0, 0) _ rfl F3.out Tryz.underlying89 rfl info32) rfl ⟨?_, F5.out⟩
      rw [HR.out, badV_badC]; rfl
    · have HR : Hid (port l = (n, .ok)) := by show _ = _; rw [hpw, if_neg (by omega)]
      have q2 : decide (65535 < (n : Int)) = false := decide_eq_false (by omega)
      have q2' : decide (65535 < n) = false := decide_eq_false (by omega)
      clear hpw
      obtain ⟨W2, hW2⟩ : ∃ W2, W2 = W0.setRow w.heap.size (badC .ok) := ⟨_, rfl⟩
      have F3 : Hid (W2.heap[w.heap.size]? = some (.cells (badC .ok) 89)) := by rw [hW2]; exact setRow_heap _ _ _ _ _ HR0.out
      have F5 : Hid (Below w.heap.size w W2) := by rw [hW2]; exact below_setRow B0.out (Nat.le_refl _) _
      have HW2 := hide hW2
      clear hW2
      go_enter Tryz.func144, Tryz.ntmps144
      go_wp2_with fail
      rw [HW0.out]
      refine (whole_at t 5 _ HMX.out (by omega)).mono ?_
      rintro e w2 ⟨rfl, rfl⟩
      rw [HL.out, HWH.out]
      simp only [two, Option.getD_some, Option.isSome_some]
      go_wp2_with (first
        | (refine wpList_store_rowW rfl 89 _ _ rfl w.heap.size (badC .ok) rfl rfl 89 (badC .ok) HR0.out info32 rfl (badC_one _) W2 HW2.out ?_))
      refine bodyPost_ret (res_tmp_cell rfl _ _ w.heap.size 89 (badC .ok) (0, 0) _ rfl F3.out Tryz.underlying89 rfl info32) rfl ⟨?_, F5.out⟩
      rw [HR.out, badV_badC]; rfl

theorem host_long {l : List Nat} (h : 253 < l.length) : host l = (([0, 0, 0, 0], []), .one 253 3) := by
  have h0 : l ≠ [] := fun e => by rw [e] at h; simp at h
  rw [host, if_neg h0]
  split
  · rw [addr, if_pos h]
  · rw [name, if_pos h]
theorem set5 {w : World} {B : Nat} {t : TypeId} {o0 o1 o2 o3 o4 : Value} (h : w.heap[B]? = some (.cells #[o0, o1, o2, o3, o4] t)) (v0 v1 v2 v3 v4 : Value) :
    (((((w.setCell ⟨B, 0, none⟩ v0).setCell ⟨B, 1, none⟩ v1).setCell ⟨B, 2, none⟩ v2).setCell ⟨B, 3, none⟩ v3).setCell ⟨B, 4, none⟩ v4).heap[B]? = some (.cells #[v0, v1, v2, v3, v4] t) := by
  rw [heap_setCell_same (heap_setCell_same (heap_setCell_same (heap_setCell_same (heap_setCell_same h _ _) _ _) _ _) _ _) _ _]
  rfl
theorem set10 {w : World} {B : Nat} {t : TypeId} {o0 o1 o2 o3 o4 o5 o6 o7 o8 o9 : Value} (h : w.heap[B]? = some (.cells #[o0, o1, o2, o3, o4, o5, o6, o7, o8, o9] t)) (v0 v1 v2 v3 v4 v5 v6 v7 v8 v9 : Value) :
    ((((((((((w.setCell ⟨B, 0, none⟩ v0).setCell ⟨B, 1, none⟩ v1).setCell ⟨B, 2, none⟩ v2).setCell ⟨B, 3, none⟩ v3).setCell ⟨B, 4, none⟩ v4).setCell ⟨B, 5, none⟩ v5).setCell ⟨B, 6, none⟩ v6).setCell ⟨B, 7, none⟩ v7).setCell ⟨B, 8, none⟩ v8).setCell ⟨B, 9, none⟩ v9).heap[B]? = some (.cells #[v0, v1, v2, v3, v4, v5, v6, v7, v8, v9] t) := by
  rw [heap_setCell_same (heap_setCell_same (heap_setCell_same (heap_setCell_same (heap_setCell_same (heap_setCell_same (heap_setCell_same (heap_setCell_same (heap_setCell_same (heap_setCell_same h _ _) _ _) _ _) _ _) _ _) _ _) _ _) _ _) _ _) _ _]
  kernel_rfl

end Go.Proofs.YtccoddmdlbdfjaaGreatDoor
