/-
  ParsePort, Parse and ParseDest of package host; conditions as each theorem has them.
-/
import Derived.Test.YtccoddmdlbdfjaaGreatDoorJoinedO
import Derived.Test.YtccoddmdlbdfjaaGreatDoorJoinedF
set_option linter.unusedSimpArgs false
set_option linter.unusedVariables false
namespace Go.Proofs.YtccoddmdlbdfjaaGreatDoor
open Go.RowKit

set_option maxHeartbeats 1000000 in
theorem parsePort_at (t : ByteArray) (w : World) (hm : t.size ≤ maxLen) : Calls Tryz.prog 130 #[.string t] w fun e w' => ∃ v, e = .returned (.tuple #[.int .i64 ((port (byt t)).1 : Nat), v]) ∧ IsEr w' (port (byt t)).2 v ∧ Below w.heap.size w w' := by
  obtain ⟨l, hl⟩ : ∃ l, l = byt t := ⟨_, rfl⟩
  rw [← hl]
  have HL : Hid (byt t = l) := hl.symm
  have HMX := hide hm
  clear hl hm
  cases hrd : rd l 65535 with
  | none =>
    have HR : Hid (port l = (0, .one 0 62)) := by show _ = _; rw [port, hrd]
    have HRD := hide hrd
    clear hrd
    go_enter Tryz.func130, Tryz.ntmps130
    go_wp2_with fail
    refine (readNumber_at t 65535 _ HMX.out (by omega)).mono ?_
    rintro e w2 ⟨rfl, rfl⟩
    rw [HL.out, HRD.out]
    simp only [two, Option.getD_none, Option.isSome_none]
    go_wp2_with fail
    refine (refuse_er 0 62 _).mono ?_
    rintro e w3 ⟨v, rfl, her, hb3⟩
    have HER := hide her
    have B3 := hide hb3
    clear her hb3
    go_wp2_with fail
    go_ret2
    refine ⟨v, ?_, ?_, B3.out⟩
    · rw [HR.out]; rfl
    · rw [HR.out]; exact HER.out
  | some n =>
    have hn : n ≤ 65535 := by
      unfold rd at hrd
      split at hrd
      · rename_i h; simp at hrd; omega
      · cases hrd
    have HRD := hide hrd
    by_cases h0 : n = 0
    · have HR : Hid (port l = (0, .one 0 62)) := by show _ = _; rw [port, hrd]; simp [h0]
      have hdec : Hid (false = decide (1 ≤ (n : Int) ∧ (n : Int) ≤ 65535)) := by show _ = _; simp; omega
      clear hrd h0
      go_enter Tryz.func130, Tryz.ntmps130
      go_wp2_with fail
      refine (readNumber_at t 65535 _ HMX.out (by omega)).mono ?_
      rintro e w2 ⟨rfl, rfl⟩
      rw [HL.out, HRD.out]
      simp only [two, Option.getD_some, Option.isSome_some]
      go_wp2_with fail
      refine (isPort_at n _ false hdec.out).mono ?_
      rintro e w2 ⟨rfl, rfl⟩
      go_wp2_with fail
      refine (refuse_er 0 62 _).mono ?_
      rintro e w3 ⟨v, rfl, her, hb3⟩
      have HER := hide her
      have B3 := hide hb3
      clear her hb3
      go_wp2_with fail
      go_ret2
      refine ⟨v, ?_, ?_, B3.out⟩
      · rw [HR.out]; rfl
      · rw [HR.out]; exact HER.out
    · have HR : Hid (port l = (n, .ok)) := by show _ = _; rw [port, hrd]; simp [h0]
      have hdec : Hid (true = decide (1 ≤ (n : Int) ∧ (n : Int) ≤ 65535)) := by show _ = _; simp; omega
      clear hrd h0
      go_enter Tryz.func130, Tryz.ntmps130
      go_wp2_with fail
      refine (readNumber_at t 65535 _ HMX.out (by omega)).mono ?_
      rintro e w2 ⟨rfl, rfl⟩
      rw [HL.out, HRD.out]
      simp only [two, Option.getD_some, Option.isSome_some]
      go_wp2_with fail
      refine (isPort_at n _ true hdec.out).mono ?_
      rintro e w2 ⟨rfl, rfl⟩
      go_wp2_with fail
      go_ret2
      refine ⟨.nilIface, ?_, ?_, Below.refl _ _⟩
      · rw [HR.out]; rfl
      · rw [HR.out]; rfl

/-- A host's cells. -/
def hoC (h : Ho) : Array Value := (nums .u8 h.1 ++ [Value.string (strN h.2)]).toArray
def z5 : Array Value := #[.int .u8 0, .int .u8 0, .int .u8 0, .int .u8 0, .string ⟨#[]⟩]
theorem z5_one : z5.all (·.oneCell') = true := by simp [z5, Value.oneCell']
theorem octs_four : ∀ (ps : List (List Nat)) (i a : Nat) (acc : List Nat), (octs i a ps acc).2 ≠ .ok → (octs i a ps acc).1 = [0, 0, 0, 0]
  | [], i, a, acc, h => absurd rfl h
  | p :: ps, i, a, acc, h => by
    unfold octs at h ⊢
    split
    · rfl
    · rename_i h4
      rw [if_neg h4] at h
      split
      · rfl
      · rename_i n hn
        rw [hn] at h
        exact octs_four ps _ _ _ h
theorem octs_some : ∀ (ps : List (List Nat)) (i a : Nat) (acc : List Nat), (octs i a ps acc).2 = .ok → i ≤ 4 → i + ps.length ≤ 4
  | [], i, a, acc, _, h => by simpa using h
  | p :: ps, i, a, acc, h, hi => by
    unfold octs at h
    split at h
    · cases h
    · rename_i h4
      split at h
      · cases h
      · have := octs_some ps _ _ _ h (by omega)
        simp; omega
theorem addr_len (l : List Nat) : (addr l).1.length = 4 := by
  unfold addr
  split
  · rfl
  · split
    · rfl
    · rename_i h1 h2
      by_cases hok : (octs 0 0 (pcs l) []).2 = .ok
      · have h3 := octs_len _ _ _ _ hok
        have h4 := octs_some _ _ _ _ hok (by omega)
        simp at h3
        have : ¬ (pcs l).length < 4 := fun h => h2 ⟨hok, h⟩
        omega
      · rw [octs_four _ _ _ _ hok]; rfl
theorem octs_bytes : ∀ (ps : List (List Nat)) (i a : Nat) (acc : List Nat), (∀ x ∈ acc, x < 256) → ∀ x ∈ (octs i a ps acc).1, x < 256
  | [], i, a, acc, h => h
  | p :: ps, i, a, acc, h => by
    unfold octs
    split
    · intro x hx; simp at hx; omega
    · split
      · intro x hx; simp at hx; omega
      · rename_i n hn
        refine octs_bytes ps _ _ _ ?_
        intro x hx
        simp at hx
        rcases hx with hx | rfl
        · exact h x hx
        · unfold rd at hn
          split at hn
          · rename_i hh; simp at hn; omega
          · cases hn
theorem addr_bytes (l : List Nat) : ∀ x ∈ (addr l).1, x < 256 := by
  unfold addr
  split
  · intro x hx; simp at hx; omega
  · split
    · intro x hx; simp at hx; omega
    · exact octs_bytes _ _ _ _ (by simp)
theorem four {A : List Nat} (h : A.length = 4) : ∃ x0 x1 x2 x3, A = [x0, x1, x2, x3] := by
  match A, h with
  | [a, b, c, d], _ => exact ⟨a, b, c, d, rfl⟩

/-- An error stays where a row of another kind is written. -/
theorem IsEr.row {w : World} {e : Er} {v : Value} (h : IsEr w e v) {B : Nat} {t : TypeId} {old : Array Value} (hB : w.heap[B]? = some (.cells old t)) (cs : Array Value) (ht : t ≠ 147) : IsEr (w.setRow B cs) e v := by
  have ne : ∀ {b a x}, w.heap[b]? = some (flt a x) → b ≠ B := by
    intro b a x hb e
    rw [e, hB] at hb
    simp [flt] at hb
    exact ht hb.2
  cases e with
  | ok => exact h
  | one a c =>
    obtain ⟨b, hv, hb⟩ := h
    exact ⟨b, hv, (setRow_ne _ _ _ _ (ne hb)).trans hb⟩
  | two a a2 c =>
    obtain ⟨b, b2, hv, hb, hb2⟩ := h
    exact ⟨b, b2, hv, (setRow_ne _ _ _ _ (ne hb)).trans hb, (setRow_ne _ _ _ _ (ne hb2)).trans hb2⟩

set_option maxRecDepth 100000 in
set_option maxHeartbeats 2000000 in
theorem parse_at (t : ByteArray) (w : World) (hm : t.size ≤ maxLen) (hV : Vars w) : Calls Tryz.prog 129 #[.string t] w fun e w' => ∃ v, e = .returned (.tuple #[.agg (hoC (host (byt t)).1), v]) ∧ IsEr w' (host (byt t)).2 v ∧ Below w.heap.size w w' := by
  obtain ⟨l, hl⟩ : ∃ l, l = byt t := ⟨_, rfl⟩
  rw [← hl]
  have HL : Hid (byt t = l) := hl.symm
  have HMX := hide hm
  clear hl hm
  have b0 : Below w.heap.size w (w.alloc (.cells z5 29)) := (Below.refl _ _).alloc (Nat.le_refl _) _
  have HV := hide (hV.below b0)
  have HR0 : Hid ((w.alloc (.cells z5 29)).heap[w.heap.size]? = some (.cells z5 29)) := alloc_new _ _
  have B0 := hide b0
  obtain ⟨W0, hW0⟩ : ∃ W0, W0 = w.alloc (.cells z5 29) := ⟨_, rfl⟩
  rw [← hW0] at HV HR0 B0
  have HW0 : Hid (w.alloc (.cells #[.int .u8 0, .int .u8 0, .int .u8 0, .int .u8 0, .string ⟨#[]⟩] 29) = W0) := hW0.symm
  clear b0 hV hW0
  by_cases h0 : l = []
  · have he : t.toList.isEmpty = true := by rw [isEmpty_byt, HL.out]; simp [h0]
    have he2 : (t.toList == []) = true := by simpa using he
    have HR : Hid (host l = (([0, 0, 0, 0], []), .one 0 63)) := by show _ = _; rw [host, if_pos h0]
    clear h0
    go_enter Tryz.func129, Tryz.ntmps129
    go_wp2_with fail
    rw [HW0.out]
    refine (refuse_at 0 63 _).mono ?_
    rintro e w' ⟨rfl, rfl⟩
    obtain ⟨f1, f2, f3, f4⟩ := fin_err HR0.out z5 0 63
    have f5 := f4 w (Nat.le_refl _) B0.out
    obtain ⟨W1, hW1⟩ : ∃ W1, W1 = W0.alloc (flt 0 (.iface 44 (.int .i64 ((63 : Nat) : Int)))) := ⟨_, rfl⟩
    rw [← hW1] at f1 f2 f3 f4 f5
    obtain ⟨W2, hW2⟩ : ∃ W2, W2 = W1.setRow w.heap.size z5 := ⟨_, rfl⟩
    rw [← hW2] at f2 f3 f5
    have F1 := hide f1
    have F2 := hide f2
    have F3 := hide f3
    have F5 := hide f5
    have HW2 := hide hW2
    rw [← hW1]
    clear f1 f2 f3 f4 f5 hW1 hW2
    go_wp2_with (first | (refine wpList_store_rowW rfl 29 _ _ rfl w.heap.size z5 rfl rfl 29 z5 F1.out info39 rfl z5_one W2 HW2.out ?_))
    refine bodyPost_ret (res_cell_tmp rfl _ _ w.heap.size 29 z5 (0, 0) _ rfl F2.out Tryz.underlying29 rfl info39) rfl ⟨.iface 145 (.pointer (some ⟨W0.heap.size, 0, none⟩)), ?_, ?_, F5.out⟩
    · rw [HR.out]; rfl
    · rw [HR.out]; exact F3.out
  have he : t.toList.isEmpty = false := by rw [isEmpty_byt, HL.out]; simp [h0]
  have he2 : (t.toList == []) = false := by
    cases hh : t.toList with
    | nil => rw [hh] at he; cases he
    | cons a b => rfl
  cases hlk : looks l with
  | true =>
    have HLK := hide hlk
    have HR : Hid (host l = (((addr l).1, []), (addr l).2)) := by show _ = _; rw [host, if_neg h0, if_pos hlk]
    obtain ⟨x0, x1, x2, x3, hA⟩ := four (addr_len l)
    have HA := hide hA
    clear hlk hA h0
    go_enter Tryz.func129, Tryz.ntmps129
    go_wp2_with fail
    rw [HW0.out]
    refine (looks_at t _ HMX.out).mono ?_
    rintro e w2 ⟨rfl, rfl⟩
    rw [HL.out, HLK.out]
    go_wp2_with fail
    refine (parseAddr_at t _ HMX.out HV.out).mono ?_
    rintro e w3 ⟨v, rfl, her, hb3⟩
    rw [HL.out] at her ⊢
    rw [HA.out]
    simp only [nums, List.map_cons, List.map_nil]
    have hr3 : w3.heap[w.heap.size]? = some (.cells z5 29) := (hb3.block _ (lt_of_some HR0.out)).trans HR0.out
    have hb : Below w.heap.size w w3 := B0.out.trans (hb3.mono B0.out.size)
    obtain ⟨W4, hW4⟩ : ∃ W4, W4 = w3.alloc (.cells #[.int .u8 (x0 : Nat), .int .u8 (x1 : Nat), .int .u8 (x2 : Nat), .int .u8 (x3 : Nat)] 27) := ⟨_, rfl⟩
    have R4 : Hid (W4.heap[w.heap.size]? = some (.cells z5 29)) := by rw [hW4]; exact alloc_old _ hr3
    have E4 : Hid (IsEr W4 (addr l).2 v) := by rw [hW4]; exact her.below ((Below.refl _ _).alloc (Nat.le_refl _) _)
    have B4 : Hid (Below w.heap.size w W4) := by rw [hW4]; exact hb.alloc hb.size _
    have HW4 : Hid (w3.alloc (.cells #[.int .u8 (x0 : Nat), .int .u8 (x1 : Nat), .int .u8 (x2 : Nat), .int .u8 (x3 : Nat)] 27) = W4) := hW4.symm
    obtain ⟨W2, hW2⟩ : ∃ W2, W2 = W4.setRow w.heap.size #[.int .u8 (x0 : Nat), .int .u8 (x1 : Nat), .int .u8 (x2 : Nat), .int .u8 (x3 : Nat), .string ⟨#[]⟩] := ⟨_, rfl⟩
    have F2 : Hid (W2.heap[w.heap.size]? = some (.cells #[.int .u8 (x0 : Nat), .int .u8 (x1 : Nat), .int .u8 (x2 : Nat), .int .u8 (x3 : Nat), .string ⟨#[]⟩] 29)) := by rw [hW2]; exact setRow_heap _ _ _ _ _ R4.out
    have F5 : Hid (Below w.heap.size w W2) := by rw [hW2]; exact below_setRow B4.out (Nat.le_refl _) _
    have F3 : Hid (IsEr W2 (addr l).2 v) := by
      rw [hW2]; exact E4.out.row R4.out _ (by decide)
    have HW2 := hide hW2
    clear hW2 hW4 her hb3 hr3 hb
    go_wp2_with (first | (rw [HW4.out]; refine wpList_store_rowW rfl 29 _ _ rfl w.heap.size #[.int .u8 (x0 : Nat), .int .u8 (x1 : Nat), .int .u8 (x2 : Nat), .int .u8 (x3 : Nat), .string ⟨#[]⟩] rfl rfl 29 z5 R4.out info39 rfl (by simp [Value.oneCell']) W2 HW2.out ?_))
    refine bodyPost_ret (res_cell_tmp rfl _ _ w.heap.size 29 _ (0, 0) _ rfl F2.out Tryz.underlying29 rfl info39) rfl ⟨v, ?_, ?_, F5.out⟩
    · rw [HR.out, HA.out]; rfl
    · rw [HR.out]; exact F3.out
  | false =>
    have HLK := hide hlk
    have HR : Hid (host l = (([0, 0, 0, 0], (name l).1), (name l).2)) := by show _ = _; rw [host, if_neg h0, if_neg (by simp [hlk])]
    clear hlk h0
    go_enter Tryz.func129, Tryz.ntmps129
    go_wp2_with fail
    rw [HW0.out]
    refine (looks_at t _ HMX.out).mono ?_
    rintro e w2 ⟨rfl, rfl⟩
    rw [HL.out, HLK.out]
    go_wp2_with fail
    refine (parseName_at t _ HMX.out HV.out).mono ?_
    rintro e w3 ⟨v, rfl, her, hb3⟩
    rw [HL.out] at her ⊢
    have R4 : Hid (w3.heap[w.heap.size]? = some (.cells z5 29)) := (hb3.block _ (lt_of_some HR0.out)).trans HR0.out
    have B4 : Hid (Below w.heap.size w w3) := B0.out.trans (hb3.mono B0.out.size)
    obtain ⟨W2, hW2⟩ : ∃ W2, W2 = w3.setRow w.heap.size #[.int .u8 0, .int .u8 0, .int .u8 0, .int .u8 0, .string (strN (name l).1)] := ⟨_, rfl⟩
    have F2 : Hid (W2.heap[w.heap.size]? = some (.cells #[.int .u8 0, .int .u8 0, .int .u8 0, .int .u8 0, .string (strN (name l).1)] 29)) := by rw [hW2]; exact setRow_heap _ _ _ _ _ R4.out
    have F5 : Hid (Below w.heap.size w W2) := by rw [hW2]; exact below_setRow B4.out (Nat.le_refl _) _
    have F3 : Hid (IsEr W2 (name l).2 v) := by
      rw [hW2]; exact her.row R4.out _ (by decide)
    have HW2 := hide hW2
    clear hW2 her hb3
    go_wp2_with (first | (refine wpList_store_rowW rfl 29 _ _ rfl w.heap.size #[.int .u8 0, .int .u8 0, .int .u8 0, .int .u8 0, .string (strN (name l).1)] rfl rfl 29 z5 R4.out info39 rfl (by simp [Value.oneCell']) W2 HW2.out ?_))
    refine bodyPost_ret (res_cell_tmp rfl _ _ w.heap.size 29 _ (0, 0) _ rfl F2.out Tryz.underlying29 rfl info39) rfl ⟨v, ?_, ?_, F5.out⟩
    · rw [HR.out]; rfl
    · rw [HR.out]; exact F3.out
end Go.Proofs.YtccoddmdlbdfjaaGreatDoor
