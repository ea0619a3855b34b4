/-
  ParsePort, Parse and ParseDest of package host; conditions as each theorem has them.
-/
import Derived.Test.YtiejandeoopiiaaGreatDoorI
import Derived.Test.YtiejandeoopiiaaGreatDoorJ
set_option linter.unusedSimpArgs false
set_option linter.unusedVariables false
namespace Go.Proofs.YtiejandeoopiiaaGreatDoor
open Go.RowKit

set_option maxHeartbeats 1000000 in
theorem parsePort_at (t : ByteArray) (w : World) (hm : t.size ≤ maxLen) : Calls Tryz.prog 51 #[.string t] w fun e w' => ∃ v, e = .returned (.tuple #[.int .i64 ((port (byt t)).1 : Nat), v]) ∧ IsEr w' (port (byt t)).2 v ∧ Below w.heap.size w w' := by
  obtain ⟨l, hl⟩ : ∃ l, l = byt t := ⟨_, rfl⟩
  rw [← hl]
  have HL : Hid (byt t = l) := hl.symm
  have HMX := hide hm
  clear hl hm
  cases hrd : rd l 65535 with
  | none =>
    have HR : Hid (port l = (0, .one 0 62)) := by show _ = _; rw [port, hrd]
    have HRD := hide hrd
    clear hrd
    go_enter Tryz.func51, Tryz.ntmps51
    go_wp2_with fail
    refine (readNumber_at t 65535 _ HMX.out (by omega)).mono ?_
    rintro e w2 ⟨rfl, rfl⟩
    rw [HL.out, HRD.out]
    simp only [two, Option.getD_none, Option.isSome_none]
    go_wp2_with fail
    refine (refuse_er 0 62 _).mono ?_
    rintro e w3 ⟨v, rfl, her, hb3⟩
    have HER := hide her
    have B3 := hide hb3
    clear her hb3
    go_wp2_with fail
    go_ret2
    refine ⟨v, ?_, ?_, B3.out⟩
    · rw [HR.out]; rfl
    · rw [HR.out]; exact HER.out
  | some n =>
    have hn : n ≤ 65535 := by
      unfold rd at hrd
      split at hrd
      · rename_i h; simp at hrd; omega
      · cases hrd
    have HRD := hide hrd
    by_cases h0 : n = 0
    · have HR : Hid (port l = (0, .one 0 62)) := by show _ = _; rw [port, hrd]; simp [h0]
      have hdec : Hid (false = decide (1 ≤ (n : Int) ∧ (n : Int) ≤ 65535)) := by show _ = _; simp; omega
      clear hrd h0
      go_enter Tryz.func51, Tryz.ntmps51
      go_wp2_with fail
      refine (readNumber_at t 65535 _ HMX.out (by omega)).mono ?_
      rintro e w2 ⟨rfl, rfl⟩
      rw [HL.out, HRD.out]
      simp only [two, Option.getD_some, Option.isSome_some]
      go_wp2_with fail
      refine (isPort_at n _ false hdec.out).mono ?_
      rintro e w2 ⟨rfl, rfl⟩
      go_wp2_with fail
      refine (refuse_er 0 62 _).mono ?_
      rintro e w3 ⟨v, rfl, her, hb3⟩
      have HER := hide her
      have B3 := hide hb3
      clear her hb3
      go_wp2_with fail
      go_ret2
      refine ⟨v, ?_, ?_, B3.out⟩
      · rw [HR.out]; rfl
      · rw [HR.out]; exact HER.out
    · have HR : Hid (port l = (n, .ok)) := by show _ = _; rw [port, hrd]; simp [h0]
      have hdec : Hid (true = decide (1 ≤ (n : Int) ∧ (n : Int) ≤ 65535)) := by show _ = _; simp; omega
      clear hrd h0
      go_enter Tryz.func51, Tryz.ntmps51
      go_wp2_with fail
      refine (readNumber_at t 65535 _ HMX.out (by omega)).mono ?_
      rintro e w2 ⟨rfl, rfl⟩
      rw [HL.out, HRD.out]
      simp only [two, Option.getD_some, Option.isSome_some]
      go_wp2_with fail
      refine (isPort_at n _ true hdec.out).mono ?_
      rintro e w2 ⟨rfl, rfl⟩
      go_wp2_with fail
      go_ret2
      refine ⟨.nilIface, ?_, ?_, Below.refl _ _⟩
      · rw [HR.out]; rfl
      · rw [HR.out]; rfl

theorem octs_four : ∀ (ps : List (List Nat)) (i a : Nat) (acc : List Nat), (octs i a ps acc).2 ≠ .ok → (octs i a ps acc).1 = [0, 0, 0, 0]
  | [], i, a, acc, h => absurd rfl h
  | p :: ps, i, a, acc, h => by
    unfold octs at h ⊢
    split
    · rfl
    · rename_i h4
      rw [if_neg h4] at h
      split
      · rfl
      · rename_i n hn
        rw [hn] at h
        exact octs_four ps _ _ _ h
theorem octs_some : ∀ (ps : List (List Nat)) (i a : Nat) (acc : List Nat), (octs i a ps acc).2 = .ok → i ≤ 4 → i + ps.length ≤ 4
  | [], i, a, acc, _, h => by simpa using h
  | p :: ps, i, a, acc, h, hi => by
    unfold octs at h
    split at h
    · cases h
    · rename_i h4
      split at h
      · cases h
      · have := octs_some ps _ _ _ h (by omega)
        simp; omega
theorem addr_len (l : List Nat) : (addr l).1.length = 4 := by
  unfold addr
  split
  · rfl
  · split
    · rfl
    · rename_i h1 h2
      by_cases hok : (octs 0 0 (pcs l) []).2 = .ok
      · have h3 := octs_len _ _ _ _ hok
        have h4 := octs_some _ _ _ _ hok (by omega)
        simp at h3
        have : ¬ (pcs l).length < 4 := fun h => h2 ⟨hok, h⟩
        omega
      · rw [octs_four _ _ _ _ hok]; rfl
theorem octs_bytes : ∀ (ps : List (List Nat)) (i a : Nat) (acc : List Nat), (∀ x ∈ acc, x < 256) → ∀ x ∈ (octs i a ps acc).1, x < 256
  | [], i, a, acc, h => h
  | p :: ps, i, a, acc, h => by
    unfold octs
    split
    · intro x hx; simp at hx; omega
    · split
      · intro x hx; simp at hx; omega
      · rename_i n hn
        refine octs_bytes ps _ _ _ ?_
        intro x hx
        simp at hx
        rcases hx with hx | rfl
        · exact h x hx
        · unfold rd at hn
          split at hn
          · rename_i hh; simp at hn; omega
          · cases hn
theorem addr_bytes (l : List Nat) : ∀ x ∈ (addr l).1, x < 256 := by
  unfold addr
  split
  · intro x hx; simp at hx; omega
  · split
    · intro x hx; simp at hx; omega
    · exact octs_bytes _ _ _ _ (by simp)
theorem four {A : List Nat} (h : A.length = 4) : ∃ x0 x1 x2 x3, A = [x0, x1, x2, x3] := by
  match A, h with
  | [a, b, c, d], _ => exact ⟨a, b, c, d, rfl⟩

theorem wpList_load_rowG {P : Program} {ops : Array Oper} {rest : List Oper} {o : Oper} {a : Act} {w : World} {Q : Exit → Act → World → Prop} (hgd : Region.wanted o (yielded ops a.tmps) = true) (ty : TypeId) (x : Operand) (ho : o.op = .load ty x)
    (g : Nat) (hx : a.eval x = .pointer (some ⟨g, 0, none⟩)) (t : TypeId) (cs : Array Value) (fr : Nat × Nat) (d : TypeDesc) (hg : w.heap[g]? = some (.cells cs t fr))
    (hu : P.underlying ty = some d) (hd : (match d with | .struct _ | .array _ _ => true | _ => false) = true) (hi : (P.info? ty).map (·.size) = some cs.size)
    (h : wpList P ops Q rest (a.put o.dst (.agg cs)) w) : wpList P ops Q (o :: rest) a w :=
  BigFrame.wpList_want hgd fun _ hK => wp_load_row ty x ho g hx t cs fr d hg hu hd hi (hK _ _ h)
theorem keepB {w w' : World} {b : Nat} {o : Obj} (k : Below w.heap.size w w') (h : w.heap[b]? = some o) : w'.heap[b]? = some o := (k.block b (lt_of_some h)).trans h
theorem IsEr.some {w : World} {e : Er} {v : Value} (h : IsEr w e v) (he : e ≠ .ok) : ∃ b, v = .iface 104 (.pointer (Option.some ⟨b, 0, none⟩)) := by
  match e, h, he with
  | none, h, he => exact absurd rfl he
  | Option.some (a, c), h, he => obtain ⟨b, hv, _⟩ := h; exact ⟨b, hv⟩
/-- How many layers it tells of. -/
def erN : Er → Nat
  | none => 0
  | Option.some _ => 1
theorem badC_N (e : Er) : (badC e)[0]? = Option.some (.int .i64 (erN e : Nat)) := by
  match e with
  | none => rfl
  | Option.some (a, c) => rfl
theorem badI (e : Er) : (Tryz.prog.info? 64).map (·.size) = Option.some (badC e).size := by rw [badC_size]; exact info32
end Go.Proofs.YtiejandeoopiiaaGreatDoor
