/-
  PutQuestion; conditions as each theorem has them.
-/
import Derived.Test.YtabkelhipmijfaaGreatDoorPC
set_option linter.unusedSimpArgs false
set_option linter.unusedVariables false
namespace Go.Proofs.YtabkelhipmijfaaGreatDoor
open Go.RowKit

/-- What a writer answers: bytes of their own, and a number. -/
def Wrote (r : List Nat × Nat) (w : World) (e : Ending) (w' : World) : Prop := ∃ a cap, e = .returned (.tuple #[.slice a r.1.length cap, .int .i64 (r.2 : Nat)]) ∧ Src w' a r.1.length cap r.1 ∧ Below w.heap.size w w'
theorem wrote_own {w w' : World} {v : Value} {l : List Nat} {B : Nat} (h : Own w' B 5 v (nums .u8 l)) (hb : ∀ x ∈ l, x < 256) (k : Below w.heap.size w w') (c : Nat) : Wrote (l, c) w (.returned (.tuple #[v, .int .i64 (c : Nat)])) w' := by
  obtain ⟨a, cap, rfl, hs, _⟩ := own_src h hb
  exact ⟨a, cap, rfl, hs, k⟩
theorem wrote_nil {w w' : World} (k : Below w.heap.size w w') (c : Nat) : Wrote ([], c) w (.returned (.tuple #[.slice none 0 0, .int .i64 (c : Nat)])) w' := ⟨none, 0, rfl, Src.nilS _, k⟩
/-- The same, and that the bytes lie in memory of their own. -/
def WroteO (r : List Nat × Nat) (w : World) (e : Ending) (w' : World) : Prop := ∃ v, e = .returned (.tuple #[v, .int .i64 (r.2 : Nat)]) ∧ Own w' w.heap.size 5 v (nums .u8 r.1) ∧ (∀ x ∈ r.1, x < 256) ∧ Below w.heap.size w w'
theorem WroteO.wrote {r : List Nat × Nat} {w w' : World} {e : Ending} (h : WroteO r w e w') : Wrote r w e w' := by
  obtain ⟨v, rfl, ho, hb, k⟩ := h
  exact wrote_own ho hb k r.2
theorem wroteO_own {w w' : World} {v : Value} {l : List Nat} {B : Nat} (hB : w.heap.size ≤ B) (h : Own w' B 5 v (nums .u8 l)) (hb : ∀ x ∈ l, x < 256) (k : Below w.heap.size w w') (c : Nat) : WroteO (l, c) w (.returned (.tuple #[v, .int .i64 (c : Nat)])) w' := by
  refine ⟨v, rfl, ⟨h.1, ?_⟩, hb, k⟩
  rcases h.2 with h0 | ⟨x, cap, cur, hv, hx, hrest⟩
  · exact Or.inl h0
  · exact Or.inr ⟨x, cap, cur, hv, Nat.le_trans hB hx, hrest⟩
theorem wroteO_nil {w w' : World} (k : Below w.heap.size w w') (c : Nat) : WroteO ([], c) w (.returned (.tuple #[.slice none 0 0, .int .i64 (c : Nat)])) w' := ⟨_, rfl, ⟨rfl, Or.inl ⟨rfl, rfl⟩⟩, by simp, k⟩
def putQr (id : Int) (n : List Nat) : List Nat × Nat := if qry id n = true then (putQ id.toNat 256 0 n, 0) else ([], 2)
theorem qry_ok {id : Int} {n : List Nat} (h : qry id n = true) : 0 ≤ id ∧ id ≤ 65535 ∧ name n = (n, .ok) ∧ n.length ≤ 253 := by
  simp only [qry, Bool.and_eq_true, decide_eq_true_eq] at h
  exact ⟨h.1.1, h.1.2, h.2, (name_ok h.2).1⟩
theorem putQ_lt (id fl an : Nat) (n : List Nat) (h : n.length ≤ 253) (hb : ∀ x ∈ n, x < 256) : ∀ x ∈ putQ id fl an n, x < 256 := by
  intro x hx
  simp only [putQ, List.mem_append] at hx
  rcases hx with ((hx | hx) | hx) | hx
  · exact nums2_lt _ x hx
  · exact lbe_lt (fun p hp => by have := (pcs_len n).2 p hp; omega) (pcs_lt hb) x hx
  · simp at hx; omega
  · exact nums2_lt _ x hx
theorem qry_fls {id : Int} {n : List Nat} {R : List Nat × Nat} (hR : R = putQr id n) (h : ¬ qry id n = true) : R = ([], 2) := by rw [hR, putQr, if_neg h]
set_option maxRecDepth 100000 in
set_option maxHeartbeats 2000000 in
theorem pputQuestion_at (id : Int) (t : ByteArray) (w : World) (ht : t.size ≤ maxLen) (hV : Vars w) :
    Calls Tryz.prog 57 #[.agg #[.int .i64 id, .string t]] w (WroteO (putQr id (byt t)) w) := by
  have b1 : Below w.heap.size w (w.alloc (.cells #[.int .i64 id, .string t] 57)) := (Below.refl _ _).alloc (Nat.le_refl _) _
  have HQ := hide (isQuery_at id t (w.alloc (.cells #[.int .i64 id, .string t] 57)) ht (hV.below b1))
  have r1 : Row (w.alloc (.cells #[.int .i64 id, .string t] 57)) w.heap.size 57 [.int .i64 id, .string t] := Row.new w #[.int .i64 id, .string t] 57
  have R1 := hide r1
  have B1 := hide b1
  have HV := hide (hV.below b1)
  obtain ⟨R, hR⟩ : ∃ R, R = putQr id (byt t) := ⟨_, rfl⟩
  rw [← hR]
  by_cases hq : qry id (byt t) = true
  · rw [hq] at HQ
    obtain ⟨q1, q2, q3, q4⟩ := qry_ok hq
    rw [byt_length] at q4
    obtain ⟨I, rfl⟩ : ∃ I : Nat, id = (I : Int) := ⟨id.toNat, by omega⟩
    have HR : Hid (R = (putQ I 256 0 (byt t), 0)) := by show _ = _; rw [hR, putQr, if_pos hq]; rfl
    clear b1 r1 hV hR hq
    go_enter Tryz.func57, Tryz.ntmps57
    go_wp2_with fail
    refine HQ.out.mono ?_
    rintro e w1 ⟨rfl, b2⟩
    have r2 := R1.out.below b2 (by simp)
    have c0 : w1.cell? ⟨w.heap.size, 0, none⟩ = some (.int .i64 (I : Nat)) := r2.cell 0
    have c1 : w1.cell? ⟨w.heap.size, 1, none⟩ = some (.string t) := r2.cell 1
    have hg := r2.lt
    have B2 := hide (B1.out.trans (b2.mono (by simp)))
    have HP := hide (putQuestion_at I 256 0 t w1 (by omega) (by omega) (by omega) (by omega) (HV.out.below b2))
    rw [show ((256 : Nat) : Int) = 256 from rfl, show ((0 : Nat) : Int) = 0 from rfl] at HP
    clear b2 r2 HQ
    go_wp2_with fail
    refine HP.out.mono ?_
    rintro e w2 ⟨v, rfl, o3, b3⟩
    have HW := hide (wroteO_own B2.out.size o3 (putQ_lt I 256 0 (byt t) (by rw [byt_length]; omega) (byt_lt t)) (B2.out.trans (b3.mono B2.out.size)) 0)
    rw [← HR.out] at HW
    clear b3 o3
    go_wp2_with fail
    go_ret2
    exact HW.out
  · have HR : Hid (R = ([], 2)) := qry_fls hR hq
    have hqf : qry id (byt t) = false := by simpa using hq
    rw [hqf] at HQ
    clear b1 r1 hV hR hq hqf
    go_enter Tryz.func57, Tryz.ntmps57
    go_wp2_with fail
    refine HQ.out.mono ?_
    rintro e w1 ⟨rfl, b2⟩
    have HW := hide (wroteO_nil (B1.out.trans (b2.mono (by simp))) 2)
    rw [← HR.out] at HW
    clear b2
    go_wp2_with fail
    go_ret2
    exact HW.out
end Go.Proofs.YtabkelhipmijfaaGreatDoor
