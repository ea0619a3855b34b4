/-
  PutRequest and PutReply of package five, and what is read of what they write; conditions as each theorem has them.
-/
import Derived.Test.YtefgjmijbedbkaaDoorPD
import Derived.Test.YtefgjmijbedbkaaDoorPC
set_option linter.unusedSimpArgs false
set_option linter.unusedVariables false
namespace Go.Proofs.YtefgjmijbedbkaaDoor
open Go.RowKit

set_option maxRecDepth 100000 in
set_option maxHeartbeats 2000000 in
theorem putRequest_at (c : Int) (a : Ad) (t : ByteArray) (p : Int) (w : World) (hV : Vars w) (ha : a.ok) (ht : t.size ≤ maxLen) (hwf : -9223372036854775808 ≤ p ∧ p ≤ 9223372036854775807) : Calls Tryd.prog 29 #[.int .i64 c, deV a t p] w (Wrote (putRq c a (byt t) p) w) := by
  have b0 : Below w.heap.size w (w.alloc (.cells (deC a t p) 47)) := (Below.refl _ _).alloc (Nat.le_refl _) _
  have HP := hide (putTo_at c a t p _ (hV.below b0) ha ht hwf)
  simp only [deC, deV] at HP ⊢
  have B0 := hide b0
  clear hV b0
  go_enter Tryd.func29, Tryd.ntmps29
  go_wp2_with fail
  refine HP.out.mono ?_
  rintro e w1 ⟨x, y, rfl, hs, hb⟩
  have HS := hide hs
  have HB := hide (B0.out.trans (hb.mono B0.out.size))
  clear hs hb
  go_wp2_with fail
  go_ret2
  exact ⟨x, y, rfl, HS.out, HB.out⟩
set_option maxRecDepth 100000 in
set_option maxHeartbeats 2000000 in
theorem putReply_at (c : Int) (a : Ad) (t : ByteArray) (p : Int) (w : World) (hV : Vars w) (ha : a.ok) (ht : t.size ≤ maxLen) (hwf : -9223372036854775808 ≤ p ∧ p ≤ 9223372036854775807) : Calls Tryd.prog 31 #[.int .i64 c, deV a t p] w (Wrote (putRq c a (byt t) p) w) := by
  have b0 : Below w.heap.size w (w.alloc (.cells (deC a t p) 47)) := (Below.refl _ _).alloc (Nat.le_refl _) _
  have HP := hide (putTo_at c a t p _ (hV.below b0) ha ht hwf)
  simp only [deC, deV] at HP ⊢
  have B0 := hide b0
  clear hV b0
  go_enter Tryd.func31, Tryd.ntmps31
  go_wp2_with fail
  refine HP.out.mono ?_
  rintro e w1 ⟨x, y, rfl, hs, hb⟩
  have HS := hide hs
  have HB := hide (B0.out.trans (hb.mono B0.out.size))
  clear hs hb
  go_wp2_with fail
  go_ret2
  exact ⟨x, y, rfl, HS.out, HB.out⟩
/-- A request that is read: what it tells, and how it is written. -/
theorem req_good {b : List Nat} (hb : ∀ x ∈ b, x < 256) (h : (req b).2.2.2 = .ok) : ∃ (q : Nat) (A : Ad) (nm : List Nat) (pt K : Nat), req b = (q, (A, nm, pt), K, .ok) ∧ q < 256 ∧ A.ok ∧ (∀ x ∈ nm, x < 256) ∧ nm.length ≤ 253 ∧ pt < 65536 ∧ K ≤ b.length ∧ 1 ≤ K ∧ K ≤ 260 ∧ chk A nm = true := by
  obtain ⟨h1, h2, h3, h4, h5, h6⟩ := req_right hb h
  obtain ⟨n1, n2, n3⟩ := req_n h
  exact ⟨_, _, _, _, _, Prod.ext rfl (Prod.ext rfl (Prod.ext rfl h)), h1, h2, h6, h5, h4, n2, n1, n3, h3⟩
theorem putRq_good {q : Nat} {A : Ad} {nm : List Nat} {pt : Nat} (h1 : q < 256) (h2 : chk A nm = true) (h3 : pt < 65536) : putRq (q : Int) A nm (pt : Int) = (putR q A nm pt, 0) := by
  unfold putRq
  rw [if_pos ⟨by omega, h2, by omega, by omega⟩]
  rfl
theorem putR_len (c : Nat) (a : Ad) (n : List Nat) (p : Nat) (h : n.length ≤ 253) : (putR c a n p).length ≤ 260 := by
  unfold putR
  split
  · simp
  · simp; omega
end Go.Proofs.YtefgjmijbedbkaaDoor
