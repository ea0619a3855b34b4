/-
  Slots held against the empty one, fresh slots, and what a Get asks; conditions as each theorem has them.
-/
import Derived.Test.YtcihkdmndpdmoaaB
set_option linter.unusedSimpArgs false
set_option linter.unusedVariables false
namespace Go.Proofs.Ytcihkdmndpdmoaa
open Go.RowKit
abbrev slV (s : Sl) : Value := .agg #[.string s.key, .string s.bs, .int .i64 s.at_, .int .i64 s.age, .bool s.asked]
abbrev zV : Value := .agg #[.string ⟨#[]⟩, .string ⟨#[]⟩, .int .i64 0, .int .i64 0, .bool false]
theorem slV_eq (s : Sl) : slV s = .agg (slC s).toArray := rfl
theorem neq_zero (w : World) : (binOp .neq 62 zV zV).run Try.prog w = .ok (.bool false) w := by go_simp
theorem eql_zero (w : World) : (binOp .eql 62 zV zV).run Try.prog w = .ok (.bool true) w := by go_simp
theorem neq_key {k : ByteArray} (h : k.size ≠ 0) (b : ByteArray) (p q : Int) (a : Bool) (w : World) : (binOp .neq 62 (.agg #[.string k, .string b, .int .i64 p, .int .i64 q, .bool a]) zV).run Try.prog w = .ok (.bool true) w := by
  have z1 : (k.toList == []) = false := by rw [ba_nil]; simp [h]
  have z2 : k.toList.isEmpty = false := by rw [ba_emp]; simp [h]
  clear h
  go_simp
theorem eql_key {k : ByteArray} (h : k.size ≠ 0) (b : ByteArray) (p q : Int) (a : Bool) (w : World) : (binOp .eql 62 zV (.agg #[.string k, .string b, .int .i64 p, .int .i64 q, .bool a])).run Try.prog w = .ok (.bool false) w := by
  have z1 : (k.toList == []) = false := by rw [ba_nil]; simp [h]
  have z2 : k.toList.isEmpty = false := by rw [ba_emp]; simp [h]
  clear h
  go_simp
def isOf (s : Sl) (key : ByteArray) : Bool := decide (s.key.size ≠ 0) && decide (s.key = key)
set_option maxHeartbeats 1000000 in
theorem isOf_at (s : Sl) (K : Nat) (key : ByteArray) (w : World) (hs : s.Ok K) : Calls Try.prog 45 #[slV s, .string key] w fun e w' => e = .returned (.bool (isOf s key)) ∧ Below w.heap.size w w' := by
  by_cases h0 : s.key.size = 0
  · have hz := hs.none h0
    subst hz
    rw [show isOf zeroS key = false by simp [isOf, h0]]
    have hq := neq_zero
    simp only [slV, zeroS, noN]
    clear h0 hs
    go_enter Try.func45, Try.ntmps45
    go_wp2
    go_ret
    exact ⟨rfl, (Below.refl _ _).alloc (Nat.le_refl _) _⟩
  · obtain ⟨k, b, p, q, a⟩ := s
    simp only at h0
    rw [show isOf ⟨k, b, p, q, a⟩ key = (k.toList == key.toList) by rw [eq_ba]; simp [isOf, h0]]
    have hq := neq_key h0 b p q a
    clear hs h0
    go_enter Try.func45, Try.ntmps45
    go_wp2
    go_ret
    exact ⟨rfl, (Below.refl _ _).alloc (Nat.le_refl _) _⟩
set_option maxHeartbeats 1000000 in
theorem isFresh_at (s : Sl) (K : Nat) (now : Int) (w : World) (hs : s.Ok K) (hn : ¬ badNow now) : Calls Try.prog 46 #[slV s, .int .i64 now] w fun e w' => e = .returned (.bool (fresh s now)) ∧ Below w.heap.size w w' := by
  obtain ⟨k, b, p, q, a⟩ := s
  obtain ⟨l1, l2, l3, l4, _, _, _⟩ := hs
  simp only at l1 l2 l3 l4
  unfold badNow at hn
  have hw : IntKind.i64.wrap (now - p) = now - p := wrap_int _ (by omega) (by omega)
  by_cases h1 : p ≤ now
  · have d1 : decide (now ≥ p) = true := decide_eq_true h1
    have d2 : decide (p ≤ now) = true := decide_eq_true h1
    obtain ⟨R, hR⟩ : ∃ R, R = fresh ⟨k, b, p, q, a⟩ now := ⟨_, rfl⟩
    have hR' : R = decide (now - p < q) := by rw [hR]; simp [fresh, h1]
    rw [← hR]
    have HR := hide hR'
    clear hR hR'
    go_enter Try.func46, Try.ntmps46
    go_wp2
    go_ret
    exact ⟨by rw [HR.out]; rfl, (Below.refl _ _).alloc (Nat.le_refl _) _⟩
  · have d1 : decide (now ≥ p) = false := decide_eq_false h1
    have d2 : decide (p ≤ now) = false := decide_eq_false h1
    rw [show fresh ⟨k, b, p, q, a⟩ now = false by simp [fresh, h1]]
    go_enter Try.func46, Try.ntmps46
    go_wp2
    go_ret
    exact ⟨rfl, (Below.refl _ _).alloc (Nat.le_refl _) _⟩
theorem box_below (w : World) (o : Obj) : Below w.heap.size w (w.alloc o) := (Below.refl _ _).alloc (Nat.le_refl _) _
set_option maxHeartbeats 1000000 in
theorem stays_at (s : Sl) (K : Nat) (now : Int) (w : World) (hs : s.Ok K) (hn : ¬ badNow now) : Calls Try.prog 48 #[slV s, .int .i64 now] w fun e w' => e = .returned (.bool (stays s now)) ∧ Below w.heap.size w w' := by
  have HF := fun W => hide (isFresh_at s K now W hs hn)
  have e0 : stays s now = (s.asked && fresh s now) := rfl
  rw [e0]
  generalize fresh s now = R at HF
  obtain ⟨k, b, p, q, a⟩ := s
  simp only [slV] at HF ⊢
  have HB := hide (box_below w (.cells #[.string k, .string b, .int .i64 p, .int .i64 q, .bool a] 62))
  clear hs hn e0
  cases a
  · go_enter Try.func48, Try.ntmps48
    go_wp2_with fail
    go_ret
    exact ⟨rfl, HB.out⟩
  · go_enter Try.func48, Try.ntmps48
    go_wp2_with fail
    refine (HF _).out.mono ?_
    rintro e w1 ⟨rfl, k1⟩
    have K1 := hide (HB.out.trans (k1.mono HB.out.size))
    clear k1
    go_wp2_with fail
    go_ret
    exact ⟨by simp, K1.out⟩
set_option maxHeartbeats 1000000 in
theorem isAnsweredBy_at (s : Sl) (K : Nat) (now : Int) (key : ByteArray) (w : World) (hs : s.Ok K) (hn : ¬ badNow now) : Calls Try.prog 40 #[.agg #[.int .i64 now, .string key], slV s] w fun e w' => e = .returned (.bool (isOf s key && fresh s now)) ∧ Below w.heap.size w w' := by
  have HF := fun W => hide (isFresh_at s K now W hs hn)
  have HO := fun W => hide (isOf_at s K key W hs)
  generalize fresh s now = R at HF
  generalize isOf s key = O at HO
  obtain ⟨k, b, p, q, a⟩ := s
  simp only [slV] at HF HO ⊢
  clear hs hn
  obtain ⟨w0, hw0⟩ : ∃ w0, w0 = (w.alloc (.cells #[.int .i64 now, .string key] 72)).alloc (.cells #[.string k, .string b, .int .i64 p, .int .i64 q, .bool a] 62) := ⟨_, rfl⟩
  have B0 : Hid (Below w.heap.size w w0) := by rw [hw0]; exact ((Below.refl _ _).alloc (Nat.le_refl _) _).alloc (by simp) _
  have b1 : Hid (w0.heap[w.heap.size]? = some (.cells #[.int .i64 now, .string key] 72)) := by rw [hw0]; exact alloc_old _ (alloc_new _ _)
  have b2 : Hid (w0.heap[w.heap.size + 1]? = some (.cells #[.string k, .string b, .int .i64 p, .int .i64 q, .bool a] 62)) := by rw [hw0]; exact alloc_new2 _ _ _
  have HW0 := hide hw0.symm
  clear hw0
  cases O
  · go_enter Try.func40, Try.ntmps40
    go_wp2_with fail
    rw [HW0.out]
    refine (HO _).out.mono ?_
    rintro e w1 ⟨rfl, k1⟩
    have K1 := hide (B0.out.trans (k1.mono B0.out.size))
    clear k1
    go_wp2_with fail
    go_ret
    exact ⟨rfl, K1.out⟩
  · go_enter Try.func40, Try.ntmps40
    go_wp2_with fail
    rw [HW0.out]
    refine (HO _).out.mono ?_
    rintro e w1 ⟨rfl, k1⟩
    have K1 := hide (B0.out.trans (k1.mono B0.out.size))
    have c1 := (k1.block _ (lt_of_some b1.out)).trans b1.out
    have c2 := (k1.block _ (lt_of_some b2.out)).trans b2.out
    have f0 : w1.cell? ⟨w.heap.size, 0, none⟩ = some (.int .i64 now) := by simp [World.cell?, c1]
    have g0 : w1.cell? ⟨w.heap.size + 1, 0, none⟩ = some (.string k) := by simp [World.cell?, c2]
    have g1 : w1.cell? ⟨w.heap.size + 1, 1, none⟩ = some (.string b) := by simp [World.cell?, c2]
    have g2 : w1.cell? ⟨w.heap.size + 1, 2, none⟩ = some (.int .i64 p) := by simp [World.cell?, c2]
    have g3 : w1.cell? ⟨w.heap.size + 1, 3, none⟩ = some (.int .i64 q) := by simp [World.cell?, c2]
    have g4 : w1.cell? ⟨w.heap.size + 1, 4, none⟩ = some (.bool a) := by simp [World.cell?, c2]
    clear k1 c1 c2
    go_wp2_with fail
    refine (HF _).out.mono ?_
    rintro e w2 ⟨rfl, k2⟩
    have K2 := hide (K1.out.trans (k2.mono K1.out.size))
    clear k2
    go_wp2_with fail
    go_ret
    exact ⟨by simp, K2.out⟩
end Go.Proofs.Ytcihkdmndpdmoaa
