/-
  DigestChains' walk; conditions as each theorem has them.
-/
import Derived.Test.YtaibdmmacncejaaDoorQ
import Derived.Test.YtaibdmmacncejaaDoorX
set_option linter.unusedSimpArgs false
set_option linter.unusedVariables false
namespace Go.Proofs.YtaibdmmacncejaaDoor
open Go.RowKit

attribute [local go_sem ↓] run_op24 Go.wp_at_zero Go.wp_at_succ
attribute [local go_sem] arrOf_drew isArr_drew arrAt_ptr isAt_ptr

/-- The box of s, the tables. -/
structure LS (w0 : World) (C : List Value) (X : World) : Prop where
  box : Row X w0.heap.size 24 C
  tabs : Tabs X
  bel : Below w0.heap.size w0 X
theorem LS.below {w0 : World} {C : List Value} {X X' : World} (h : LS w0 C X) (k : Below X.heap.size X X') : LS w0 C X' :=
  ⟨h.box.below k h.box.lt, h.tabs.below k h.tabs.size, h.bel.trans (k.mono h.bel.size)⟩
theorem LS.drew {w0 : World} {C : List Value} {X : World} (h : LS w0 C X) : LS w0 C X.drew := ⟨h.box, h.tabs.keep rfl rfl, ⟨h.bel.os, h.bel.tape, h.bel.output, h.bel.size, h.bel.block⟩⟩

set_option maxRecDepth 100000 in
set_option maxHeartbeats 4000000 in
theorem chains_walk (s : List Nat) (t u : ByteArray) (w : World) (hT : Tabs w) (hs : s.length = 32) (hb : ∀ x ∈ s, x < 256) (hm : t.size ≤ maxLen) (ht : t.size < 10000000000) (hm' : u.size ≤ maxLen) (hu : u.size < 10000000000) :
    Calls Tryd.prog 7 #[.agg (nums .u8 s).toArray, .string t, .string u] w fun e w' => e = .returned (.bool true) ∧ Below w.heap.size w w' := by
  have h2 := hT.size
  obtain ⟨T2, hT2⟩ : ∃ T2, T2 = t ++ u := ⟨_, rfl⟩
  have hA2 : t ++ u = T2 := hT2.symm
  have hts2 : T2.size < 100000000000 := by rw [hT2, ByteArray.size_append]; omega
  have heq1 := fun w => run_eq24 (dig (link s t)) (dig_length _) (dig_byte _) w
  have heq2 := fun w => run_eq24 (dig (link s T2)) (dig_length _) (dig_byte _) w
  have k1 : ∀ X, LS w (nums .u8 s) X → Calls Tryd.prog 21 #[.agg (nums .u8 s).toArray, .string t] X fun e w' => e = .returned (.agg (nums .u8 (dig (link s t))).toArray) ∧ LS w (nums .u8 s) w' := fun X h => by
    refine (chain_at s t X h.tabs hs hb (by omega)).mono ?_
    rintro e w' ⟨rfl, b⟩
    exact ⟨rfl, h.below b⟩
  have k2 : ∀ X, LS w (nums .u8 s) X → Calls Tryd.prog 22 #[.agg (nums .u8 s).toArray, .string t] X fun e w' => e = .returned (.agg (nums .u8 (dig (link s t))).toArray) ∧ LS w (nums .u8 s) w' := fun X h => by
    refine (rchain_at s t X h.tabs hs hb (by omega)).mono ?_
    rintro e w' ⟨rfl, b⟩
    exact ⟨rfl, h.below b⟩
  have k3 : ∀ X, LS w (nums .u8 s) X → Calls Tryd.prog 21 #[.agg (nums .u8 s).toArray, .string T2] X fun e w' => e = .returned (.agg (nums .u8 (dig (link s T2))).toArray) ∧ LS w (nums .u8 s) w' := fun X h => by
    refine (chain_at s T2 X h.tabs hs hb (by omega)).mono ?_
    rintro e w' ⟨rfl, b⟩
    exact ⟨rfl, h.below b⟩
  have k4 : ∀ X, LS w (nums .u8 s) X → Calls Tryd.prog 22 #[.agg (nums .u8 s).toArray, .string T2] X fun e w' => e = .returned (.agg (nums .u8 (dig (link s T2))).toArray) ∧ LS w (nums .u8 s) w' := fun X h => by
    refine (rchain_at s T2 X h.tabs hs hb (by omega)).mono ?_
    rintro e w' ⟨rfl, b⟩
    exact ⟨rfl, h.below b⟩
  obtain ⟨V1, hV1⟩ : ∃ V, V = (nums .u8 (dig (link s t))).toArray := ⟨_, rfl⟩
  obtain ⟨V2, hV2⟩ : ∃ V, V = (nums .u8 (dig (link s T2))).toArray := ⟨_, rfl⟩
  obtain ⟨C, hC⟩ : ∃ C, C = nums .u8 s := ⟨_, rfl⟩
  have hCl : C.length = 32 := by rw [hC, nums_length, hs]
  rw [← hV1, ← hC] at k1 k2
  rw [← hV2, ← hC] at k3 k4
  rw [← hV1] at heq1
  rw [← hV2] at heq2
  rw [← hC]
  have hgd := guard24
  have hno : ¬ (9223372036854775807 < t.size + u.size) := by omega
  have hadd := fun w => (run_string_add_sum (P := Tryd.prog) w t u (by omega)).trans (by rw [hA2])
  obtain ⟨W1, hW1⟩ : ∃ W1, W1 = w.alloc (.cells C.toArray 24) := ⟨_, rfl⟩
  have hAl : w.alloc (.cells C.toArray 24) = W1 := hW1.symm
  have b1 : Below w.heap.size w W1 := by rw [hW1]; exact (Below.refl _ _).alloc (Nat.le_refl _) _
  have l1 : LS w C W1 := ⟨by rw [hW1]; exact Row.new w C.toArray 24, hT.below b1 h2, b1⟩
  have K1 := hide k1
  have K2 := hide k2
  have K3 := hide k3
  have K4 := hide k4
  have L1 := hide l1
  have hC1 : ∀ v ∈ C, v.oneCell' = true := by rw [hC]; exact nums_one _ _
  have rc : Hid (∀ {W : World}, LS w C W → arrOf W w.heap.size = C.toArray ∧ isArr W w.heap.size = true) := fun h => ⟨arrOf_row h.box, isArr_row h.box hCl⟩
  clear hT hT2 k1 k2 k3 k4 hV1 hV2 hC hW1 b1 l1 hs hb hm hm'
  go_enter Tryd.func7, Tryd.ntmps7
  go_wp2_with fail
  refine (works_at _ L1.out.tabs).mono ?_
  rintro e w2 ⟨rfl, b2⟩
  have HS := hide (L1.out.below b2)
  clear b2 L1 hAl
  obtain ⟨a1, i1⟩ := rc.out HS.out
  clear hCl hC1
  go_wp2_with fail
  have HI : Hid (∀ X, LS w C X → ∀ v, v = Value.pointer (some ⟨w.heap.size, 0, none⟩) → isAt X v = true) := fun X hX v e => by subst e; exact (rc.out hX).2
  have HA : Hid (∀ X, LS w C X → ∀ v, v = Value.pointer (some ⟨w.heap.size, 0, none⟩) → (Result.ok (Next.value (.agg (arrAt X v))) X : Result Next) = .ok (.value (.agg C.toArray)) X) := fun X hX v e => by subst e; rw [arrAt_ptr, (rc.out hX).1]
  refine wp_region_held_drew (S := LS w C) (by kernel_rfl) HS.out.drew (fun hHeld => ?_)
  clear HS a1 i1
  refine wpAnyH_take (i := 0) (oi := { dst := some 9, op := Op.load 24 (Operand.tmp 3), type := 24, pos := "law.go:87", after := #[], guard := none }) (v := .agg C.toArray) rfl (by kernel_rfl) (by kernel_rfl) (by kernel_rfl) (fun _ _ _ h => h) (Or.inl ⟨by rfl, (fun X hX => (run_op24 _ _ _ _ _ _ _ X (HI.out X hX _ rfl)).trans (HA.out X hX _ rfl))⟩) hHeld ?_
  try simp only [Act.put, List.setIfInBounds_toArray, List.set_cons_zero, List.set_cons_succ]
  refine wpAnyH_take (i := 1) (oi := { dst := some 10, op := Op.move (Operand.tmp 1), type := 9, pos := "law.go:87", after := #[], guard := none }) (v := .string t) rfl (by kernel_rfl) (by kernel_rfl) (by kernel_rfl) (fun _ _ _ h => h) (Or.inl ⟨by rfl, fun X hX => ?_⟩) hHeld ?_
  · clear hHeld
    go_simp
  try simp only [Act.put, List.setIfInBounds_toArray, List.set_cons_zero, List.set_cons_succ]
  refine wpAnyH_take (i := 3) (oi := { dst := some 12, op := Op.load 24 (Operand.tmp 3), type := 24, pos := "law.go:87", after := #[], guard := none }) (v := .agg C.toArray) rfl (by kernel_rfl) (by kernel_rfl) (by kernel_rfl) (fun _ _ _ h => h) (Or.inl ⟨by rfl, (fun X hX => (run_op24 _ _ _ _ _ _ _ X (HI.out X hX _ rfl)).trans (HA.out X hX _ rfl))⟩) hHeld ?_
  try simp only [Act.put, List.setIfInBounds_toArray, List.set_cons_zero, List.set_cons_succ]
  refine wpAnyH_take (i := 4) (oi := { dst := some 13, op := Op.move (Operand.tmp 1), type := 9, pos := "law.go:87", after := #[], guard := none }) (v := .string t) rfl (by kernel_rfl) (by kernel_rfl) (by kernel_rfl) (fun _ _ _ h => h) (Or.inl ⟨by rfl, fun X hX => ?_⟩) hHeld ?_
  · clear hHeld
    go_simp
  try simp only [Act.put, List.setIfInBounds_toArray, List.set_cons_zero, List.set_cons_succ]
  refine wpAnyH_ready (rs := [2]) (by kernel_rfl) (by simp) ?_
  refine AllReadyH.cons (o := { dst := some 11, op := Op.call { callee := Callee.value (Operand.func 21), args := #[Operand.tmp 9, Operand.tmp 10], argTypes := #[24, 9] }, type := 24, pos := "law.go:87", after := #[{ on := 0, ground := Ground.data }, { on := 1, ground := Ground.data }], guard := none }) rfl (fun K hK => ?_) AllReadyH.nil
  go_simp
  go_wp2_with (go_at_call 21; refine (K1.out _ hHeld).mono ?_; rintro e w12 ⟨rfl, hs2⟩)
  refine hK.out _ _ hs2 (fun hHeld => ?_)
  clear hK K
  try simp only [Act.put, List.setIfInBounds_toArray, List.set_cons_zero, List.set_cons_succ]
  refine wpAnyH_ready (rs := [5]) (by kernel_rfl) (by simp) ?_
  refine AllReadyH.cons (o := { dst := some 14, op := Op.call { callee := Callee.value (Operand.func 22), args := #[Operand.tmp 12, Operand.tmp 13], argTypes := #[24, 9] }, type := 24, pos := "law.go:87", after := #[{ on := 3, ground := Ground.data }, { on := 4, ground := Ground.data }, { on := 2, ground := Ground.chain }], guard := none }) rfl (fun K hK => ?_) AllReadyH.nil
  go_simp
  go_wp2_with (go_at_call 22; refine (K2.out _ hHeld).mono ?_; rintro e w15 ⟨rfl, hs5⟩)
  refine hK.out _ _ hs5 (fun hHeld => ?_)
  clear hK K
  try simp only [Act.put, List.setIfInBounds_toArray, List.set_cons_zero, List.set_cons_succ]
  refine wpAnyH_take (i := 6) (oi := { dst := some 15, op := Op.binOp BinOp.eql 24 (Operand.tmp 11) (Operand.tmp 14) 24, type := 4, pos := "law.go:87", after := #[{ on := 2, ground := Ground.data }, { on := 5, ground := Ground.data }], guard := none }) (v := .bool true) rfl (by kernel_rfl) (by kernel_rfl) (by kernel_rfl) (fun _ _ _ h => h) (Or.inl ⟨by rfl, fun X hX => ?_⟩) hHeld ?_
  · clear hHeld
    go_simp
  try simp only [Act.put, List.setIfInBounds_toArray, List.set_cons_zero, List.set_cons_succ]
  refine wpAnyH_take (i := 7) (oi := { dst := some 16, op := Op.move (Operand.tmp 15), type := 4, pos := "law.go:87", after := #[{ on := 6, ground := Ground.data }, { on := 5, ground := Ground.chain }], guard := none }) (v := .bool true) rfl (by kernel_rfl) (by kernel_rfl) (by kernel_rfl) (fun _ _ _ h => h) (Or.inl ⟨by rfl, fun X hX => ?_⟩) hHeld ?_
  · clear hHeld
    go_simp
  try simp only [Act.put, List.setIfInBounds_toArray, List.set_cons_zero, List.set_cons_succ]
  refine wpAnyH_take (i := 8) (oi := { dst := some 17, op := Op.load 24 (Operand.tmp 3), type := 24, pos := "law.go:87", after := #[{ on := 7, ground := Ground.guard }], guard := some (7, true) }) (v := .agg C.toArray) rfl (by kernel_rfl) (by kernel_rfl) (by kernel_rfl) (fun _ _ _ h => h) (Or.inl ⟨by rfl, (fun X hX => (run_op24 _ _ _ _ _ _ _ X (HI.out X hX _ rfl)).trans (HA.out X hX _ rfl))⟩) hHeld ?_
  try simp only [Act.put, List.setIfInBounds_toArray, List.set_cons_zero, List.set_cons_succ]
  refine wpAnyH_take (i := 9) (oi := { dst := some 18, op := Op.move (Operand.tmp 1), type := 9, pos := "law.go:87", after := #[{ on := 7, ground := Ground.guard }], guard := some (7, true) }) (v := .string t) rfl (by kernel_rfl) (by kernel_rfl) (by kernel_rfl) (fun _ _ _ h => h) (Or.inl ⟨by rfl, fun X hX => ?_⟩) hHeld ?_
  · clear hHeld
    go_simp
  try simp only [Act.put, List.setIfInBounds_toArray, List.set_cons_zero, List.set_cons_succ]
  refine wpAnyH_take (i := 10) (oi := { dst := some 19, op := Op.move (Operand.tmp 2), type := 9, pos := "law.go:87", after := #[{ on := 7, ground := Ground.guard }], guard := some (7, true) }) (v := .string u) rfl (by kernel_rfl) (by kernel_rfl) (by kernel_rfl) (fun _ _ _ h => h) (Or.inl ⟨by rfl, fun X hX => ?_⟩) hHeld ?_
  · clear hHeld
    go_simp
  try simp only [Act.put, List.setIfInBounds_toArray, List.set_cons_zero, List.set_cons_succ]
  refine wpAnyH_take (i := 11) (oi := { dst := some 20, op := Op.binOp BinOp.add 9 (Operand.tmp 18) (Operand.tmp 19) 9, type := 9, pos := "law.go:87", after := #[{ on := 9, ground := Ground.data }, { on := 10, ground := Ground.data }, { on := 7, ground := Ground.guard }], guard := some (7, true) }) (v := .string T2) rfl (by kernel_rfl) (by kernel_rfl) (by kernel_rfl) (fun _ _ _ h => h) (Or.inl ⟨by rfl, fun X hX => ?_⟩) hHeld ?_
  · clear hHeld
    go_simp
  try simp only [Act.put, List.setIfInBounds_toArray, List.set_cons_zero, List.set_cons_succ]
  refine wpAnyH_take (i := 13) (oi := { dst := some 22, op := Op.load 24 (Operand.tmp 3), type := 24, pos := "law.go:87", after := #[{ on := 7, ground := Ground.guard }], guard := some (7, true) }) (v := .agg C.toArray) rfl (by kernel_rfl) (by kernel_rfl) (by kernel_rfl) (fun _ _ _ h => h) (Or.inl ⟨by rfl, (fun X hX => (run_op24 _ _ _ _ _ _ _ X (HI.out X hX _ rfl)).trans (HA.out X hX _ rfl))⟩) hHeld ?_
  try simp only [Act.put, List.setIfInBounds_toArray, List.set_cons_zero, List.set_cons_succ]
  refine wpAnyH_take (i := 14) (oi := { dst := some 23, op := Op.move (Operand.tmp 1), type := 9, pos := "law.go:87", after := #[{ on := 7, ground := Ground.guard }], guard := some (7, true) }) (v := .string t) rfl (by kernel_rfl) (by kernel_rfl) (by kernel_rfl) (fun _ _ _ h => h) (Or.inl ⟨by rfl, fun X hX => ?_⟩) hHeld ?_
  · clear hHeld
    go_simp
  try simp only [Act.put, List.setIfInBounds_toArray, List.set_cons_zero, List.set_cons_succ]
  refine wpAnyH_take (i := 15) (oi := { dst := some 24, op := Op.move (Operand.tmp 2), type := 9, pos := "law.go:87", after := #[{ on := 7, ground := Ground.guard }], guard := some (7, true) }) (v := .string u) rfl (by kernel_rfl) (by kernel_rfl) (by kernel_rfl) (fun _ _ _ h => h) (Or.inl ⟨by rfl, fun X hX => ?_⟩) hHeld ?_
  · clear hHeld
    go_simp
  try simp only [Act.put, List.setIfInBounds_toArray, List.set_cons_zero, List.set_cons_succ]
  refine wpAnyH_take (i := 16) (oi := { dst := some 25, op := Op.binOp BinOp.add 9 (Operand.tmp 23) (Operand.tmp 24) 9, type := 9, pos := "law.go:87", after := #[{ on := 14, ground := Ground.data }, { on := 15, ground := Ground.data }, { on := 7, ground := Ground.guard }], guard := some (7, true) }) (v := .string T2) rfl (by kernel_rfl) (by kernel_rfl) (by kernel_rfl) (fun _ _ _ h => h) (Or.inl ⟨by rfl, fun X hX => ?_⟩) hHeld ?_
  · clear hHeld
    go_simp
  try simp only [Act.put, List.setIfInBounds_toArray, List.set_cons_zero, List.set_cons_succ]
  refine wpAnyH_ready (rs := [12]) (by kernel_rfl) (by simp) ?_
  refine AllReadyH.cons (o := { dst := some 21, op := Op.call { callee := Callee.value (Operand.func 21), args := #[Operand.tmp 17, Operand.tmp 20], argTypes := #[24, 9] }, type := 24, pos := "law.go:87", after := #[{ on := 8, ground := Ground.data }, { on := 11, ground := Ground.data }, { on := 7, ground := Ground.chain }, { on := 7, ground := Ground.guard }], guard := some (7, true) }) rfl (fun K hK => ?_) AllReadyH.nil
  go_simp
  go_wp2_with (go_at_call 21; refine (K3.out _ hHeld).mono ?_; rintro e w22 ⟨rfl, hs12⟩)
  refine hK.out _ _ hs12 (fun hHeld => ?_)
  clear hK K
  try simp only [Act.put, List.setIfInBounds_toArray, List.set_cons_zero, List.set_cons_succ]
  refine wpAnyH_ready (rs := [17]) (by kernel_rfl) (by simp) ?_
  refine AllReadyH.cons (o := { dst := some 26, op := Op.call { callee := Callee.value (Operand.func 22), args := #[Operand.tmp 22, Operand.tmp 25], argTypes := #[24, 9] }, type := 24, pos := "law.go:87", after := #[{ on := 13, ground := Ground.data }, { on := 16, ground := Ground.data }, { on := 12, ground := Ground.chain }, { on := 7, ground := Ground.guard }], guard := some (7, true) }) rfl (fun K hK => ?_) AllReadyH.nil
  go_simp
  go_wp2_with (go_at_call 22; refine (K4.out _ hHeld).mono ?_; rintro e w27 ⟨rfl, hs17⟩)
  refine hK.out _ _ hs17 (fun hHeld => ?_)
  clear hK K
  try simp only [Act.put, List.setIfInBounds_toArray, List.set_cons_zero, List.set_cons_succ]
  refine wpAnyH_take (i := 18) (oi := { dst := some 27, op := Op.binOp BinOp.eql 24 (Operand.tmp 21) (Operand.tmp 26) 24, type := 4, pos := "law.go:87", after := #[{ on := 12, ground := Ground.data }, { on := 17, ground := Ground.data }, { on := 7, ground := Ground.guard }], guard := some (7, true) }) (v := .bool true) rfl (by kernel_rfl) (by kernel_rfl) (by kernel_rfl) (fun _ _ _ h => h) (Or.inl ⟨by rfl, fun X hX => ?_⟩) hHeld ?_
  · clear hHeld
    go_simp
  try simp only [Act.put, List.setIfInBounds_toArray, List.set_cons_zero, List.set_cons_succ]
  refine wpAnyH_take (i := 19) (oi := { dst := some 28, op := Op.pick (Operand.tmp 16) (Operand.tmp 27) (Operand.const (Value.bool false)), type := 4, pos := "law.go:87", after := #[{ on := 7, ground := Ground.data }, { on := 18, ground := Ground.data }], guard := none }) (v := .bool true) rfl (by kernel_rfl) (by kernel_rfl) (by kernel_rfl) (fun _ _ _ h => h) (Or.inl ⟨by rfl, fun X hX => ?_⟩) hHeld ?_
  · clear hHeld
    go_simp
  try simp only [Act.put, List.setIfInBounds_toArray, List.set_cons_zero, List.set_cons_succ]
  refine wpAnyH_take (i := 20) (oi := { dst := some 6, op := Op.assign (Operand.tmp 28), type := 4, pos := "law.go:87", after := #[{ on := 19, ground := Ground.data }, { on := 17, ground := Ground.chain }, { on := 0, ground := Ground.phase }, { on := 1, ground := Ground.phase }, { on := 2, ground := Ground.phase }, { on := 3, ground := Ground.phase }, { on := 4, ground := Ground.phase }, { on := 5, ground := Ground.phase }, { on := 6, ground := Ground.phase }, { on := 7, ground := Ground.phase }, { on := 8, ground := Ground.phase }, { on := 9, ground := Ground.phase }, { on := 10, ground := Ground.phase }, { on := 11, ground := Ground.phase }, { on := 12, ground := Ground.phase }, { on := 13, ground := Ground.phase }, { on := 14, ground := Ground.phase }, { on := 15, ground := Ground.phase }, { on := 16, ground := Ground.phase }, { on := 17, ground := Ground.phase }, { on := 18, ground := Ground.phase }, { on := 19, ground := Ground.phase }], guard := none }) (v := .bool true) rfl (by kernel_rfl) (by kernel_rfl) (by kernel_rfl) (fun _ _ _ h => h) (Or.inl ⟨by rfl, fun X hX => ?_⟩) hHeld ?_
  · clear hHeld
    go_simp
  try simp only [Act.put, List.setIfInBounds_toArray, List.set_cons_zero, List.set_cons_succ]
  refine wpAnyH_done (by kernel_rfl) ?_ _
  have HB := hide hHeld.bel
  clear hHeld
  go_wp2_with fail
  go_ret
  exact ⟨rfl, HB.out⟩
end Go.Proofs.YtaibdmmacncejaaDoor
