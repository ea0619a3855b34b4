/-
  DigestTexts' walk; conditions as each theorem has them.
-/
import Derived.Test.YtaibdmmacncejaaDoorO
import Derived.Deep.DrawnRows
set_option linter.unusedSimpArgs false
set_option linter.unusedVariables false
namespace Go.Proofs.YtaibdmmacncejaaDoor
open Go.RowKit

theorem row_below {w w' : World} {g : Nat} {ty : TypeId} {C : List Value} (k : Below w.heap.size w w') (h : Row w g ty C) : Row w' g ty C := h.below k h.lt
theorem pres_32 (t : ByteArray) : (pres (byt t)).1.length = 32 ∧ ∀ x ∈ (pres (byt t)).1, x < 256 := by
  rcases pres_or t with h | ⟨m, h, hl, hb, _⟩
  · rw [h]; exact ⟨by simp, fun x hx => by rw [List.eq_of_mem_replicate hx]; omega⟩
  · rw [h]; exact ⟨hl, hb⟩

/-- What block g holds. -/
def arrOf (w : World) (g : Nat) : Array Value := match w.heap[g]? with | some (.cells cs _ _) => cs | _ => #[]
/-- Block g holds 32 cells. -/
def isArr (w : World) (g : Nat) : Bool := match w.heap[g]? with | some (.cells cs _ _) => cs.size == 32 | _ => false
theorem arrOf_row {w : World} {g : Nat} {ty : TypeId} {C : List Value} (h : Row w g ty C) : arrOf w g = C.toArray := by unfold Row at h; simp [arrOf, h]
theorem isArr_row {w : World} {g : Nat} {ty : TypeId} {C : List Value} (h : Row w g ty C) (hl : C.length = 32) : isArr w g = true := by unfold Row at h; simp [isArr, h, hl]
theorem run_load24 (w : World) (g : Nat) (h : isArr w g = true) : (Instr.loadAt 24 (.pointer (some ⟨g, 0, none⟩))).run Tryd.prog w = .ok (.agg (arrOf w g)) w := by
  unfold isArr at h
  split at h
  · rename_i cs t fr e
    have hs : cs.size = 32 := by simpa using h
    have ha : arrOf w g = cs := by simp [arrOf, e]
    rw [ha]
    simp only [Instr.loadAt, Instr.sureAddr, Sem.run_bind, Sem.run_pure, Result.andThen_ok]
    exact run_loadVar_row w g t 24 cs fr _ e Tryd.underlying24 rfl (by rw [hs]; exact info24)
  · cases h
def arrAt (w : World) : Value → Array Value
  | .pointer (some ⟨g, 0, none⟩) => arrOf w g
  | _ => #[]
def isAt (w : World) : Value → Bool
  | .pointer (some ⟨g, 0, none⟩) => isArr w g
  | _ => false
theorem arrAt_ptr (w : World) (g : Nat) : arrAt w (.pointer (some ⟨g, 0, none⟩)) = arrOf w g := rfl
theorem isAt_ptr (w : World) (g : Nat) : isAt w (.pointer (some ⟨g, 0, none⟩)) = isArr w g := rfl
theorem arrOf_drew (w : World) (g : Nat) : arrOf w.drew g = arrOf w g := rfl
theorem isArr_drew (w : World) (g : Nat) : isArr w.drew g = isArr w g := rfl
/-- An array of 32 bytes is loaded: the operation as a whole. -/
theorem run_op24 (ρ : Operand → Value) (dst : Option Tmp) (x : Operand) (ty : TypeId) (pos : String) (after : Array Edge) (guard : Option (Nat × Bool)) (w : World) (h : isAt w (ρ x) = true) :
    (execOp ρ { dst, op := .load 24 x, type := ty, pos, after, guard }).run Tryd.prog w = .ok (.value (.agg (arrAt w (ρ x)))) w := by
  unfold isAt at h
  split at h
  · rename_i g e
    have := run_load24 w g h
    unfold execOp
    simp only [e, Sem.run_bind, this, Result.andThen_ok, Sem.run_pure, arrAt]
  · cases h
attribute [local go_sem ↓] run_op24 Go.wp_at_zero Go.wp_at_succ
attribute [local go_sem] arrOf_drew isArr_drew arrAt_ptr isAt_ptr

set_option maxRecDepth 100000 in
set_option maxHeartbeats 4000000 in
theorem texts_walk (s : List Nat) (t : ByteArray) (w : World) (hT : Tabs w) (hs : s.length = 32) (hb : ∀ x ∈ s, x < 256) (hm : t.size ≤ maxLen) :
    Calls Tryd.prog 5 #[.agg (nums .u8 s).toArray, .string t] w fun e w' => e = .returned (.bool true) ∧ Below w.heap.size w w' := by
  have h2 := hT.size
  obtain ⟨C, hC⟩ : ∃ C, C = nums .u8 s := ⟨_, rfl⟩
  have hCl : C.length = 32 := by rw [hC, nums_length, hs]
  have hC1 : ∀ v ∈ C, v.oneCell' = true := by rw [hC]; exact nums_one _ _
  have hhex := fun w => hex_at s w hs hb
  have hrhex := fun w => rhex_at s w hs hb
  obtain ⟨T, hT'⟩ : ∃ T, T = strN (hexOf s) := ⟨_, rfl⟩
  rw [← hT', ← hC] at hhex hrhex
  obtain ⟨pl32, pb⟩ := pres_32 t
  have hpar := fun w => parse_at t w hm
  have hrpar := fun w => rparse_at t w hm
  have heq := fun w => run_eq24 (pres (byt t)).1 pl32 pb w
  obtain ⟨M, hM⟩ : ∃ M, M = nums .u8 (pres (byt t)).1 := ⟨_, rfl⟩
  obtain ⟨E, hE⟩ : ∃ E, E = (pres (byt t)).2 := ⟨_, rfl⟩
  have hMl : M.length = 32 := by rw [hM, nums_length, pl32]
  have hM1 : M.toArray.all (·.oneCell') = true := by rw [hM]; exact nums_all _ _
  have hM2 : ∀ v ∈ M, v.oneCell' = true := by rw [hM]; exact nums_one _ _
  rw [← hM, ← hE] at hpar hrpar
  rw [← hM] at heq
  rw [← hC]
  have HT := hide hT
  have HHEX := hide hhex
  have HRHEX := hide hrhex
  have HPAR := hide hpar
  have HRPAR := hide hrpar
  have HM1 := hide hM1
  have HMl := hide hMl
  have Q2 : Hid (Option.map (fun x => x.size) (Tryd.prog.info? 24) = some M.toArray.size) := by show _ = some M.length; rw [hMl]; exact info24
  have Q3 : Hid (z32.size = M.toArray.size) := by show z32.size = M.length; rw [hMl]; rfl
  have hz := zero24
  have hgd := guard24
  obtain ⟨W1, hW1⟩ : ∃ W1, W1 = w.alloc (.cells C.toArray 24) := ⟨_, rfl⟩
  have hAl : w.alloc (.cells C.toArray 24) = W1 := hW1.symm
  have a1 : Row W1 w.heap.size 24 C := by rw [hW1]; exact Row.new w C.toArray 24
  have b1 : Below w.heap.size w W1 := by rw [hW1]; exact (Below.refl _ _).alloc (Nat.le_refl _) _
  have s1 : W1.heap.size = w.heap.size + 1 := by rw [hW1]; simp
  have A1 := hide a1
  have B1 := hide b1
  clear hT hhex hrhex hpar hrpar hT' hs hb hW1 a1 b1 hC hM hE pl32 pb hM1 hm
  go_enter Tryd.func5, Tryd.ntmps5
  go_wp2_with fail
  refine (HPAR.out _).mono ?_
  rintro e w4 ⟨rfl, b4⟩
  have s4 := b4.size
  obtain ⟨G, hG⟩ : ∃ G, G = w4.heap.size := ⟨_, rfl⟩
  obtain ⟨W5, hW5⟩ : ∃ W5, W5 = (w4.alloc (.cells z32 24)).setRow G M.toArray := ⟨_, rfl⟩
  have k5 : Below G w4 W5 := by rw [hW5]; exact (((Kept.refl G G w4).alloc _).setRow (Or.inl rfl) _).below (Nat.le_refl _) (Nat.le_refl _) (by omega)
  have hn5 : (w4.alloc (.cells z32 24)).heap[G]? = some (.cells z32 24) := by rw [hG]; exact alloc_new _ _
  have A5 : Hid (Row W5 w.heap.size 24 C) := ((k5.block _ (by omega)).trans (b4.block _ (by omega))).trans A1.out
  have C5 : Hid (Row W5 G 24 M) := by rw [hW5]; exact setRow_heap _ _ _ _ _ _ hn5
  have B5 : Hid (Below w.heap.size w W5) := (B1.out.trans (b4.mono (by omega))).trans (k5.mono (by omega))
  have s5 : W5.heap.size = G + 1 := by rw [hW5, hG]; simp
  have HN5 := hide hn5
  have HW5 := hide hW5
  have hGl : w.heap.size + 1 ≤ G := by omega
  have HG := hide hG
  clear b4 A1 B1 k5 hn5 hW5 s4 hAl hG s1
  go_wp2_with (refine wpList_store_rowW rfl 24 _ _ rfl G M.toArray (by show Value.pointer _ = _; rw [HG.out]) rfl 24 z32 HN5.out Q2.out Q3.out HM1.out W5 HW5.out ?_)
  rw [← HG.out]
  refine (HRPAR.out _).mono ?_
  rintro e w6 ⟨rfl, b6⟩
  have s6 := b6.size
  obtain ⟨F, hF⟩ : ∃ F, F = w6.heap.size := ⟨_, rfl⟩
  obtain ⟨W7, hW7⟩ : ∃ W7, W7 = (w6.alloc (.cells z32 24)).setRow F M.toArray := ⟨_, rfl⟩
  have k7 : Below F w6 W7 := by rw [hW7]; exact (((Kept.refl F F w6).alloc _).setRow (Or.inl rfl) _).below (Nat.le_refl _) (Nat.le_refl _) (by omega)
  have hn7 : (w6.alloc (.cells z32 24)).heap[F]? = some (.cells z32 24) := by rw [hF]; exact alloc_new _ _
  have A7 : Row W7 w.heap.size 24 C := ((k7.block _ (by omega)).trans (b6.block _ (by omega))).trans A5.out
  have C7 : Row W7 G 24 M := ((k7.block _ (by omega)).trans (b6.block _ (by omega))).trans C5.out
  have D7 : Row W7 F 24 M := by rw [hW7]; exact setRow_heap _ _ _ _ _ _ hn7
  have B7 : Below w.heap.size w W7 := (B5.out.trans (b6.mono (by omega))).trans (k7.mono (by omega))
  have RB := hide A7
  have RG := hide C7
  have RF := hide D7
  have BT := hide B7
  have TT := hide (HT.out.below B7 h2)
  have HN7 := hide hn7
  have HW7 := hide hW7
  have HF := hide hF
  clear b6 k7 hn7 hW7 hF A7 C7 D7 B7
  go_wp2_with (refine wpList_store_rowW rfl 24 _ _ rfl F M.toArray (by show Value.pointer _ = _; rw [HF.out]) rfl 24 z32 HN7.out Q2.out Q3.out HM1.out W7 HW7.out ?_; (rw [← HF.out]))
  have rc : Hid (∀ {W : World} {g : Nat}, Row W g 24 C → arrOf W g = C.toArray ∧ isArr W g = true) := fun h => ⟨arrOf_row h, isArr_row h hCl⟩
  have rm : Hid (∀ {W : World} {g : Nat}, Row W g 24 M → arrOf W g = M.toArray ∧ isArr W g = true) := fun h => ⟨arrOf_row h, isArr_row h hMl⟩
  obtain ⟨a1, i1⟩ := rc.out (W := W7) RB.out
  obtain ⟨a2, i2⟩ := rm.out (W := W7) RG.out
  obtain ⟨a3, i3⟩ := rm.out (W := W7) RF.out
  clear hz hCl hC1 hMl hM2
  go_region_with (first
    | (go_at_call 19; refine (HHEX.out _).mono ?_; rintro e w8 ⟨rfl, bq⟩; have RB := hide (row_below bq RB.out); have RG := hide (row_below bq RG.out); have RF := hide (row_below bq RF.out); have TT := hide ((TT.out.keep (w' := W7.drew) rfl rfl).below bq (by have := (TT.out).size; exact this)); have BT := hide (BT.out.trans ((below_of_drewN (n := 1) bq).mono BT.out.size)); obtain ⟨a1, i1⟩ := rc.out RB.out; obtain ⟨a2, i2⟩ := rm.out RG.out; obtain ⟨a3, i3⟩ := rm.out RF.out; clear bq)
    | (go_at_call 20; refine (HRHEX.out _).mono ?_; rintro e w9 ⟨rfl, bq⟩; have RB := hide (row_below bq RB.out); have RG := hide (row_below bq RG.out); have RF := hide (row_below bq RF.out); have TT := hide (TT.out.below bq (by have := (TT.out).size; exact this)); have BT := hide (BT.out.trans (bq.mono BT.out.size)); obtain ⟨a1, i1⟩ := rc.out RB.out; obtain ⟨a2, i2⟩ := rm.out RG.out; obtain ⟨a3, i3⟩ := rm.out RF.out; clear bq)
    | (go_at_call 12; refine (works_at _ TT.out).mono ?_; rintro e w10 ⟨rfl, bq⟩; have BT := hide (BT.out.trans (bq.mono BT.out.size)); clear bq))
  all_goals
    go_wp2_with fail
    go_ret
    exact ⟨rfl, BT.out⟩
end Go.Proofs.YtaibdmmacncejaaDoor
