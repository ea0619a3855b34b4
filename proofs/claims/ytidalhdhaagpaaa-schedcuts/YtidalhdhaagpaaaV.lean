/-
  tellsTrue and Work of package sched with a step that counts; conditions as each theorem has them.
-/
import Derived.Test.YtidalhdhaagpaaaP
import Derived.Defers
import Derived.Recover
set_option linter.unusedSimpArgs false
set_option linter.unusedVariables false
namespace Go.Proofs.Ytidalhdhaagpaaa
open Go.RowKit

set_option maxHeartbeats 400000 in
theorem step_go (c l pc pl : Nat) (w : World) (hc : w.heap[pc]? = some (boxI c)) (hl : w.heap[pl]? = some (boxI (l + 1 : Nat))) (hne : pc ≠ pl) (hcm : c ≤ 10000) (hlm : l ≤ 10000) :
    Calls Try.prog 24 #[.pointer (some ⟨pc, 0, none⟩), .pointer (some ⟨pl, 0, none⟩)] w fun e w' => e = .returned (.bool true) ∧ w' = (w.setCell ⟨pc, 0, none⟩ (.int .i64 (c + 1 : Nat))).setCell ⟨pl, 0, none⟩ (.int .i64 l) := by
  have c0 := boxI_cell hc
  have c1 := boxI_cell hl
  have f0 := cells_frozen hc 0
  have f1 := cells_frozen hl 0
  have hne' : ¬ pl = pc := fun e => hne e.symm
  clear hc hl
  have e1 : ((l + 1 : Nat) : Int) - 1 = (l : Int) := by omega
  have e2 : (((l + 1 : Nat) : Int) == 0) = false := by simp; omega
  go_enter Try.func24, Try.ntmps24
  go_wp2
  go_ret
  exact ⟨rfl, rfl⟩

set_option maxHeartbeats 400000 in
theorem step_stop (c pc pl : Nat) (w : World) (hc : w.heap[pc]? = some (boxI c)) (hl : w.heap[pl]? = some (boxI 0)) (hne : pc ≠ pl) (hcm : c ≤ 10000) :
    Calls Try.prog 24 #[.pointer (some ⟨pc, 0, none⟩), .pointer (some ⟨pl, 0, none⟩)] w fun e w' => e = .returned (.bool false) ∧ w' = w.setCell ⟨pc, 0, none⟩ (.int .i64 (c + 1 : Nat)) := by
  have c0 := boxI_cell hc
  have c1 := boxI_cell hl
  have f0 := cells_frozen hc 0
  have f1 := cells_frozen hl 0
  have hne' : ¬ pl = pc := fun e => hne e.symm
  clear hc hl
  go_enter Try.func24, Try.ntmps24
  go_wp2
  go_ret
  exact ⟨rfl, rfl⟩

/-- The deferred function, where nothing panics. -/
theorem catch_idle (p : Addr) (w : World) :
    CallsD Try.prog 41 #[.pointer (some p)] .returning w fun e u' w' => e = .returned (.tuple #[]) ∧ u' = .returning ∧ w' = w := by
  refine callsD_of_wpS Try.func41 rfl fun c₀ cs hu => ?_
  apply wpS_seq
  apply wpS_region
  simp [wpOpsS, go_sem, recoverD, hu, Try.ntmps41, Exit.thenS]
  refine wpS_cond (t := false) (by simp [Act.eval, Array.replicate]) ?_
  simp only [Bool.false_eq_true, if_false]
  refine wpS_of_wp (wp_skip ?_)
  cases c₀
  simp_all [bodyPostS, results, Try.results41]

set_option maxHeartbeats 1000000 in
theorem tells_at (fv : Nat) (cs : Array Value) (bl : Bool) (w : World) (Q : World → Prop) (hf : ∀ (args : Array Value) (w : World), (callFunc fv args).run Try.prog w = .ok (.enter fv args) w)
    (h : Calls Try.prog fv cs (w.alloc (.cells #[.bool false] 4)) fun e w' => e = .returned (.bool bl) ∧ w'.heap[w.heap.size]? = some (.cells #[.bool false] 4) ∧ Q (w'.setCell ⟨w.heap.size, 0, none⟩ (.bool bl))) :
    Calls Try.prog 36 #[.func (.func fv) #[] cs] w fun e w' => e = .returned (.bool bl) ∧ Q w' := by
  have hmf : ∀ (fn : Fn) (first cap : Array Value) (w : World), (Instr.makeFunc fn first cap).run Try.prog w = .ok (.func fn first cap) w := fun _ _ _ _ => rfl
  have HC := hide h
  clear h
  go_enter_defers Try.func36, Try.ntmps36
  go_wp2_with fail
  refine HC.out.mono ?_
  rintro e w2 ⟨rfl, hbx, hq⟩
  have c0 : w2.cell? ⟨w.heap.size, 0, none⟩ = some (.bool false) := by simp [World.cell?, hbx]
  have f0 := cells_frozen hbx 0
  have HQ := hide hq
  have HX := hide hbx
  clear hq hbx HC
  go_wp2_with fail
  refine leaves_cons (f := 41) (args := #[.pointer (some ⟨w.heap.size, 0, none⟩)]) (by simp) (by simp [go_sem]) ?_
  refine (catch_idle ⟨w.heap.size, 0, none⟩ _).mono ?_
  rintro e u' w'' ⟨rfl, rfl, rfl⟩
  simp [Leaves, settle, results, Try.results36, go_sem, c0, f0]
  exact HQ.out

theorem enters24 : ∀ (args : Array Value) (w : World), (callFunc 24 args).run Try.prog w = .ok (.enter 24 args) w := Go.Proofs.enters_of Try.func24 (by kernel_rfl) rfl

theorem eql_nil1 (w : World) (fn : Fn) (a c : Array Value) : (binOp .eql 34 (.func fn a c) .nilFunc).run Try.prog w = .ok (.bool false) w := by
  first
  | kernel_rfl
  | (simp [binOp, go_sem, run_underlying Try.underlying34]; done)
theorem eql_nil2 (w : World) : (binOp .eql 34 .nilFunc .nilFunc).run Try.prog w = .ok (.bool true) w := by
  first
  | kernel_rfl
  | (simp [binOp, go_sem, run_underlying Try.underlying34]; done)

set_option maxHeartbeats 1000000 in
theorem work_nil (B : Int) (w : World) : Calls Try.prog 25 #[.int .i64 B, .nilFunc] w fun e w' => e = .returned (.int .i64 0) ∧ w = w' := by
  have q := eql_nil2
  go_enter Try.func25, Try.ntmps25
  go_wp2
  go_ret
  exact ⟨rfl, rfl⟩

structure WorkI (pc pl wk d : Nat) (X : Nat) (w wr : World) : Prop where
  bc : wr.heap[pc]? = some (boxI (d : Nat))
  bl : wr.heap[pl]? = some (boxI (wk - d : Nat))
  bel : Below X w wr

set_option maxHeartbeats 1000000 in
theorem tells_go (pc pl wk d X : Nat) (w wr : World) (h : WorkI pc pl wk d X w wr) (hne : pc ≠ pl) (hX1 : X ≤ pc) (hX2 : X ≤ pl) (hwk : wk ≤ 4000) (hd : d < wk) :
    Calls Try.prog 36 #[.func (.func 24) #[] #[.pointer (some ⟨pc, 0, none⟩), .pointer (some ⟨pl, 0, none⟩)]] wr fun e w' => e = .returned (.bool true) ∧ WorkI pc pl wk (d + 1) X w w' := by
  have hpc := lt_of_some h.bc
  have hpl := lt_of_some h.bl
  have hbl := h.bl
  rw [show wk - d = (wk - d - 1) + 1 by omega] at hbl
  refine tells_at 24 _ true wr _ enters24 ?_
  refine (step_go d (wk - d - 1) pc pl _ (alloc_old _ h.bc) (alloc_old _ hbl) hne (by omega) (by omega)).mono ?_
  rintro e w2 ⟨rfl, rfl⟩
  refine ⟨rfl, set_other (set_other (alloc_new _ _) (by omega) _ _) (by omega) _ _, set_other (set_other (boxI_set (alloc_old _ h.bc) _) hne _ _) (by omega) _ _, ?_, ?_⟩
  · refine set_other ?_ (by omega) _ _
    rw [show wk - (d + 1) = wk - d - 1 by omega]
    exact boxI_set (set_other (alloc_old _ hbl) (Ne.symm hne) _ _) _
  · exact below_set (below_set (below_set (h.bel.alloc (by omega) _) hX1 _ _) hX2 _ _) (by omega) _ _

set_option maxHeartbeats 1000000 in
theorem tells_stop (pc pl wk X : Nat) (w wr : World) (h : WorkI pc pl wk wk X w wr) (hne : pc ≠ pl) (hX1 : X ≤ pc) (hX2 : X ≤ pl) (hwk : wk ≤ 4000) :
    Calls Try.prog 36 #[.func (.func 24) #[] #[.pointer (some ⟨pc, 0, none⟩), .pointer (some ⟨pl, 0, none⟩)]] wr fun e w' => e = .returned (.bool false) ∧ w'.heap[pc]? = some (boxI (wk + 1 : Nat)) ∧ Below X w w' := by
  have hpc := lt_of_some h.bc
  have hpl := lt_of_some h.bl
  have hbl := h.bl
  rw [Nat.sub_self] at hbl
  refine tells_at 24 _ false wr (fun w' => w'.heap[pc]? = some (boxI (wk + 1 : Nat)) ∧ Below X w w') enters24 ?_
  refine (step_stop wk pc pl _ (alloc_old _ h.bc) (alloc_old _ hbl) hne (by omega)).mono ?_
  rintro e w2 ⟨rfl, rfl⟩
  exact ⟨rfl, set_other (alloc_new _ _) (by omega) _ _, set_other (boxI_set (alloc_old _ h.bc) _) (by omega) _ _, below_set (below_set (h.bel.alloc (by omega) _) hX1 _ _) (by omega) _ _⟩

set_option maxHeartbeats 2000000 in
theorem work_at (B : Int) (wk pc pl X : Nat) (w : World) (hc : w.heap[pc]? = some (boxI 0)) (hl : w.heap[pl]? = some (boxI (wk : Nat))) (hne : pc ≠ pl) (hX1 : X ≤ pc) (hX2 : X ≤ pl) (hwk : wk ≤ 4000) (hB : B ≤ 3000) :
    Calls Try.prog 25 #[.int .i64 B, .func (.func 24) #[] #[.pointer (some ⟨pc, 0, none⟩), .pointer (some ⟨pl, 0, none⟩)]] w fun e w' =>
      ∃ r k : Nat, e = .returned (.int .i64 r) ∧ w'.heap[pc]? = some (boxI k) ∧ ((r : Int) = max 0 (min B wk) ∧ (k : Int) = max 0 (min B (wk + 1))) ∧ Below X w w' := by
  have HI : Hid (WorkI pc pl wk 0 X w w) := ⟨hc, by rw [Nat.sub_zero]; exact hl, Below.refl _ _⟩
  clear hc hl
  have q := eql_nil1
  go_enter Try.func25, Try.ntmps25
  go_wp2_with fail
  go_loopw [5] (fun i wr => ∃ d : Nat, d ≤ wk ∧ (d = 0 ∨ (d : Int) ≤ B) ∧ i = .int .i64 d ∧ Hid (WorkI pc pl wk d X w wr)) (fun i _ => wk + 1 - (intOf i).toNat)
  case atStart => exact ⟨0, Nat.zero_le _, Or.inl rfl, rfl, HI.out⟩
  case round =>
    clear HI q
    obtain ⟨d, hd, hdB, rfl, HD⟩ := hrel
    by_cases hlt : (d : Int) < B
    · have e1 : decide ((d : Int) < B) = true := decide_eq_true hlt
      by_cases hdw : d < wk
      · have HT := hide (tells_go pc pl wk d X w wr HD.out hne hX1 hX2 hwk hdw)
        clear hdB
        go_wp2_with fail
        refine HT.out.mono ?_
        rintro e w2 ⟨rfl, hi⟩
        have HI2 := hide hi
        clear hi HT
        go_wp2_with fail
        go_roundw
        case rel => exact ⟨d + 1, by omega, Or.inr (by omega), by go_num, HI2.out⟩
        case measure => simp [intOf]; omega
      · obtain rfl : d = wk := by omega
        have HT := hide (tells_stop pc pl d X w wr HD.out hne hX1 hX2 hwk)
        clear hdB hdw
        go_wp2_with fail
        refine HT.out.mono ?_
        rintro e w2 ⟨rfl, hi, hb⟩
        have HI2 := hide hi
        have HB2 := hide hb
        clear hi HT hb
        go_wp2_with fail
        go_ret
        exact ⟨d, d + 1, rfl, HI2.out, ⟨by omega, by omega⟩, HB2.out⟩
    · have e1 : decide ((d : Int) < B) = false := decide_eq_false hlt
      have HDB := hide hdB
      have HLT := hide hlt
      clear hdB hlt
      go_wp2_with fail
      go_ret
      have h1 := HDB.out
      have h2 := HLT.out
      exact ⟨d, rfl, d, HD.out.bc, ⟨by omega, by omega⟩, HD.out.bel⟩

end Go.Proofs.Ytidalhdhaagpaaa
