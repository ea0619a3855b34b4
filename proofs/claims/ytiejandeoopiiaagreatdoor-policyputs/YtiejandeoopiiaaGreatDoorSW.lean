/-
  The reference's Which; conditions as each theorem has them.
-/
import Derived.Test.YtiejandeoopiiaaGreatDoorSC
import Derived.Test.YtiejandeoopiiaaGreatDoorWK
import Derived.Deep.DrawnRows
set_option linter.unusedSimpArgs false
set_option linter.unusedVariables false
namespace Go.Proofs.YtiejandeoopiiaaGreatDoor
open Go.RowKit
theorem strN_empty (l : List Nat) : (strN l).toList.isEmpty = decide (l = []) := by
  rw [isEmpty_byt]
  apply decide_eq_decide.2
  rw [byt_nil, strN_size]
  exact List.length_eq_zero_iff
theorem det_nil (a : Ad) (n : List Nat) (p : Int) : decide (det a n p = []) = !okD a n p := by
  unfold okD
  by_cases h : chk a n = true ∧ 1 ≤ p ∧ p ≤ 65535
  · have : det a n p ≠ [] := by unfold det; rw [if_pos h]; simp
    rw [decide_eq_false this]
    simp [h.1, h.2.1, h.2.2]
  · have : det a n p = [] := by unfold det; rw [if_neg h]
    rw [decide_eq_true this]
    by_cases h1 : chk a n = true
    · by_cases h2 : 1 ≤ p
      · by_cases h3 : p ≤ 65535
        · exact absurd ⟨h1, h2, h3⟩ h
        · simp [h3]
      · simp [h2]
    · simp [h1]
/-- A load of a rule wherever it lies, as one step. -/
def ldOk (P : Program) (v : Value) (w : World) : Bool := match (Instr.loadAt 37 v).run P w with
  | .ok _ _ => true
  | _ => false
def ldV (P : Program) (v : Value) (w : World) : Value := match (Instr.loadAt 37 v).run P w with
  | .ok x _ => x
  | _ => undef
def ldW (P : Program) (v : Value) (w : World) : World := match (Instr.loadAt 37 v).run P w with
  | .ok _ y => y
  | _ => w
theorem ld_of {v v' : Value} {w w' : World} (h : (Instr.loadAt 37 v).run Tryz.prog w = .ok v' w') : ldOk Tryz.prog v w = true ∧ ldV Tryz.prog v w = v' ∧ ldW Tryz.prog v w = w' := by
  unfold ldOk ldV ldW
  rw [h]
  exact ⟨rfl, rfl, rfl⟩
theorem run_opld (ρ : Operand → Value) (dst : Option Tmp) (x : Operand) (ty : TypeId) (pos : String) (after : Array Edge) (guard : Option (Nat × Bool)) (w : World) (h : ldOk Tryz.prog (ρ x) w = true) :
    (execOp ρ { dst, op := .load 37 x, type := ty, pos, after, guard }).run Tryz.prog w = .ok (.value (ldV Tryz.prog (ρ x) w)) (ldW Tryz.prog (ρ x) w) := by
  have e : (Instr.loadAt 37 (ρ x)).run Tryz.prog w = .ok (ldV Tryz.prog (ρ x) w) (ldW Tryz.prog (ρ x) w) := by
    unfold ldOk at h
    unfold ldV ldW
    cases e : (Instr.loadAt 37 (ρ x)).run Tryz.prog w with
    | ok x y => rfl
    | _ => simp [e] at h
  unfold execOp
  simp only [Sem.run_bind, Sem.run_pure, e, Result.andThen_ok]
theorem ld_mid {w : World} {b o : Nat} {r : Ru} (h : w.rangeAt b o (ruC r)) : ldOk Tryz.prog (.pointer (some ⟨b, o, none⟩)) w = true ∧ ldV Tryz.prog (.pointer (some ⟨b, o, none⟩)) w = .agg (ruC r).toArray ∧ ldW Tryz.prog (.pointer (some ⟨b, o, none⟩)) w = w :=
  ld_of (run_loadAt_mid w b o 37 (ruC r) _ h Tryz.underlying37 rfl infoRu)
attribute [local go_sem ↓] run_opld Go.wp_at_zero Go.wp_at_succ
set_option maxRecDepth 100000 in
set_option maxHeartbeats 2000000 in
theorem rWhich_at (a : Option Addr) (n c : Nat) (l : List Ru) (d : Ad) (nm : ByteArray) (p : Int) (w : World) (h : SrcR w a n c l) (hd : d.ok) (hnm : nm.size ≤ maxLen) : Calls Tryz.prog 10 #[.slice a n c, deV d nm p] w fun e w' => e = .returned (.int .i64 (which l d (byt nm) p)) ∧ Below w.heap.size w w' := by
  obtain ⟨R, hR⟩ : ∃ R, R = which l d (byt nm) p := ⟨_, rfl⟩
  rw [← hR]
  unfold which at hR
  have HR := hide hR
  have HCL := hide (fun W hs => rCheck_at a n c l W hs)
  have HPD := hide (fun W => rprintDest_at d nm p W hd hnm)
  have HFT := hide (fun r W hr hg => rfits_at r d nm p W hr hg hd hnm)
  have HC0 : Hid (chkL l = 0 → n ≤ 64 ∧ ∀ k, k < n → (l.getD k noRu).right = true) := fun e => by
    rw [chkL, h.hlen] at e
    by_cases h64 : 64 < n
    · rw [if_pos h64] at e; cases e
    · rw [if_neg h64] at e
      by_cases hall : l.all Ru.right = true
      · exact ⟨by omega, fun k hk => List.all_eq_true.1 hall _ (getD_mem (by rw [h.hlen]; exact hk))⟩
      · rw [if_neg hall] at e; cases e
  obtain ⟨C, hC⟩ : ∃ C, C = chkL l := ⟨_, rfl⟩
  rw [← hC] at HCL HR HC0
  have hT := strN_empty (det d (byt nm) p)
  rw [det_nil] at hT
  obtain ⟨TX, hTX⟩ : ∃ TX, TX = strN (det d (byt nm) p) := ⟨_, rfl⟩
  obtain ⟨K, hK⟩ : ∃ K, K = okD d (byt nm) p := ⟨_, rfl⟩
  rw [← hTX] at hT HPD
  rw [← hK] at hT HR
  obtain ⟨f, hf⟩ : ∃ f, f = fit d (byt nm) p := ⟨_, rfl⟩
  have HFF : Hid (∀ r, fit d (byt nm) p r = f r) := fun r => by rw [hf]
  rw [← hf] at HR
  obtain ⟨d0, d1, d2, d3⟩ := d
  simp only [deV] at HPD HFT ⊢
  obtain ⟨w0, hw0⟩ : ∃ w0, w0 = w.alloc (.cells #[.int .u8 (d0 : Nat), .int .u8 (d1 : Nat), .int .u8 (d2 : Nat), .int .u8 (d3 : Nat), .string nm, .int .i64 p] 28) := ⟨_, rfl⟩
  have B0 : Hid (Below w.heap.size w w0) := by rw [hw0]; exact (Below.refl _ _).alloc (Nat.le_refl _) _
  have r0 : Hid (w0.heap[w.heap.size]? = some (.cells #[.int .u8 (d0 : Nat), .int .u8 (d1 : Nat), .int .u8 (d2 : Nat), .int .u8 (d3 : Nat), .string nm, .int .i64 p] 28)) := by rw [hw0]; exact alloc_new _ _
  have HW0 := hide hw0
  have H := hide h
  have hc := h.hcap
  have hm := h.hmax
  unfold maxLen at hm
  clear hw0 hTX hK hC hR hf h hd hnm
  go_enter Tryz.func10, Tryz.ntmps10
  go_wp2_with fail
  rw [← HW0.out]
  refine (HCL.out _ (H.out.below B0.out)).mono ?_
  rintro e w1 ⟨rfl, hb1⟩
  have R1 := hide (keepB hb1 r0.out)
  have B1 := hide (B0.out.trans (hb1.mono B0.out.size))
  clear hb1
  by_cases hc0 : C = 0
  · obtain ⟨hn, hrt⟩ := HC0.out hc0
    have HRT := hide hrt
    subst hc0
    clear hrt
    go_wp2_with (first | (refine wpList_load_rowG (by rfl) 28 _ rfl w.heap.size rfl 28 _ (0, 0) _ R1.out Tryz.underlying28 rfl infoDe ?_))
    refine (HPD.out _).mono ?_
    rintro e w2 ⟨rfl, hb2⟩
    have R2 := hide (keepB hb2 R1.out)
    have B2 := hide (B1.out.trans (hb2.mono B1.out.size))
    clear hb2
    cases K
    · have HX : Hid (R = -1) := by show _ = _; rw [HR.out]; simp
      simp only [Bool.not_false] at hT
      go_wp2_with fail
      go_ret
      rw [HX.out]
      exact ⟨rfl, B2.out⟩
    · have HX : Hid (R = first f 0 l) := by show _ = _; rw [HR.out]; simp
      simp only [Bool.not_true] at hT
      go_wp2_with fail
      go_loopw [5] (fun i wr => ∃ k : Nat, k ≤ n ∧ i = .int .i64 k ∧ Hid ((Below w.heap.size w wr ∧ wr.heap[w.heap.size]? = some (.cells #[.int .u8 (d0 : Nat), .int .u8 (d1 : Nat), .int .u8 (d2 : Nat), .int .u8 (d3 : Nat), .string nm, .int .i64 p] 28)) ∧ first f 0 l = first f k (l.drop k))) (fun i _ => n - (intOf i).toNat)
      case atStart => exact ⟨0, by omega, rfl, ⟨B2.out, R2.out⟩, rfl⟩
      case round =>
        obtain ⟨k, hk, rfl, HJ⟩ := hrel
        by_cases hkn : k < n
        · have hd : decide ((k : Int) < (n : Int)) = true := decide_eq_true (by omega)
          have hd' : decide (k < n) = true := decide_eq_true hkn
          have s1 := H.out.below HJ.out.1.1
          obtain ⟨xb, xo, rfl, hxb, hrg⟩ := s1.at_ hkn
          have hok := okRs_getD s1.ok k
          have HRG := hide hrg
          obtain ⟨r, hr⟩ : ∃ r, r = l.getD k noRu := ⟨_, rfl⟩
          have hrr := HRT.out k hkn
          rw [← hr] at HRG hok hrr
          have HST : Hid (first f 0 l = if f r = true then (k : Int) else first f (k + 1) (l.drop (k + 1))) := by
            show _ = _
            rw [HJ.out.2, drop_getD (d := noRu) (by rw [H.out.hlen]; exact hkn), ← hr]
            rfl
          have HC := hide (fun W => HFT.out r W hok hrr)
          rw [HFF.out r] at HC
          obtain ⟨Fr, hFr⟩ : ∃ Fr, Fr = f r := ⟨_, rfl⟩
          rw [← hFr] at HC HST
          have RW1 := hide HJ.out.1.2
          clear hr hok s1 hrg hrr hFr
          obtain ⟨l1, l2, l3⟩ := ld_mid HRG.out
          obtain ⟨m1, m2, m3⟩ := ld_mid ((World.rangeAt_drew _ _ _ _).2 HRG.out)
          have s9 := RW1.out
          have e0 : wr.cell? ⟨w.heap.size, 0, none⟩ = some (.int .u8 (d0 : Nat)) := by simp [World.cell?, s9]
          have e1 : wr.cell? ⟨w.heap.size, 1, none⟩ = some (.int .u8 (d1 : Nat)) := by simp [World.cell?, s9]
          have e2 : wr.cell? ⟨w.heap.size, 2, none⟩ = some (.int .u8 (d2 : Nat)) := by simp [World.cell?, s9]
          have e3 : wr.cell? ⟨w.heap.size, 3, none⟩ = some (.int .u8 (d3 : Nat)) := by simp [World.cell?, s9]
          have e4 : wr.cell? ⟨w.heap.size, 4, none⟩ = some (.string nm) := by simp [World.cell?, s9]
          have e5 : wr.cell? ⟨w.heap.size, 5, none⟩ = some (.int .i64 p) := by simp [World.cell?, s9]
          clear s9
          go_wp2_with fail
          go_region_with (first
            | (go_at_call 27; refine (HC.out _).mono ?_; rintro e w3 ⟨rfl, hk0⟩; have hb3 : Below wr.heap.size wr w3 := ⟨hk0.os, hk0.tape, hk0.output, hk0.size, hk0.block⟩; have B3 := hide (HJ.out.1.1.trans (hb3.mono HJ.out.1.1.size)); have R3 := hide (keepB hb3 HJ.out.1.2); clear hk0 hb3))
          all_goals (
            cases Fr
            · go_wp2_with fail
              go_roundw
              case rel => exact ⟨k + 1, by omega, by go_num, ⟨B3.out, R3.out⟩, by rw [HST.out]; rfl⟩
              case measure => simp [intOf]; omega
            · have HZ : Hid (R = (k : Int)) := by show _ = _; rw [HX.out, HST.out]; rfl
              go_wp2_with fail
              go_ret
              rw [HZ.out]
              exact ⟨rfl, B3.out⟩)
        · have hd : decide ((k : Int) < (n : Int)) = false := decide_eq_false (by omega)
          have hd' : decide (k < n) = false := decide_eq_false hkn
          have HZ : Hid (R = -1) := by
            show _ = _
            rw [HX.out, HJ.out.2, List.drop_of_length_le (by rw [H.out.hlen]; omega)]
            rfl
          go_wp2_with fail
          go_ret
          rw [HZ.out]
          exact ⟨rfl, HJ.out.1.1⟩
  · have HX : Hid (R = -1) := by show _ = _; rw [HR.out, if_neg (fun h => hc0 h.1)]
    have hq : ((C : Int) == 0) = false := by simp; omega
    have hq2 : ((C : Int) != 0) = true := by simp; omega
    clear hc0
    go_wp2_with fail
    go_ret
    rw [HX.out]
    exact ⟨rfl, B1.out⟩

end Go.Proofs.YtiejandeoopiiaaGreatDoor
