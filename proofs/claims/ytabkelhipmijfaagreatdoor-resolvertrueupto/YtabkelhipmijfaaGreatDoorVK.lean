/-
  Put of package names; conditions as each theorem has them.
-/
import Derived.Test.YtabkelhipmijfaaGreatDoorJoined9
import Derived.Deep.DrawnRows
set_option linter.unusedSimpArgs false
set_option linter.unusedVariables false
namespace Go.Proofs.YtabkelhipmijfaaGreatDoor.Nm
open Go.RowKit
/-- A slot's place and what goes there, as one step of a drawn region. -/
def stOk (P : Program) (p v : Value) (w : World) : Bool := match (Instr.storeAt 125 p v).run P w with
  | .ok _ _ => true
  | _ => false
def stW (P : Program) (p v : Value) (w : World) : World := match (Instr.storeAt 125 p v).run P w with
  | .ok _ y => y
  | _ => w
theorem st_of {p v : Value} {w w' : World} (h : (Instr.storeAt 125 p v).run Tryz.prog w = .ok () w') : stOk Tryz.prog p v w = true ∧ stW Tryz.prog p v w = w' := by
  unfold stOk stW
  rw [h]
  exact ⟨rfl, rfl⟩
theorem run_opst64 (ρ : Operand → Value) (dst : Option Tmp) (x y : Operand) (ty : TypeId) (pos : String) (after : Array Edge) (guard : Option (Nat × Bool)) (w : World) (h : stOk Tryz.prog (ρ x) (ρ y) w = true) :
    (execOp ρ { dst, op := .store 125 x y, type := ty, pos, after, guard }).run Tryz.prog w = .ok .skip (stW Tryz.prog (ρ x) (ρ y) w) := by
  unfold stOk at h
  unfold stW
  unfold execOp
  cases e : (Instr.storeAt 125 (ρ x) (ρ y)).run Tryz.prog w with
  | ok u y => simp [Sem.run_bind, e]
  | _ => simp [e] at h
attribute [local go_sem ↓] run_opst64 Go.wp_at_zero Go.wp_at_succ
theorem least_box {r g N : Nat} {L : List Sl} {w : World} (h : IsTab w r g L) (hN : N = L.length) (hp : 0 < N) (now : Int) (name : ByteArray) :
    Calls Tryz.prog 94 #[.slice (some ⟨g, 0, none⟩) N N, .func (.func 115) #[] #[.pointer (some ⟨w.heap.size + 1, 0, none⟩), .pointer (some ⟨w.heap.size, 0, none⟩)]] (((w.alloc (boxI now)).alloc (boxS name)).drew) fun e w' => e = .returned (.pointer (some ⟨g, place L now name * 67, none⟩)) ∧ Below w.heap.size w w' := by
  have := least_at g (w.heap.size + 1) w.heap.size N L now name (((w.alloc (boxI now)).alloc (boxS name)).drew) hN.symm hp ((h.alloc _).alloc _).row h.ok (by rw [hN]; exact h.max) (box_cell (alloc_new2 w _ _)) (box_cell (alloc_old _ (alloc_new w _)))
  refine this.mono ?_
  rintro e w' ⟨rfl, k⟩
  exact ⟨rfl, ((((Below.refl _ _).alloc (Nat.le_refl _) _).alloc (by simp) _).drew).trans (k.mono (by simp; omega))⟩
set_option maxRecDepth 100000 in
set_option maxHeartbeats 4000000 in
theorem put_at (r g : Nat) (L : List Sl) (now : Int) (name : ByteArray) (a : Option Addr) (n c : Nat) (ads : List Ad) (ttl : Int) (w : World) (h : IsTab w r g L) (hs : SrcA w a n c ads) :
    Calls Tryz.prog 71 #[.pointer (some ⟨r, 0, none⟩), .int .i64 now, .string name, .slice a n c, .int .i64 ttl] w fun e w' => e = .returned (.int .i64 (code L now name n ttl)) ∧ IsTab w' r g (put L now name ads ttl) ∧ Kept g g w w' := by
  obtain ⟨c0, c1⟩ := h.cells
  obtain ⟨hlr, hlg⟩ := h.lt
  have HI := hide (isNow_at now w)
  have HM := hide (isMade_at r true _ c0)
  have hcap := hs.hcap
  have hmax := hs.hmax
  unfold maxLen at hmax
  have HK := hide (mayBeKept_at name a n c ttl w)
  obtain ⟨N, hN⟩ : ∃ N, N = L.length := ⟨_, rfl⟩
  rw [← hN] at c1
  have H := hide h
  have hlen := hs.hlen
  by_cases hb : badNow now
  · rw [show code L now name n ttl = 2 by unfold code; rw [if_pos (Or.inl hb)], show put L now name ads ttl = L by unfold put; rw [if_pos (Or.inl hb)]]
    rw [show decide (¬ badNow now) = false by simp [hb]] at HI
    clear h hb c0 c1 hN HK hs hlen
    go_enter Tryz.func71, Tryz.ntmps71
    go_wp2_with fail
    refine HM.out.mono ?_
    rintro e w1 ⟨rfl, rfl⟩
    go_wp2_with fail
    refine HI.out.mono ?_
    rintro e w1 ⟨rfl, rfl⟩
    go_wp2_with fail
    go_ret
    exact ⟨rfl, H.out, Kept.refl _ _ _⟩
  rw [show decide (¬ badNow now) = true by simp [hb]] at HI
  by_cases hp : badPut name n ttl
  · rw [show code L now name n ttl = 2 by unfold code; rw [if_pos (Or.inr hp)], show put L now name ads ttl = L by unfold put; rw [if_pos (Or.inr (by rw [hlen]; exact hp))]]
    rw [show decide (¬ badPut name n ttl) = false by simp [hp]] at HK
    clear h hb c0 c1 hN hs hlen hp
    go_enter Tryz.func71, Tryz.ntmps71
    go_wp2_with fail
    refine HM.out.mono ?_
    rintro e w1 ⟨rfl, rfl⟩
    go_wp2_with fail
    refine HI.out.mono ?_
    rintro e w1 ⟨rfl, rfl⟩
    go_wp2_with fail
    refine HK.out.mono ?_
    rintro e w1 ⟨rfl, rfl⟩
    go_wp2_with fail
    go_ret
    exact ⟨rfl, H.out, Kept.refl _ _ _⟩
  rw [show decide (¬ badPut name n ttl) = true by simp [hp]] at HK
  have hnb : ¬ (badNow now ∨ badPut name n ttl) := fun e => e.elim hb hp
  by_cases hN0 : N = 0
  · rw [show code L now name n ttl = 4 by unfold code; rw [if_neg hnb, if_pos (by omega)]]
    have hL : L = [] := List.length_eq_zero_iff.1 (by omega)
    have HP : Hid (put L now name ads ttl = L) := by show _ = _; rw [hL]; unfold put; split; rfl; split <;> rfl
    have hd : (((N : Nat) : Int) == 0) = true := by simp [hN0]
    clear h hb c0 hN hs hlen hp hN0 hL hnb
    go_enter Tryz.func71, Tryz.ntmps71
    go_wp2_with fail
    refine HM.out.mono ?_
    rintro e w1 ⟨rfl, rfl⟩
    go_wp2_with fail
    refine HI.out.mono ?_
    rintro e w1 ⟨rfl, rfl⟩
    go_wp2_with fail
    refine HK.out.mono ?_
    rintro e w1 ⟨rfl, rfl⟩
    go_wp2_with fail
    go_ret
    exact ⟨rfl, by rw [HP.out]; exact H.out, Kept.refl _ _ _⟩
  rw [show code L now name n ttl = 0 by unfold code; rw [if_neg hnb, if_neg (by omega)]]
  have hd : (((N : Nat) : Int) == 0) = false := by simp; omega
  by_cases ht : ttl = 0
  · have HP : Hid (put L now name ads ttl = L.set (fidx name L) zeroS) := by show _ = _; unfold put; rw [hlen, if_neg hnb, if_pos ht]
    have HD := hide (drop_at r g L name w h)
    have hd2 : (ttl == 0) = true := by simp [ht]
    clear h hb c0 hN hs hlen hp hN0 hnb ht
    go_enter Tryz.func71, Tryz.ntmps71
    go_wp2_with fail
    refine HM.out.mono ?_
    rintro e w1 ⟨rfl, rfl⟩
    go_wp2_with fail
    refine HI.out.mono ?_
    rintro e w1 ⟨rfl, rfl⟩
    go_wp2_with fail
    refine HK.out.mono ?_
    rintro e w1 ⟨rfl, rfl⟩
    go_wp2_with fail
    refine HD.out.mono ?_
    rintro e w2 ⟨rfl, h2, k2⟩
    have H2 := hide h2
    have K2 := hide k2
    clear h2 k2
    go_wp2_with fail
    go_ret
    exact ⟨rfl, by rw [HP.out]; exact H2.out, K2.out⟩
  · have HP : Hid (put L now name ads ttl = L.set (place L now name) ⟨name, now + ttl, ads⟩) := by show _ = _; unfold put; rw [hlen, if_neg hnb, if_neg ht]
    have hd2 : (ttl == 0) = false := by simp [ht]
    have HB := hide (least_box h hN (by omega) now name)
    have hP := place_lt (L := L) now name (by omega)
    obtain ⟨P, hPP⟩ : ∃ P, P = place L now name := ⟨_, rfl⟩
    rw [← hPP] at HB HP hP
    have HPL := hide hP
    unfold badNow at hb
    unfold badPut at hp
    have hw : IntKind.i64.wrap (now + ttl) = now + ttl := wrap_int _ (by omega) (by omega)
    have HX : Hid ((⟨name, now + ttl, ads⟩ : Sl).Ok) := ⟨by show 0 ≤ now + ttl; omega, by show now + ttl ≤ _; omega, by show ads.length ≤ 16; omega, hs.byte, by show name.size ≤ 253; omega, fun e => absurd e (by show ¬ name.size = 0; omega)⟩
    obtain ⟨X, hX⟩ : ∃ X, X = (slC ⟨name, now + ttl, ads⟩).toArray := ⟨_, rfl⟩
    obtain ⟨FL, hFL⟩ : ∃ FL, FL = (flat (L.set P ⟨name, now + ttl, ads⟩)).toArray := ⟨_, rfl⟩
    have HFl : Hid (∀ w1 : World, Below w.heap.size w w1 → Calls Tryz.prog 93 #[.string name, .slice a n c, .int .i64 (IntKind.i64.wrap (now + ttl))] w1 fun e w' => e = .returned (.agg X) ∧ Below w.heap.size w w' ∧ stOk Tryz.prog (.pointer (some ⟨g, P * 67, none⟩)) (.agg X) w' = true ∧ stW Tryz.prog (.pointer (some ⟨g, P * 67, none⟩)) (.agg X) w' = w'.setRow g FL) := fun w1 k => by
      rw [hw]
      refine (filled_at name a n c ads (now + ttl) w1 (hs.below k) (by omega) (by omega)).mono ?_
      rintro e w' ⟨rfl, k2⟩
      have k3 := k.trans (k2.mono k.size)
      have hst : (Instr.storeAt 125 (.pointer (some ⟨g, P * 67, none⟩)) (.agg X)).run Tryz.prog w' = .ok () (w'.setRow g FL) := by
        rw [hX, hFL]
        simp only [Instr.storeAt, Instr.sureAddr, Sem.run_bind, Sem.run_pure, Result.andThen_ok, run_storeVar_slot (h.row.below k3) h.ok hP HX.out]
      exact ⟨by rw [hX], k3, st_of hst⟩
    have HXX := hide hX
    have HFL := hide hFL
    have hT1 : 0 ≤ now + ttl := by omega
    have hT2 : now + ttl ≤ 1099512676352 := by omega
    have hn0 : 0 ≤ now ∧ now ≤ 1099511627776 := by omega
    have ht0 : 0 ≤ ttl ∧ ttl ≤ 1048576 := by omega
    clear h hb c0 hN hs hlen hp hN0 hnb ht hP hPP hX hw hFL
    go_enter Tryz.func71, Tryz.ntmps71
    go_wp2_with fail
    refine HM.out.mono ?_
    rintro e w1 ⟨rfl, rfl⟩
    go_wp2_with fail
    refine HI.out.mono ?_
    rintro e w1 ⟨rfl, rfl⟩
    go_wp2_with fail
    refine HK.out.mono ?_
    rintro e w1 ⟨rfl, rfl⟩
    go_wp2_with fail
    go_region_with (first
      | (go_at_call 95; refine (placeOf_at now name _).mono ?_; rintro e w1 ⟨rfl, rfl⟩)
      | (go_at_call 94; refine HB.out.mono ?_; rintro e w2 ⟨rfl, k2⟩; have K2 := hide k2; clear k2)
      | (go_at_call 93; refine (HFl.out _ (by first | exact K2.out | exact below_drewN K2.out _)).mono ?_; rintro e w3 ⟨rfl, k3, hst1, hst2⟩; have K3 := hide k3; clear k3))
    all_goals
      go_wp2_with fail
      go_ret
      rw [HP.out]
      exact ⟨rfl, (H.out.belowS K3.out).put P HX.out (setRow_other _ _ _ _ H.out.ne) (by show _ = _; rw [← HFL.out]; exact Go.setRow_heap _ _ _ _ 125 (0, 0) (H.out.row.below K3.out)), Kept.row K3.out _⟩
end Go.Proofs.YtabkelhipmijfaaGreatDoor.Nm
