/-
  Put of the reference; conditions as each theorem has them.
-/
import Derived.Test.YtmolcipbopaniaaZ
set_option linter.unusedSimpArgs false
set_option linter.unusedVariables false
namespace Go.Proofs.Ytmolcipbopaniaa
open Go.RowKit
/-- An entry's place and what goes there, as one step of a drawn region. -/
def seOk (P : Program) (p v : Value) (w : World) : Bool := match (Instr.storeAt 71 p v).run P w with
  | .ok _ _ => true
  | _ => false
def seW (P : Program) (p v : Value) (w : World) : World := match (Instr.storeAt 71 p v).run P w with
  | .ok _ y => y
  | _ => w
theorem se_of {p v : Value} {w w' : World} (h : (Instr.storeAt 71 p v).run Try.prog w = .ok () w') : seOk Try.prog p v w = true ∧ seW Try.prog p v w = w' := by
  unfold seOk seW
  rw [h]
  exact ⟨rfl, rfl⟩
theorem run_opst71 (ρ : Operand → Value) (dst : Option Tmp) (x y : Operand) (ty : TypeId) (pos : String) (after : Array Edge) (guard : Option (Nat × Bool)) (w : World) (h : seOk Try.prog (ρ x) (ρ y) w = true) :
    (execOp ρ { dst, op := .store 71 x y, type := ty, pos, after, guard }).run Try.prog w = .ok .skip (seW Try.prog (ρ x) (ρ y) w) := by
  unfold seOk at h
  unfold seW
  unfold execOp
  cases e : (Instr.storeAt 71 (ρ x) (ρ y)).run Try.prog w with
  | ok u y => simp [Sem.run_bind, e]
  | _ => simp [e] at h
theorem wpList_store_ent {ops : Array Oper} {rest : List Oper} {op : Oper} {a : Act} {w w' : World} {Q : Exit → Act → World → Prop} (hgd : op.guard = none) (p v : Operand) (ho : op.op = .store 71 p v) (pv vv : Value) (hp : a.eval p = pv) (hv : a.eval v = vv)
    (hr : (Instr.storeAt 71 pv vv).run Try.prog w = .ok () w') (h : wpList Try.prog ops Q rest (a.put op.dst undef) w') : wpList Try.prog ops Q (op :: rest) a w := by
  refine wpList_plain hgd fun K hK => ?_
  unfold Oper.wp execOp
  simp only [ho, hp, hv, Sem.run_bind, hr, Result.andThen_ok]
  exact hK _ _ h
set_option maxRecDepth 100000 in
set_option maxHeartbeats 4000000 in
theorem rput_bad (x r g : Nat) (L : List Sl) (now : Int) (name : ByteArray) (a : Option Addr) (n c : Nat) (ttl : Int) (w : World) (hb : badNow now ∨ badPut name n ttl) :
    Calls Try.prog 12 #[.pointer (some ⟨r, 0, none⟩), .int .i64 now, .string name, .slice a n c, .int .i64 ttl] w fun e w' => e = .returned (.int .i64 2) ∧ w = w' := by
  have HW := hide (when_at now w)
  have key : badNow now ∨ (¬ badNow now ∧ name.size = 0) ∨ (¬ badNow now ∧ name.size ≠ 0 ∧ 253 < name.size) ∨ (¬ badNow now ∧ name.size ≠ 0 ∧ ¬ 253 < name.size ∧ 16 < n) ∨ (¬ badNow now ∧ name.size ≠ 0 ∧ ¬ 253 < name.size ∧ ¬ 16 < n ∧ ttl < 0) ∨ (¬ badNow now ∧ name.size ≠ 0 ∧ ¬ 253 < name.size ∧ ¬ 16 < n ∧ ¬ ttl < 0 ∧ 1048576 < ttl) := by
    by_cases h : badNow now
    · exact Or.inl h
    · have hp : badPut name n ttl := hb.resolve_left h
      unfold badPut at hp
      by_cases h1 : name.size = 0
      · exact Or.inr (Or.inl ⟨h, h1⟩)
      · by_cases h2 : 253 < name.size
        · exact Or.inr (Or.inr (Or.inl ⟨h, h1, h2⟩))
        · by_cases h3 : 16 < n
          · exact Or.inr (Or.inr (Or.inr (Or.inl ⟨h, h1, h2, h3⟩)))
          · by_cases h4 : ttl < 0
            · exact Or.inr (Or.inr (Or.inr (Or.inr (Or.inl ⟨h, h1, h2, h3, h4⟩))))
            · exact Or.inr (Or.inr (Or.inr (Or.inr (Or.inr ⟨h, h1, h2, h3, h4, by omega⟩))))
  clear hb
  rcases key with h | ⟨h, h1⟩ | ⟨h, h1, h2⟩ | ⟨h, h1, h2, h3⟩ | ⟨h, h1, h2, h3, h4⟩ | ⟨h, h1, h2, h3, h4, h5⟩
  · rw [show decide (¬ badNow now) = false by simp [h]] at HW
    clear h
    go_enter Try.func12, Try.ntmps12
    go_wp2_with fail
    refine HW.out.mono ?_
    rintro e w1 ⟨rfl, rfl⟩
    go_wp2_with fail
    go_ret
    exact ⟨rfl, rfl⟩
  · rw [show decide (¬ badNow now) = true by simp [h]] at HW
    have z1 : (name.toList == []) = true := by rw [ba_nil]; simp [h1]
    have z2 : name.toList.isEmpty = true := by rw [ba_emp]; simp [h1]
    clear h h1
    go_enter Try.func12, Try.ntmps12
    go_wp2_with fail
    refine HW.out.mono ?_
    rintro e w1 ⟨rfl, rfl⟩
    go_wp2_with fail
    go_ret
    exact ⟨rfl, rfl⟩
  all_goals
    rw [show decide (¬ badNow now) = true by simp [h]] at HW
    have z1 : (name.toList == []) = false := by rw [ba_nil]; simp [h1]
    have z2 : name.toList.isEmpty = false := by rw [ba_emp]; simp [h1]
    clear h h1
    go_enter Try.func12, Try.ntmps12
    go_wp2_with fail
    refine HW.out.mono ?_
    rintro e w1 ⟨rfl, rfl⟩
    go_wp2_with fail
    go_ret
    exact ⟨rfl, rfl⟩
theorem rput_step {x r g : Nat} {L : List Sl} {w w2 : World} (h : RT x w r g L) (hx : x < w.heap.size) {a : Option Addr} {n c : Nat} {ads : List Ad} (hs : SrcA w a n c ads) (hn : n ≤ 16) (k : Below w.heap.size w w2) {u : Value} (hu : OwnA w2 w.heap.size u []) {P : Nat} (hP : P < L.length) {name : ByteArray} {tt : Int} (hok : (⟨name, tt, ads⟩ : Sl).Ok) :
    ∃ a3 c3 w3 w4, Below w.heap.size w w3 ∧ apOk Try.prog u (.slice a n c) w2 = true ∧ apV Try.prog u (.slice a n c) w2 = .slice a3 n c3 ∧ apW Try.prog u (.slice a n c) w2 = w3 ∧ seOk Try.prog (.pointer (some ⟨g, P * 3, none⟩)) (.agg #[.string name, .slice a3 n c3, .int .i64 tt]) w3 = true ∧ seW Try.prog (.pointer (some ⟨g, P * 3, none⟩)) (.agg #[.string name, .slice a3 n c3, .int .i64 tt]) w3 = w4 ∧ RT x w4 r g (L.set P ⟨name, tt, ads⟩) ∧ Kept g g w w4 := by
  obtain ⟨v3, w3, ap, ow, bl⟩ := run_appS hu (hs.below k) (by simp; omega) k.size
  rw [List.nil_append] at ow
  obtain ⟨a3, c3, hv⟩ := ow.shape
  subst hv
  have ow0 : OwnA w3 0 (.slice a3 ads.length c3) ads := by
    refine ⟨ow.1, ?_⟩
    rcases ow.2 with h0 | ⟨y, cap, cur, hv, hx, hh, hrest⟩
    · exact Or.inl h0
    · exact Or.inr ⟨y, cap, cur, hv, Nat.zero_le _, hh, hrest⟩
  obtain ⟨w4, hst, hrt, hk⟩ := h.store (k.trans bl) P hP ⟨name, tt, ads⟩ hok _ ow0 (fun e => by have := (ow.block e).1; omega)
  rw [hs.hlen] at ap hst
  obtain ⟨q1, q2, q3⟩ := ap_of ap
  obtain ⟨q4, q5⟩ := se_of hst
  exact ⟨a3, c3, w3, w4, k.trans bl, q1, q2, q3, q4, q5, hrt, hk⟩
attribute [local go_sem ↓] run_opap run_opst71 Go.wp_at_zero Go.wp_at_succ
set_option maxRecDepth 100000 in
set_option maxHeartbeats 4000000 in
theorem rput_at (x r g : Nat) (L : List Sl) (now : Int) (name : ByteArray) (a : Option Addr) (n c : Nat) (ads : List Ad) (ttl : Int) (w : World) (h : RT x w r g L) (hU : Uniq L) (hs : SrcA w a n c ads) (hx : x < w.heap.size) :
    Calls Try.prog 12 #[.pointer (some ⟨r, 0, none⟩), .int .i64 now, .string name, .slice a n c, .int .i64 ttl] w fun e w' => e = .returned (.int .i64 (code L now name n ttl)) ∧ RT x w' r g (put L now name ads ttl) ∧ Kept g g w w' := by
  have hlen := hs.hlen
  by_cases hb : badNow now ∨ badPut name n ttl
  · rw [show code L now name n ttl = 2 by unfold code; rw [if_pos hb], show put L now name ads ttl = L by unfold put; rw [hlen, if_pos hb]]
    refine (rput_bad x r g L now name a n c ttl w hb).mono ?_
    rintro e w' ⟨rfl, rfl⟩
    exact ⟨rfl, h, Kept.refl _ _ _⟩
  have HW := hide (when_at now w)
  have h1 : ¬ badNow now := fun e => hb (Or.inl e)
  rw [show decide (¬ badNow now) = true by simp [h1]] at HW
  have h2 : ¬ badPut name n ttl := fun e => hb (Or.inr e)
  unfold badPut at h2
  have z0 : name.size ≠ 0 := by omega
  have z1 : (name.toList == []) = false := by rw [ba_nil]; simp [z0]
  have z2 : name.toList.isEmpty = false := by rw [ba_emp]; simp [z0]
  have z3 : ¬ 253 < name.size := by omega
  have z4 : ¬ 16 < n := by omega
  have z5 : ¬ ttl < 0 := by omega
  have z6 : ¬ 1048576 < ttl := by omega
  obtain ⟨N, hN⟩ : ∃ N, N = L.length := ⟨_, rfl⟩
  have hm := h.max
  have hc0 := h.cellR
  obtain ⟨hlr, hlg⟩ := h.lt
  rw [← hN] at hm hc0
  have H := hide h
  have HU := hide hU
  by_cases hN0 : N = 0
  · have hL : L = [] := List.length_eq_zero_iff.1 (by omega)
    have HP : Hid (put L now name ads ttl = L) := by show _ = _; rw [hL]; unfold put; split; rfl; split <;> rfl
    rw [show code L now name n ttl = 4 by unfold code; rw [if_neg hb, if_pos (by omega)], HP.out]
    have hd : (((N : Nat) : Int) == 0) = true := by simp [hN0]
    clear h hU hs hlen hb h1 h2 z0 hN hL hN0
    go_enter Try.func12, Try.ntmps12
    go_wp2_with fail
    refine HW.out.mono ?_
    rintro e w1 ⟨rfl, rfl⟩
    go_wp2_with fail
    go_ret
    exact ⟨rfl, H.out, Kept.refl _ _ _⟩
  rw [show code L now name n ttl = 0 by unfold code; rw [if_neg hb, if_neg (by omega)]]
  have hd : (((N : Nat) : Int) == 0) = false := by simp; omega
  have hn0 : 0 ≤ now := by unfold badNow at h1; omega
  have hn1 : now ≤ 1099511627776 := by unfold badNow at h1; omega
  by_cases ht : ttl = 0
  · have HP : Hid (put L now name ads ttl = dropped L name N) := by show _ = _; rw [hN, dropped_end]; unfold put; rw [hlen, if_neg hb, if_pos ht]
    have hd2 : (ttl == 0) = true := by simp [ht]
    have HZ0 := hide z0
    have HN := hide hN
    clear h hU hs hlen hb h1 h2 z0 hN hN0 ht
    go_enter Try.func12, Try.ntmps12
    go_wp2_with fail
    refine HW.out.mono ?_
    rintro e w1 ⟨rfl, rfl⟩
    go_wp2_with fail
    clear hc0
    go_loopw [11] (fun v wr => ∃ j : Nat, j ≤ N ∧ v = .int .i64 j ∧ Hid (RT x wr r g (dropped L name j)) ∧ Hid (Kept g g w wr)) (fun v _ => N - (intOf v).toNat)
    case atStart => exact ⟨0, Nat.zero_le _, rfl, by show RT _ _ _ _ _; unfold dropped; rw [if_neg (by omega)]; exact H.out, Kept.refl _ _ _⟩
    case round =>
      obtain ⟨j, hj, rfl, HT, HK⟩ := hrel
      have hc0 := HT.out.cellR
      rw [dropped_length, ← HN.out] at hc0
      by_cases hjn : j < N
      · have hd : decide ((j : Int) < (N : Int)) = true := decide_eq_true (by omega)
        have hjL : j < L.length := by rw [← HN.out]; exact hjn
        obtain ⟨v, c0, _, _, _, _⟩ := HT.out.cells (i := j) (by rw [dropped_length]; exact hjL)
        rw [dropped_at hjL] at c0
        by_cases hnm : (at0 L j).name = name
        · have zz : ((at0 L j).name.toList == name.toList) = true := by rw [eq_ba]; simp [hnm]
          obtain ⟨w2, hst, hrt, hkk⟩ := HT.out.store (Below.refl _ _) j (by rw [dropped_length]; exact hjL) zeroS zeroS_ok (.slice none 0 0) (OwnA.nil _ _) (by intro e; cases e)
          rw [dropped_hit HU.out HZ0.out hjL hnm] at hrt
          have HST := hide hst
          have HRT := hide hrt
          have HKK := hide (HK.out.trans hkk)
          clear hst hrt hkk hnm hjL
          generalize (at0 L j).name = nj at c0 zz
          go_wp2_with (refine wpList_store_ent rfl _ _ rfl (.pointer (some ⟨g, j * 3, none⟩)) (.agg (enC zeroS (.slice none 0 0)).toArray) rfl rfl HST.out ?_)
          go_roundw
          case rel => exact ⟨j + 1, by omega, by go_num, HRT, HKK⟩
          case measure => simp [intOf]; omega
        · have zz : ((at0 L j).name.toList == name.toList) = false := by rw [eq_ba]; simp [hnm]
          have HRT : Hid (RT x wr r g (dropped L name (j + 1))) := by show RT _ _ _ _ _; rw [← dropped_miss hjL hnm]; exact HT.out
          clear hnm hjL
          generalize (at0 L j).name = nj at c0 zz
          go_wp2_with fail
          go_roundw
          case rel => exact ⟨j + 1, by omega, by go_num, HRT, HK⟩
          case measure => simp [intOf]; omega
      · have hd : decide ((j : Int) < (N : Int)) = false := decide_eq_false (by omega)
        obtain rfl : j = N := by omega
        go_wp2_with fail
        go_ret
        exact ⟨rfl, by rw [HP.out]; exact HT.out, HK.out⟩
  · have HP : Hid (put L now name ads ttl = L.set (place L now name) ⟨name, now + ttl, ads⟩) := by show _ = _; unfold put; rw [hlen, if_neg hb, if_neg ht]
    have hd2 : (ttl == 0) = false := by simp [ht]
    have HPl := fun w' (k : Below w.heap.size w w') => hide (place_at r g N L now name w' (by have := (h.below k).reads; rw [← hN] at this; exact this) (by omega) hn0)
    have hPl := place_lt (L := L) now name (by omega)
    obtain ⟨P, hPP⟩ : ∃ P, P = place L now name := ⟨_, rfl⟩
    rw [← hPP] at HPl hPl HP
    have hwr : IntKind.i64.wrap (now + ttl) = now + ttl := wrap_int _ (by omega) (by omega)
    have hok : (⟨name, now + ttl, ads⟩ : Sl).Ok := ⟨by show 0 ≤ now + ttl; omega, by show now + ttl ≤ _; omega, by show ads.length ≤ 16; omega, hs.byte, by show name.size ≤ 253; omega, fun e => absurd e z0⟩
    have HST : Hid (∀ (w2 : World) (u : Value), Below w.heap.size w w2 → OwnA w2 w.heap.size u [] → ∃ a3 c3 w3 w4, Below w.heap.size w w3 ∧ apOk Try.prog u (.slice a n c) w2 = true ∧ apV Try.prog u (.slice a n c) w2 = .slice a3 n c3 ∧ apW Try.prog u (.slice a n c) w2 = w3 ∧ seOk Try.prog (.pointer (some ⟨g, P * 3, none⟩)) (.agg #[.string name, .slice a3 n c3, .int .i64 (now + ttl)]) w3 = true ∧ seW Try.prog (.pointer (some ⟨g, P * 3, none⟩)) (.agg #[.string name, .slice a3 n c3, .int .i64 (now + ttl)]) w3 = w4 ∧ RT x w4 r g (L.set P ⟨name, now + ttl, ads⟩) ∧ Kept g g w w4) := fun w2 u k hu => rput_step h hx hs (by omega) k hu hPl hok
    have hPN : P < N := by rw [hN]; exact hPl
    have HCR : Hid (∀ w', Below w.heap.size w w' → w'.cell? ⟨r, 0, none⟩ = some (.slice (some ⟨g, 0, none⟩) N N) ∧ r < w'.heap.size) := fun w' k => ⟨by have := (h.below k).cellR; rw [← hN] at this; exact this, by have := k.size; omega⟩
    have hT1 : 0 ≤ now + ttl := by omega
    have hT2 : now + ttl ≤ 1099512676352 := by omega
    clear hU hb h2 hN0 h hs hlen h1 hok hPl hPP hN z0
    go_enter Try.func12, Try.ntmps12
    go_wp2_with fail
    refine HW.out.mono ?_
    rintro e w1 ⟨rfl, rfl⟩
    go_wp2_with fail
    go_region_with (first
      | (go_at_call 32; refine (HPl _ (by exact ((Below.refl w.heap.size w).alloc (Nat.le_refl _) (.cells #[] 37)).drew)).out.mono ?_; rintro e w2 ⟨rfl, k2⟩; have hk2 := ((Below.refl w.heap.size w).alloc (Nat.le_refl _) (.cells #[] 37)).drew.trans (k2.mono (by show w.heap.size ≤ (World.alloc _ _).heap.size; simp)); obtain ⟨a3, c3, w3, w4, hb3, q1, q2, q3, q4, q5, hrt, hkk⟩ := HST.out w2 (.slice (some ⟨w.heap.size, 0, none⟩) 0 0) hk2 ((own_new37 w).keep (fun y hy => by simp [Value.ownBlock] at hy; subst hy; exact k2.block _ (by show _ < (World.alloc _ _).heap.size; simp))); have HRT := hide hrt; have HKK := hide hkk; obtain ⟨hc2, hr2⟩ := HCR.out w2 hk2; obtain ⟨hc3, hr3⟩ := HCR.out w3 hb3; clear k2 hk2 hrt hkk hb3)
      | (go_at_call 32; refine (HPl _ (by exact (Below.refl w.heap.size w).drew)).out.mono ?_; rintro e w2 ⟨rfl, k2⟩; have hk2 := ((Below.refl w.heap.size w).drew).trans k2; obtain ⟨a3, c3, w3, w4, hb3, q1, q2, q3, q4, q5, hrt, hkk⟩ := HST.out (w2.alloc (.cells #[] 37)) (.slice (some ⟨w2.heap.size, 0, none⟩) 0 0) (hk2.alloc hk2.size _) (by refine ⟨rfl, Or.inr ⟨w2.heap.size, 0, #[], rfl, hk2.size, alloc_new _ _, by simp, Nat.zero_le _, by simp, by simp [adCs]⟩⟩); have HRT := hide hrt; have HKK := hide hkk; obtain ⟨hc2, hr2⟩ := HCR.out w2 hk2; obtain ⟨hc3, hr3⟩ := HCR.out w3 hb3; clear k2 hk2 hrt hkk hb3))
    all_goals
      go_wp2_with fail
      go_ret
      exact ⟨rfl, by rw [HP.out]; exact HRT.out, HKK.out⟩
end Go.Proofs.Ytmolcipbopaniaa
