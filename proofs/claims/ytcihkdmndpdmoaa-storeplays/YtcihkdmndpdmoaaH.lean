/-
  Put of package store; conditions as each theorem has them.
-/
import Derived.Test.YtcihkdmndpdmoaaG
set_option linter.unusedSimpArgs false
set_option linter.unusedVariables false
namespace Go.Proofs.Ytcihkdmndpdmoaa
open Go.RowKit
theorem seenI {p : Prop} [Decidable p] {i : Nat} (h : p) : (if p then ((i : Nat) : Int) else -1) = i := if_pos h
set_option maxRecDepth 100000 in
set_option maxHeartbeats 4000000 in
theorem place_at (r g K h : Nat) (L : List Sl) (now : Int) (key : ByteArray) (w : World) (t : IsTab w r g K L h) (hl : 0 < L.length) (hn : ¬ badNow now) (hk : key.size ≠ 0) :
    Calls Try.prog 34 #[.pointer (some ⟨r, 0, none⟩), .int .i64 now, .string key] w fun e w' => e = .returned (.int .i64 ((place L h now key).2.2 : Nat)) ∧ IsTab w' r g K (place L h now key).1 (place L h now key).2.1 ∧ Kept r g w w' := by
  have HF := hide (find_at r g K h L key w t)
  obtain ⟨N, hN⟩ : ∃ N, N = L.length := ⟨_, rfl⟩
  have hm := t.inv.max
  rw [← hN] at hm
  have HT := hide t
  by_cases h1 : fidx key L < L.length
  · rw [show place L h now key = (L, h, fidx key L) by unfold place; rw [if_pos h1]]
    rw [if_pos (isIn_iff.2 ⟨hk, h1⟩)] at HF
    simp only
    have hf : fidx key L ≤ 4096 := by omega
    generalize fidx key L = P at HF hf
    clear t hN h1 hk hn hl
    go_enter Try.func34, Try.ntmps34
    go_wp2_with fail
    refine HF.out.mono ?_
    rintro e w1 ⟨rfl, k1⟩
    have T1 := hide (HT.out.below k1)
    have K1 := hide k1
    clear k1
    go_wp2_with fail
    go_ret
    exact ⟨rfl, T1.out, Kept.of_below K1.out⟩
  · rw [if_neg (fun e => h1 (isIn_iff.1 e).2)] at HF
    have HX := fun W (tt : IsTab W r g K L h) => hide (index_at g K N L W tt.row tt.inv.ok hN hm)
    by_cases h2 : fidx noN L < L.length
    · rw [show place L h now key = (L, h, fidx noN L) by unfold place; rw [if_neg h1, if_pos h2]]
      rw [if_pos h2] at HX
      simp only
      have hf : fidx noN L ≤ 4096 := by omega
      generalize fidx noN L = P at HX hf
      have HN := hide hN
      clear t hN h1 h2 hk hn hl
      go_enter Try.func34, Try.ntmps34
      go_wp2_with fail
      refine HF.out.mono ?_
      rintro e w1 ⟨rfl, k1⟩
      have T1 := hide (HT.out.below k1)
      have K1 := hide k1
      obtain ⟨c0, c1, c2, c3⟩ := T1.out.cells
      rw [← HN.out] at c3
      clear k1 c0 c1 c2
      go_wp2_with fail
      refine (HX _ T1.out).out.mono ?_
      rintro e w2 ⟨rfl, k2⟩
      have T2 := hide (T1.out.below k2)
      have K2 := hide (K1.out.trans (k2.mono K1.out.size))
      clear k2
      go_wp2_with fail
      go_ret
      exact ⟨rfl, T2.out, Kept.of_below K2.out⟩
    · have HP : Hid (place L h now key = ((spin now (cntA L) L h).1, ((spin now (cntA L) L h).2 + 1) % L.length, (spin now (cntA L) L h).2)) := by show _ = _; unfold place; rw [if_neg h1, if_neg h2]
      rw [HP.out]
      rw [if_neg h2] at HX
      have HA := fun W (tt : IsTab W r g K L h) => hide (takeAway_at r g K h L now W tt hl hn)
      have HN := hide hN
      simp only
      generalize (spin now (cntA L) L h).2 = S2 at HA
      generalize (spin now (cntA L) L h).1 = S1 at HA
      clear t hN h1 h2 hk hn hl HP
      go_enter Try.func34, Try.ntmps34
      go_wp2_with fail
      refine HF.out.mono ?_
      rintro e w1 ⟨rfl, k1⟩
      have T1 := hide (HT.out.below k1)
      have K1 := hide k1
      obtain ⟨c0, c1, c2, c3⟩ := T1.out.cells
      rw [← HN.out] at c3
      clear k1 c0 c1 c2
      go_wp2_with fail
      refine (HX _ T1.out).out.mono ?_
      rintro e w2 ⟨rfl, k2⟩
      have T2 := hide (T1.out.below k2)
      have K2 := hide (K1.out.trans (k2.mono K1.out.size))
      clear k2
      go_wp2_with fail
      refine (HA _ T2.out).out.mono ?_
      rintro e w3 ⟨rfl, t3, k3⟩
      have T3 := hide t3
      have K3 := hide ((Kept.of_below K2.out).trans k3)
      clear t3 k3
      go_wp2_with fail
      go_ret
      exact ⟨rfl, T3.out, K3.out⟩
attribute [local go_sem ↓] run_opst Go.wp_at_zero Go.wp_at_succ
set_option maxRecDepth 100000 in
set_option maxHeartbeats 4000000 in
theorem put_at (r g K h : Nat) (L : List Sl) (now : Int) (key : ByteArray) (a : Option Addr) (n c : Nat) (l : List Nat) (age : Int) (w : World) (t : IsTab w r g K L h) (hs : Src w a n c l) (ho : Off a n r ∧ Off a n g) :
    Calls Try.prog 13 #[.pointer (some ⟨r, 0, none⟩), .int .i64 now, .string key, .slice a n c, .int .i64 age] w fun e w' => e = .returned (.int .i64 (code K L now key n age)) ∧ IsTab w' r g K (put K L h now key (strN l) age).1 (put K L h now key (strN l) age).2 ∧ Kept r g w w' := by
  obtain ⟨c0, c1, c2, c3⟩ := t.cells
  obtain ⟨hlr, hlg⟩ := t.lt
  have HM := hide (isMade_at r true w c0)
  have HI := hide (isNow_at now w)
  have HK := hide (isKey_at key w)
  have HA := hide (isAge_at age w)
  have hcap := hs.hcap
  have hmax := hs.hmax
  unfold maxLen at hmax
  obtain ⟨N, hN⟩ : ∃ N, N = L.length := ⟨_, rfl⟩
  rw [← hN] at c3
  have hm := t.inv.max
  have hkp := t.inv.keep
  rw [← hN] at hm
  have HT := hide t
  have hsz : (strN l).size = n := by rw [strN_size]; exact hs.hlen
  by_cases hb : badPut now key age
  · rw [show code K L now key n age = 2 by unfold code; rw [if_pos hb], put_bad (by rw [hsz]; unfold code; rw [if_pos hb]; decide)]
    by_cases h1 : badNow now
    · rw [show decide (¬ badNow now) = false by simp [h1]] at HI
      clear t hN hb h1 hs ho hsz c0 c1 c2 c3
      go_enter Try.func13, Try.ntmps13
      go_wp2_with fail
      refine HM.out.mono ?_
      rintro e w1 ⟨rfl, rfl⟩
      go_wp2_with fail
      refine HI.out.mono ?_
      rintro e w1 ⟨rfl, rfl⟩
      go_wp2_with fail
      go_ret
      exact ⟨rfl, HT.out, Kept.refl _ _ _⟩
    rw [show decide (¬ badNow now) = true by simp [h1]] at HI
    by_cases h2 : badKey key
    · rw [show decide (¬ badKey key) = false by simp [h2]] at HK
      clear t hN hb h1 h2 hs ho hsz c0 c1 c2 c3
      go_enter Try.func13, Try.ntmps13
      go_wp2_with fail
      refine HM.out.mono ?_
      rintro e w1 ⟨rfl, rfl⟩
      go_wp2_with fail
      refine HI.out.mono ?_
      rintro e w1 ⟨rfl, rfl⟩
      go_wp2_with fail
      refine HK.out.mono ?_
      rintro e w1 ⟨rfl, rfl⟩
      go_wp2_with fail
      go_ret
      exact ⟨rfl, HT.out, Kept.refl _ _ _⟩
    rw [show decide (¬ badKey key) = true by simp [h2]] at HK
    have h3 : badAge age := (hb.resolve_left h1).resolve_left h2
    rw [show decide (¬ badAge age) = false by simp [h3]] at HA
    clear t hN hb h1 h2 h3 hs ho hsz c0 c1 c2 c3
    go_enter Try.func13, Try.ntmps13
    go_wp2_with fail
    refine HM.out.mono ?_
    rintro e w1 ⟨rfl, rfl⟩
    go_wp2_with fail
    refine HI.out.mono ?_
    rintro e w1 ⟨rfl, rfl⟩
    go_wp2_with fail
    refine HK.out.mono ?_
    rintro e w1 ⟨rfl, rfl⟩
    go_wp2_with fail
    refine HA.out.mono ?_
    rintro e w1 ⟨rfl, rfl⟩
    go_wp2_with fail
    go_ret
    exact ⟨rfl, HT.out, Kept.refl _ _ _⟩
  have h1 : ¬ badNow now := fun e => hb (Or.inl e)
  have h2 : ¬ badKey key := fun e => hb (Or.inr (Or.inl e))
  have h3 : ¬ badAge age := fun e => hb (Or.inr (Or.inr e))
  rw [show decide (¬ badNow now) = true by simp [h1]] at HI
  rw [show decide (¬ badKey key) = true by simp [h2]] at HK
  rw [show decide (¬ badAge age) = true by simp [h3]] at HA
  by_cases h4 : K < n
  · rw [show code K L now key n age = 3 by unfold code; rw [if_neg hb, if_pos h4], put_bad (by rw [hsz]; unfold code; rw [if_neg hb, if_pos h4]; decide)]
    have d1 : decide ((n : Int) > (K : Int)) = true := decide_eq_true (by omega)
    have d2 : decide ((K : Int) < (n : Int)) = true := decide_eq_true (by omega)
    have d3 : decide (K < n) = true := decide_eq_true (by omega)
    clear t hN hb h1 h2 h3 hs ho hsz c0 c2 c3
    go_enter Try.func13, Try.ntmps13
    go_wp2_with fail
    refine HM.out.mono ?_
    rintro e w1 ⟨rfl, rfl⟩
    go_wp2_with fail
    refine HI.out.mono ?_
    rintro e w1 ⟨rfl, rfl⟩
    go_wp2_with fail
    refine HK.out.mono ?_
    rintro e w1 ⟨rfl, rfl⟩
    go_wp2_with fail
    refine HA.out.mono ?_
    rintro e w1 ⟨rfl, rfl⟩
    go_wp2_with fail
    go_ret
    exact ⟨rfl, HT.out, Kept.refl _ _ _⟩
  have d1 : decide ((n : Int) > (K : Int)) = false := decide_eq_false (by omega)
  have d2 : decide ((K : Int) < (n : Int)) = false := decide_eq_false (by omega)
  have d3 : decide (K < n) = false := decide_eq_false (by omega)
  by_cases h5 : N = 0
  · rw [show code K L now key n age = 4 by unfold code; rw [if_neg hb, if_neg h4, if_pos (by omega)], put_bad (by rw [hsz]; unfold code; rw [if_neg hb, if_neg h4, if_pos (by omega)]; decide)]
    have d4 : (((N : Nat) : Int) == 0) = true := by simp [h5]
    clear t hN hb h1 h2 h3 hs ho hsz c0 c2
    go_enter Try.func13, Try.ntmps13
    go_wp2_with fail
    refine HM.out.mono ?_
    rintro e w1 ⟨rfl, rfl⟩
    go_wp2_with fail
    refine HI.out.mono ?_
    rintro e w1 ⟨rfl, rfl⟩
    go_wp2_with fail
    refine HK.out.mono ?_
    rintro e w1 ⟨rfl, rfl⟩
    go_wp2_with fail
    refine HA.out.mono ?_
    rintro e w1 ⟨rfl, rfl⟩
    go_wp2_with fail
    go_ret
    exact ⟨rfl, HT.out, Kept.refl _ _ _⟩
  have d4 : (((N : Nat) : Int) == 0) = false := by simp [h5]
  have hc : code K L now key n age = 0 := code_of hb (by omega) (by omega)
  have HIV := hide (put_inv t.inv now key (strN l) age)
  have HPG : Hid (put K L h now key (strN l) age = putS L h now key (strN l) age) := put_good (by rw [hsz]; exact hc)
  rw [hc, HPG.out]
  rw [HPG.out] at HIV
  have hk1 : key.size ≠ 0 := fun e => h2 (Or.inl e)
  have hk2 : key.size ≤ 4096 := by unfold badKey at h2; omega
  have HP := fun W (tt : IsTab W r g K L h) => hide (place_at r g K h L now key W tt (by omega) h1 hk1)
  obtain ⟨_, p2, p3, _⟩ := place_inv now key t.inv (by omega)
  have HPL : Hid ((place L h now key).2.2 < (place L h now key).1.length) := by show _ < _; rw [nms_len p2]; exact p3
  have hPN : (place L h now key).2.2 < N := by rw [hN]; exact p3
  unfold putS at HIV ⊢
  simp only at HIV ⊢
  generalize (place L h now key).2.2 = P at HP HPL hPN HIV
  generalize (place L h now key).2.1 = H1 at HP HIV
  have HLN : Hid ((place L h now key).1.length = N) := by show _ = _; rw [nms_len p2, hN]
  generalize (place L h now key).1 = L1 at HP HPL HIV HLN
  have HSR := hide hs
  have HOF := hide ho
  have HN := hide hN
  obtain ⟨X, hX⟩ : ∃ X : Sl, X = ⟨key, strN l, now, age, false⟩ := ⟨_, rfl⟩
  rw [← hX] at HIV ⊢
  have HFI : Hid (∀ W, Src W a n c l → Calls Try.prog 33 #[.int .i64 now, .string key, .slice a n c, .int .i64 age] W fun e w' => e = .returned (slV X) ∧ Below W.heap.size W w') := fun W hw => by rw [hX]; exact filled_at now key a n c l age W hw hk2
  obtain ⟨xk, xb, xp, xq, xa⟩ := X
  simp only [slV] at HFI
  have HXX := hide hX
  clear t hN hb h1 h2 h3 h4 h5 hs ho hsz c0 c2 hX hc HPG hk1 p2 p3
  go_enter Try.func13, Try.ntmps13
  go_wp2_with fail
  refine HM.out.mono ?_
  rintro e w1 ⟨rfl, rfl⟩
  go_wp2_with fail
  refine HI.out.mono ?_
  rintro e w1 ⟨rfl, rfl⟩
  go_wp2_with fail
  refine HK.out.mono ?_
  rintro e w1 ⟨rfl, rfl⟩
  go_wp2_with fail
  refine HA.out.mono ?_
  rintro e w1 ⟨rfl, rfl⟩
  go_wp2_with fail
  go_region_with (first
    | (go_at_call 34; refine (HP _ (HT.out.drewN 1)).out.mono ?_; rintro e w2 ⟨rfl, t2, k2⟩; have T2 := hide t2; have K2 := hide (((Kept.refl r g w).drewN 1).trans k2); obtain ⟨e0, e1, e2, e3⟩ := t2.cells; rw [HLN.out] at e3; clear t2 k2 e0 e1 e2)
    | (go_at_call 33; refine (HFI.out _ (by exact HSR.out.keep (fun h0 b o e => K2.out.block b (HSR.out.lt h0 e) (HOF.out.1 h0 b o e) (HOF.out.2 h0 b o e)) K2.out.size)).mono ?_; rintro e w3 ⟨rfl, k3⟩; have T3 := hide (T2.out.below k3); have K3 := hide (K2.out.trans (Kept.of_below k3)); obtain ⟨e4, e5, e6, e7⟩ := T3.out.cells; rw [HLN.out] at e7; obtain ⟨st1, st2⟩ := slot_store (w := w) T3.out HPL.out ⟨xk, xb, xp, xq, xa⟩; simp only [slV] at st1 st2; clear k3 e4 e5 e6))
  all_goals
    go_wp2_with fail
    go_ret
    exact ⟨rfl, T3.out.put P _ HIV.out, K3.out.setRow (Or.inr rfl) _⟩
end Go.Proofs.Ytcihkdmndpdmoaa
