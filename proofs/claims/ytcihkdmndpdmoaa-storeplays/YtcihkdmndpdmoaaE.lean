/-
  The hand of package store; conditions as each theorem has them.
-/
import Derived.Test.YtcihkdmndpdmoaaD
set_option linter.unusedSimpArgs false
set_option linter.unusedVariables false
namespace Go.Proofs.Ytcihkdmndpdmoaa
open Go.RowKit
theorem IsTab.kept {w w' : World} {r g K h x y : Nat} {L : List Sl} (t : IsTab w r g K L h) (k : Kept x y w w') (h1 : r ≠ x) (h2 : r ≠ y) (h3 : g ≠ x) (h4 : g ≠ y) : IsTab w' r g K L h := t.keep (k.block r t.lt.1 h1 h2) (k.block g t.lt.2 h3 h4)
theorem IsTab.calm {w : World} {r g K h i : Nat} {L : List Sl} (t : IsTab w r g K L h) (hi : i < L.length) (b : Bool) (hk : (at0 L i).key.size ≠ 0) : IsTab (w.setCell ⟨g, i * 5 + 4, none⟩ (.bool b)) r g K (L.set i { at0 L i with asked := b }) h :=
  ⟨by rw [List.length_set]; exact (Below.heap_setCell _ _ _ _ t.ne).trans t.head, t.row.asked hi b, t.ne, ⟨okL_set t.inv.ok i ((t.inv.ok _ _ (get_at0 hi)).asked hk b), t.inv.uniq.own i (get_at0 hi) _ rfl, Or.inl (by rw [List.length_set]; exact t.inv.pos (by omega)), by rw [List.length_set]; exact t.inv.max, t.inv.keep⟩⟩
theorem asked_key {K : Nat} {s : Sl} (h : s.Ok K) (ha : s.asked = true) : s.key.size ≠ 0 := fun e => by
  rw [h.none e] at ha
  cases ha
set_option maxRecDepth 100000 in
set_option maxHeartbeats 4000000 in
theorem takeAway_at (r g K h : Nat) (L : List Sl) (now : Int) (w : World) (t : IsTab w r g K L h) (hl : 0 < L.length) (hn : ¬ badNow now) :
    Calls Try.prog 44 #[.pointer (some ⟨r, 0, none⟩), .int .i64 now] w fun e w' => e = .returned (.int .i64 ((spin now (cntA L) L h).2 : Nat)) ∧ IsTab w' r g K (spin now (cntA L) L h).1 (((spin now (cntA L) L h).2 + 1) % L.length) ∧ Kept r g w w' := by
  obtain ⟨N, hN⟩ : ∃ N, N = L.length := ⟨_, rfl⟩
  have hm := t.inv.max
  rw [← hN] at hm hl ⊢
  obtain ⟨S, hS⟩ : ∃ S, S = spin now (cntA L) L h := ⟨_, rfl⟩
  rw [← hS]
  have HS := hide hS
  have HN := hide hN
  have HT := hide t
  have HBN := hide hn
  have HNE := hide t.ne
  clear hS hN t hn
  go_enter Try.func44, Try.ntmps44
  go_wp2_with fail
  go_loopg [] (cntA L) (fun k wr => ∃ (L' : List Sl) (h' : Nat), k = cntA L' ∧ h' < N ∧ Hid (IsTab wr r g K L' h') ∧ Hid (L'.length = N) ∧ Hid (S = spin now (cntA L') L' h') ∧ Hid (Kept r g w wr))
  case atStart => exact ⟨L, h, rfl, by have := HT.out.inv.pos (by have := HN.out; omega); have := HN.out; omega, HT, HN.out.symm, HS, Kept.refl _ _ _⟩
  case round =>
    clear HT HS HN
    obtain ⟨L', h', HG, hh, HT, HN, HS, HK⟩ := hrel
    obtain ⟨c0, c1, c2, c3⟩ := HT.out.cells
    rw [HN.out] at c3
    have hs : Hid (L'[h']? = some (at0 L' h')) := get_at0 (by have := HN.out; omega)
    obtain ⟨d0, d1, d2, d3, d4⟩ := HT.out.row.cells hs.out
    have HST := fun W => hide (stays_at (at0 L' h') K now W (HT.out.inv.ok _ _ hs.out) HBN.out)
    by_cases hst : stays (at0 L' h') now = true
    · rw [hst] at HST
      have HP : Hid (cntA L' = cntA (calmed L' h') + 1) := cntA_calmed (by have := HN.out; omega) (by unfold stays at hst; simp at hst; exact hst.1)
      have HE : Hid (S = spin now (cntA (calmed L' h')) (calmed L' h') ((h' + 1) % L'.length)) := HS.out.trans (spin_step (by have := HN.out; omega) hst)
      have HKY : Hid ((at0 L' h').key.size ≠ 0) := asked_key (HT.out.inv.ok _ _ hs.out) (by unfold stays at hst; simp at hst; exact hst.1)
      have HIN : Hid (h' < L'.length) := by show h' < L'.length; have := HN.out; omega
      obtain ⟨s, hsl⟩ : ∃ s, s = at0 L' h' := ⟨_, rfl⟩
      rw [← hsl] at d0 d1 d2 d3 d4 HST
      clear hs hst hsl
      obtain ⟨k, b, p, q, a⟩ := s
      simp only [slV] at d0 d1 d2 d3 d4 HST
      go_wp2_with fail
      go_region_with (go_at_call 48; refine (HST _).out.mono ?_; rintro e w1 ⟨rfl, k1⟩; have kk : Below wr.heap.size wr w1 := (Below.refl _ _).drew.trans k1; have T1 := hide (HT.out.below kk); have KK := hide (HK.out.trans (Kept.of_below kk)); obtain ⟨e0, e1, e2, e3⟩ := T1.out.cells; rw [HN.out] at e3; clear k1 kk e0 e1)
      all_goals
        have f4 := (T1.out.row.cells (get_at0 HIN.out)).2.2.2.2
        have hfz := T1.out.row.frozen (h' * 5 + 4)
        generalize (at0 L' h').asked = aa at f4
        go_wp2_with fail
        go_region
        all_goals
          have T2 := hide ((T1.out.drewN 1).calm HIN.out false HKY.out)
          have K2 := hide ((KK.out.drewN 1).setCell (p := ⟨g, h' * 5 + 4, none⟩) (Or.inr rfl) (.bool false))
          go_wp2_with fail
          refine (goOn_at r g K h' (calmed L' h') _ T2.out (by rw [calmed_length]; have := HIN.out; omega)).mono ?_
          rintro e w3 ⟨rfl, t3, k3⟩
          rw [calmed_length, HN.out] at t3
          have T3 := hide t3
          have K3 := hide (K2.out.trans (k3.wide (Or.inl rfl)))
          clear t3 k3
          go_wp2_with fail
          go_roundg (cntA (calmed L' h'))
          case measure => have := HP.out; omega
          case rel => exact ⟨calmed L' h', (h' + 1) % N, rfl, Nat.mod_lt _ hl, T3, by show _ = _; rw [calmed_length]; exact HN.out, by have := HE.out; rw [HN.out] at this; exact this, K3⟩
    · have hst : stays (at0 L' h') now = false := by simpa using hst
      rw [hst] at HST
      have HE : Hid (S = (L', h')) := HS.out.trans (spin_stop hst _)
      generalize at0 L' h' = s at d0 d1 d2 d3 d4 HST hs
      obtain ⟨k, b, p, q, a⟩ := s
      simp only [slV] at d0 d1 d2 d3 d4 HST
      clear hs hst
      have HGO := fun W tt => hide (goOn_at r g K h' L' W tt (by have := HN.out; omega))
      go_wp2_with fail
      go_region_with (go_at_call 48; refine (HST _).out.mono ?_; rintro e w1 ⟨rfl, k1⟩; have kk : Below wr.heap.size wr w1 := (Below.refl _ _).drew.trans k1; have T1 := hide (HT.out.below kk); have KK := hide (HK.out.trans (Kept.of_below kk)); obtain ⟨e0, e1, e2, e3⟩ := T1.out.cells; rw [HN.out] at e3; clear k1 kk e0 e1)
      all_goals
        go_wp2_with fail
        refine (HGO _ T1.out).out.mono ?_
        rintro e w2 ⟨rfl, t2, k2⟩
        rw [HN.out] at t2
        have T2 := hide t2
        have K2 := hide (KK.out.trans (k2.wide (Or.inl rfl)))
        clear t2 k2
        go_wp2_with fail
        go_ret
        exact ⟨by rw [HE.out]; rfl, by rw [HE.out]; exact T2.out, K2.out⟩
end Go.Proofs.Ytcihkdmndpdmoaa
