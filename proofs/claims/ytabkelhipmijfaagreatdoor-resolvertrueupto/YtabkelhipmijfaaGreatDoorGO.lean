/-
  The bytes that the statements hand in; conditions as each theorem has them.
-/
import Derived.Test.YtabkelhipmijfaaGreatDoorJoinedT3
import Derived.Test.YtabkelhipmijfaaGreatDoorJoinedBN
import Derived.Deep.DrawnRows
set_option linter.unusedSimpArgs false
set_option linter.unusedVariables false
namespace Go.Proofs.YtabkelhipmijfaaGreatDoor
open Go.RowKit

/-- An act as a value. -/
def Ac.v (x : Ac) : Value := .agg #[.int .i64 x.k, .int .i64 x.by_, .int .i64 x.draw, .int .i64 x.n_, .string x.name, .slice x.ba x.bn x.bc, .slice x.a x.n x.c, .int .i64 x.ttl]
/-- Bytes that were told. -/
abbrev Told (w : World) (e : Ending) (w' : World) : Prop := ∃ a c l, e = .returned (.slice a l.length c) ∧ Src w' a l.length c l ∧ l.length ≤ 140737488351232 ∧ Below w.heap.size w w'
set_option maxRecDepth 100000 in
set_option maxHeartbeats 4000000 in
theorem lanswer_at (x : Ac) (b : Nat) (L : List Qn) (w : World) (hin : x.In w) (hV : Vars w) (hq : QyAt w b L) (hl : L.length ≤ 64) (hn : ∀ q ∈ L, Qn.Ok q) :
    Calls Tryz.prog 15 #[x.v, .slice (some ⟨b, 0, none⟩) L.length L.length] w (Told w) := by
  obtain ⟨N, hN⟩ : ∃ N, N = L.length := ⟨_, rfl⟩
  have HIN := hide hin
  have HV := hide hV
  have HQ := hide hq
  have HL := hide hn
  have HNL := hide hN
  rw [← hN]
  rw [← hN] at hl
  clear hin hV hq hn hN
  obtain ⟨xk, xb, xd, xn, xname, ba, bn, bc, bs, xa, xan, xc, ads, xt⟩ := x
  show Calls Tryz.prog 15 #[.agg #[.int .i64 xk, .int .i64 xb, .int .i64 xd, .int .i64 xn, .string xname, .slice ba bn bc, .slice xa xan xc, .int .i64 xt], .slice (some ⟨b, 0, none⟩) N N] w (Told w)
  obtain ⟨k, hk, hk2⟩ := among_k xk 6 (by omega) (by omega)
  have HK := hide hk2
  clear hk2
  obtain ⟨h1, h2, h3, h4, h5, h6⟩ := HIN.out
  simp only at h1 h2 h3 h4 h5 h6
  have H1 := hide h1
  have H3 := hide h3
  clear h1 h3 h5 h6 HIN
  have hB0 : Below w.heap.size w (w.alloc (.cells #[.int .i64 xk, .int .i64 xb, .int .i64 xd, .int .i64 xn, .string xname, .slice ba bn bc, .slice xa xan xc, .int .i64 xt] 33)) := (Below.refl _ _).alloc (Nat.le_refl _) _
  have HB0 := hide hB0
  have HBY := hide (bytes_at ba bn bc bs _ (H1.out.below hB0) (by omega))
  have hlb := H1.out.hlen
  clear hB0
  by_cases hkn : k = 3 ∨ N = 0
  · have hd : (((k : Int) == 3) = true) ∨ (((k : Int) == 3) = false ∧ N = 0) := by
      by_cases h : k = 3
      · subst h; exact Or.inl rfl
      · exact Or.inr ⟨by simp; omega, by omega⟩
    rcases hd with hd | ⟨hd, rfl⟩
    all_goals
      go_enter Tryz.func15, Tryz.ntmps15
      go_wp2_with fail
      refine (HK.out _).mono ?_
      rintro e w1 ⟨rfl, rfl⟩
      go_wp2_with fail
      refine HBY.out.mono ?_
      rintro e w1 ⟨v, rfl, ho, k1⟩
      obtain ⟨a2, c2, rfl, hs, _⟩ := own_src ho H1.out.byte
      have K1 := hide (HB0.out.trans (k1.mono HB0.out.size))
      have S1 := hide hs
      clear k1 hs ho
      go_wp2_with fail
      go_ret
      exact ⟨a2, c2, bs, by rw [hlb]; rfl, S1.out, by omega, K1.out⟩
  · have d3 : ((k : Int) == 3) = false := by simp; omega
    have d0 : ((N : Int) == 0) = false := by simp; omega
    obtain ⟨K, hK, hk2⟩ := among_k xn N (by omega) (by omega)
    have HKK := hide hk2
    obtain ⟨q0, q1⟩ := HQ.out.cells (i := K) (by have := HNL.out; omega)
    have hqb := lt_of_cell q0
    have p0 := (HB0.out.cell (p := ⟨b, K * 2, none⟩) hqb).trans q0
    have p1 := (HB0.out.cell (p := ⟨b, K * 2 + 1, none⟩) hqb).trans q1
    have hqo := HL.out _ (qAt_mem (L := L) (i := K) (by have := HNL.out; omega))
    have hqn := hqo.nm
    obtain ⟨qi, hqi⟩ : ∃ qi, qi = (qAt L K).id := ⟨_, rfl⟩
    obtain ⟨qn, hqnm⟩ : ∃ qn, qn = (qAt L K).nm := ⟨_, rfl⟩
    rw [← hqi] at p0
    rw [← hqnm] at p1 hqn
    have HPA := hide (fun (W : World) (hb : Below w.heap.size w W) => putAnswer_at qi qn 0 xa xan xc ads xt W (by unfold maxLen; omega) (HV.out.below hb) (by omega) (H3.out.below hb))
    have HBD : Hid (Below w.heap.size w (w.alloc (.cells #[.int .i64 xk, .int .i64 xb, .int .i64 xd, .int .i64 xn, .string xname, .slice ba bn bc, .slice xa xan xc, .int .i64 xt] 33)).drew) := ⟨HB0.out.os, HB0.out.tape, HB0.out.output, HB0.out.size, HB0.out.block⟩
    obtain ⟨PR, hPR⟩ : ∃ PR, PR = putAr qi (byt qn) 0 ads xt := ⟨_, rfl⟩
    have hPL : PR.1.length ≤ 512 := by
      rw [hPR]
      unfold putAr
      split
      · split
        · exact Nat.zero_le _
        · rename_i h; exact Nat.le_of_not_lt h
      · exact Nat.zero_le _
    rw [← hPR] at HPA
    clear hk2 q0 q1 hqb hqo hqi hqnm hPR HQ HNL HL hkn
    go_enter Tryz.func15, Tryz.ntmps15
    go_wp2_with fail
    refine (HK.out _).mono ?_
    rintro e w1 ⟨rfl, rfl⟩
    go_wp2_with fail
    go_region_with (first
      | (go_at_call 9; refine (HKK.out _).mono ?_; rintro e w2 ⟨rfl, rfl⟩)
      | (go_at_call 47; refine (HPA.out _ HBD.out).mono ?_; rintro e w2 ⟨a2, c2, rfl, s2, b2⟩; have S2 := hide s2; have B2 := hide (HBD.out.trans (b2.mono HBD.out.size)); clear s2 b2))
    all_goals
      go_wp2_with fail
      go_ret
      exact ⟨a2, c2, PR.1, rfl, S2.out, by omega, B2.out⟩

end Go.Proofs.YtabkelhipmijfaaGreatDoor
