/-
  Whether no further question is to be looked at, and the first question of a sort; Addresses wherever they lie, copies of them, and how base holds them side by side; conditions as each theorem has them.
-/
import Derived.Test.YtabkelhipmijfaaGreatDoorJoined10
import Derived.Shelf.Abstract
import Derived.Deep.LoopGhost
import Derived.Test.YtabkelhipmijfaaGreatDoorMH
set_option linter.unusedSimpArgs false
set_option linter.unusedVariables false
namespace Go.Proofs.YtabkelhipmijfaaGreatDoor
open Go.RowKit

set_option maxRecDepth 100000 in
set_option maxHeartbeats 1000000 in
theorem isForNoOther_at (a : Option Addr) (n c : Nat) (b : List Nat) (q : Qn) (w : World) (h : Src w a n c b) (hV : Vars w) (hn : n ≤ 140737488351232) :
    Calls Tryz.prog 48 #[.slice a n c, .agg (qC q).toArray] w fun e w' => e = .returned (.bool (noOth b q)) ∧ Below w.heap.size w w' := by
  have hb := qbox_below q w
  have HB := hide hb
  have HM := hide (match_at q.id q.nm a n c b _ (h.below hb) (hV.below hb) hn)
  obtain ⟨R, hR⟩ : ∃ R, R = noOth b q := ⟨_, rfl⟩
  rw [← hR]
  unfold noOth at hR
  obtain ⟨id, nm, sent, again⟩ := q
  simp only at HM hR
  obtain ⟨E, hE⟩ : ∃ E, E = mat id (byt nm) b := ⟨_, rfl⟩
  rw [← hE] at HM hR
  have HR := hide hR
  unfold qC at HB HM ⊢
  clear h hV hb hR hE
  go_enter Tryz.func48, Tryz.ntmps48
  go_wp2_with fail
  refine HM.out.mono ?_
  rintro e w1 ⟨v, er, rfl, ho, hi, k⟩
  have K := hide (HB.out.trans (k.mono (by simp)))
  have HI := hide (fun W (k2 : Below w1.heap.size w1 W) => eis_er E.2 er W (hi.below k2))
  obtain ⟨va, vc, rfl⟩ := ho.shape
  obtain ⟨N, hN⟩ : ∃ N, N = E.1.ad.length := ⟨_, rfl⟩
  rw [← hN]
  obtain ⟨I, hI⟩ : ∃ I, I = E.1.id := ⟨_, rfl⟩
  obtain ⟨T, hT⟩ : ∃ T, T = E.1.tl := ⟨_, rfl⟩
  obtain ⟨CD, hCD⟩ : ∃ CD, CD = E.1.cd := ⟨_, rfl⟩
  obtain ⟨X, hX⟩ : ∃ X, X = strN E.1.nm := ⟨_, rfl⟩
  rw [← hI, ← hT, ← hCD, ← hX]
  have kb : Below w1.heap.size w1 (w1.alloc (.cells #[.int .i64 (I : Nat), .string X, .int .i64 (CD : Nat), .slice va N vc, .int .i64 (T : Nat)] 65)) := (Below.refl _ _).alloc (Nat.le_refl _) _
  have KB := hide kb
  clear ho hi k hN hI hT hCD hX kb
  go_wp2_with fail
  refine (HI.out _ KB.out).mono ?_
  rintro e w2 ⟨rfl, rfl⟩
  go_wp2_with fail
  go_ret
  exact ⟨by rw [HR.out]; rfl, K.out.trans (KB.out.mono K.out.size)⟩

set_option maxRecDepth 100000 in
set_option maxHeartbeats 2000000 in
/-- slices.IndexFunc over questions, with a method value. -/
theorem indexFunc_at (f : Nat) (rv : Value) (p : Qn → Bool) (v : Value) (L : List Qn) (w : World) (hq : OwnQ w v L) (hm : L.length ≤ 64)
    (hf : ∀ args w, (callFunc f args).run Tryz.prog w = .ok (.enter f args) w)
    (HP : ∀ (W : World) (q : Qn), Below w.heap.size w W → Calls Tryz.prog f #[rv, .agg (qC q).toArray] W fun e w' => e = .returned (.bool (p q)) ∧ Below W.heap.size W w') :
    Calls Tryz.prog 42 #[v, .func (.func f) #[rv] #[]] w fun e w' => e = .returned (.int .i64 (fndI p L)) ∧ Below w.heap.size w w' := by
  have HQ := hide hq
  have HPP := hide HP
  obtain ⟨a, c, rfl⟩ := own_shape hq
  obtain ⟨N, hN⟩ : ∃ N, N = L.length := ⟨_, rfl⟩
  rw [← hN] at hm ⊢
  have HN := hide hN
  obtain ⟨R, hR⟩ : ∃ R : Int, R = fndI p L := ⟨_, rfl⟩
  rw [← hR]
  have HR := hide hR
  clear hq hN hR HP
  go_enter Tryz.func42, Tryz.ntmps42
  go_wp2_with fail
  go_loopw [8] (fun v wr => ∃ j : Nat, j ≤ N ∧ v = .int .i64 j ∧ Hid (Below w.heap.size w wr) ∧ Hid (∀ k, k < j → p (qAt L k) = false)) (fun v _ => N - (intOf v).toNat)
  case atStart => exact ⟨0, Nat.zero_le _, rfl, Below.refl _ _, fun k hk => by omega⟩
  case round =>
    obtain ⟨j, hj, rfl, HK, HX⟩ := hrel
    by_cases hjn : j < N
    · have hd : decide ((j : Int) < (N : Int)) = true := decide_eq_true (by omega)
      have hjl : j < L.length := by have := HN.out; omega
      have hown : OwnQ wr (.slice a L.length c) L := own_keep HQ.out (fun g hg => by
        obtain ⟨cur, hc⟩ := own_block HQ.out hg
        exact HK.out.block g (Nm.lt_of_some hc))
      obtain ⟨b, c', e, eb, hc1, hc2, _, dd⟩ := own_q hown hjl
      simp only [Value.slice.injEq] at e
      obtain ⟨ea, _, ec⟩ := e
      subst ea
      have d0 := dd 0 (by omega)
      have d1 := dd 1 (by omega)
      have d2 := dd 2 (by omega)
      have d3 := dd 3 (by omega)
      rw [Nat.add_zero] at d0
      have hcb : N ≤ c ∧ c ≤ 9223372036854775807 := by have := HN.out; unfold maxLen at hc2; omega
      have HA := hide (fun W k => HPP.out W (qAt L j) k)
      obtain ⟨b1, hb1⟩ : ∃ b1, b1 = p (qAt L j) := ⟨_, rfl⟩
      have HB1 := hide hb1
      rw [← hb1] at HA
      generalize qAt L j = q at d0 d1 d2 d3 HA
      obtain ⟨id, nm, sent, again⟩ := q
      simp only [qC] at d0 d1 d2 d3 HA
      clear dd hown eb hc1 hc2 hb1 ec
      cases b1 with
      | true =>
        have HR2 : Hid (R = (j : Nat)) := by
          have hfe := fnd_eq hjl HB1.out.symm HX.out
          exact HR.out.trans (by unfold fndI; rw [hfe, if_pos hjl])
        go_wp2_with fail
        refine (HA.out _ HK.out).mono ?_
        rintro e w1 ⟨rfl, k1⟩
        have K1 := hide (HK.out.trans (k1.mono HK.out.size))
        clear k1
        go_wp2_with fail
        go_ret
        exact ⟨by rw [HR2.out]; rfl, K1.out⟩
      | false =>
        have HX2 : Hid (∀ k, k < j + 1 → p (qAt L k) = false) := fun k hk => by
          rcases Nat.lt_or_ge k j with h1 | h1
          · exact HX.out k h1
          · obtain rfl : k = j := by omega
            exact HB1.out.symm
        go_wp2_with fail
        refine (HA.out _ HK.out).mono ?_
        rintro e w1 ⟨rfl, k1⟩
        have K1 := hide (HK.out.trans (k1.mono HK.out.size))
        clear k1
        go_wp2_with fail
        go_roundw
        case rel => exact ⟨j + 1, by omega, by go_num, K1, HX2⟩
        case measure => simp [intOf]; omega
    · have hd : decide ((j : Int) < (N : Int)) = false := decide_eq_false (by omega)
      have HR2 : Hid (R = -1) := HR.out.trans (by unfold fndI; rw [fnd_none (fun k hk => HX.out k (by have := HN.out; omega)), if_neg (by omega)])
      go_wp2_with fail
      go_ret
      exact ⟨by rw [HR2.out]; rfl, HK.out⟩
theorem containsFunc_at (f : Nat) (rv : Value) (p : Qn → Bool) (v : Value) (L : List Qn) (w : World) (hq : OwnQ w v L) (hm : L.length ≤ 64)
    (hf : ∀ args w, (callFunc f args).run Tryz.prog w = .ok (.enter f args) w)
    (HP : ∀ (W : World) (q : Qn), Below w.heap.size w W → Calls Tryz.prog f #[rv, .agg (qC q).toArray] W fun e w' => e = .returned (.bool (p q)) ∧ Below W.heap.size W w') :
    Calls Tryz.prog 34 #[v, .func (.func f) #[rv] #[]] w fun e w' => e = .returned (.bool (decide (fnd p L < L.length))) ∧ Below w.heap.size w w' := by
  have HI := hide (indexFunc_at f rv p v L w hq hm hf HP)
  obtain ⟨a, c, rfl⟩ := own_shape hq
  have hle := fnd_le p L
  unfold fndI at HI
  by_cases h : fnd p L < L.length
  · rw [if_pos h] at HI
    rw [decide_eq_true h]
    obtain ⟨j, hj⟩ : ∃ j, j = fnd p L := ⟨_, rfl⟩
    rw [← hj] at HI
    have d : decide ((j : Int) ≥ 0) = true := by simp
    clear hq hf HP h hj hle
    go_enter Tryz.func34, Tryz.ntmps34
    go_wp2_with fail
    refine HI.out.mono ?_
    rintro e w1 ⟨rfl, k1⟩
    have K1 := hide k1
    clear k1
    go_wp2_with fail
    go_ret
    exact ⟨rfl, K1.out⟩
  · rw [if_neg h] at HI
    rw [decide_eq_false h]
    clear hq hf HP h hle
    go_enter Tryz.func34, Tryz.ntmps34
    go_wp2_with fail
    refine HI.out.mono ?_
    rintro e w1 ⟨rfl, k1⟩
    have K1 := hide k1
    clear k1
    go_wp2_with fail
    go_ret
    exact ⟨rfl, K1.out⟩

end Go.Proofs.YtabkelhipmijfaaGreatDoor

set_option linter.unusedSimpArgs false
set_option linter.unusedVariables false
namespace Go.Proofs.YtabkelhipmijfaaGreatDoor
open Go.RowKit
theorem adCs_get (l : List Ad) (i : Nat) (h : i < l.length) : (adCs l)[4 * i]? = some (.int .u8 ((l.getD i (0, 0, 0, 0)).1 : Nat)) ∧ (adCs l)[4 * i + 1]? = some (.int .u8 ((l.getD i (0, 0, 0, 0)).2.1 : Nat)) ∧ (adCs l)[4 * i + 2]? = some (.int .u8 ((l.getD i (0, 0, 0, 0)).2.2.1 : Nat)) ∧ (adCs l)[4 * i + 3]? = some (.int .u8 ((l.getD i (0, 0, 0, 0)).2.2.2 : Nat)) := by
  induction l generalizing i with
  | nil => simp at h
  | cons x r ih =>
    have e : adCs (x :: r) = .int .u8 (x.1 : Nat) :: .int .u8 (x.2.1 : Nat) :: .int .u8 (x.2.2.1 : Nat) :: .int .u8 (x.2.2.2 : Nat) :: adCs r := rfl
    rw [e]
    cases i with
    | zero => exact ⟨rfl, rfl, rfl, rfl⟩
    | succ i =>
      have := ih i (by simp at h; omega)
      rw [show 4 * (i + 1) = 4 * i + 1 + 1 + 1 + 1 by omega]
      simpa using this
theorem adCs_one (l : List Ad) : ∀ u ∈ adCs l, u.oneCell' = true := by
  intro u hu
  simp [adCs, adC] at hu
  obtain ⟨a, b, c, d, _, h⟩ := hu
  rcases h with rfl | rfl | rfl | rfl <;> rfl
def okA (l : List Ad) : Prop := ∀ a ∈ l, a.ok
/-- A slice of addresses wherever it lies. -/
structure SrcA (w : World) (a : Option Addr) (len cap : Nat) (l : List Ad) : Prop where
  hlen : l.length = len
  hcap : len ≤ cap
  hmax : cap ≤ maxLen
  nil : a = none → cap = 0
  lies : 0 < len → ∃ b o, a = some ⟨b, o, none⟩ ∧ b < w.heap.size ∧ ∀ j u, (adCs l)[j]? = some u → w.cell? ⟨b, o + j, none⟩ = some u
  byte : okA l
theorem SrcA.keep {w w' : World} {a : Option Addr} {len cap : Nat} {l : List Ad} (h : SrcA w a len cap l) (hk : 0 < len → ∀ b o, a = some ⟨b, o, none⟩ → w'.heap[b]? = w.heap[b]?) (hs : w.heap.size ≤ w'.heap.size) : SrcA w' a len cap l := by
  refine ⟨h.hlen, h.hcap, h.hmax, h.nil, fun h0 => ?_, h.byte⟩
  obtain ⟨b, o, e, hb, hc⟩ := h.lies h0
  exact ⟨b, o, e, by omega, fun j u hu => (World.cell?_of_block (hk h0 b o e)).trans (hc j u hu)⟩
theorem SrcA.lt {w : World} {a : Option Addr} {len cap : Nat} {l : List Ad} (h : SrcA w a len cap l) (h0 : 0 < len) {b o : Nat} (e : a = some ⟨b, o, none⟩) : b < w.heap.size := by
  obtain ⟨b', o', e', hb, hc⟩ := h.lies h0
  rw [e] at e'
  simp only [Option.some.injEq, Addr.mk.injEq, and_true] at e'
  omega
theorem SrcA.below {w w' : World} {a : Option Addr} {len cap : Nat} {l : List Ad} (h : SrcA w a len cap l) (k : Below w.heap.size w w') : SrcA w' a len cap l :=
  h.keep (fun h0 b o e => k.block b (h.lt h0 e)) k.size
theorem SrcA.nilS (w : World) : SrcA w none 0 0 [] := ⟨rfl, Nat.le_refl _, Nat.zero_le _, fun _ => rfl, fun h => by omega, by intro f hf; simp at hf⟩
theorem SrcA.at_ {w : World} {a : Option Addr} {len cap : Nat} {l : List Ad} (h : SrcA w a len cap l) {i : Nat} (hi : i < len) : ∃ b o, a = some ⟨b, o, none⟩ ∧ w.cell? ⟨b, o + 4 * i, none⟩ = some (.int .u8 ((l.getD i (0, 0, 0, 0)).1 : Nat)) ∧ w.cell? ⟨b, o + 4 * i + 1, none⟩ = some (.int .u8 ((l.getD i (0, 0, 0, 0)).2.1 : Nat)) ∧ w.cell? ⟨b, o + 4 * i + 2, none⟩ = some (.int .u8 ((l.getD i (0, 0, 0, 0)).2.2.1 : Nat)) ∧ w.cell? ⟨b, o + 4 * i + 3, none⟩ = some (.int .u8 ((l.getD i (0, 0, 0, 0)).2.2.2 : Nat)) := by
  obtain ⟨b, o, e, hb, hc⟩ := h.lies (by omega)
  obtain ⟨g1, g2, g3, g4⟩ := adCs_get l i (by rw [h.hlen]; exact hi)
  exact ⟨b, o, e, hc _ _ g1, by have := hc _ _ g2; rwa [← Nat.add_assoc] at this, by have := hc _ _ g3; rwa [← Nat.add_assoc] at this, by have := hc _ _ g4; rwa [← Nat.add_assoc] at this⟩
theorem OwnA.src {w : World} {B : Nat} {v : Value} {l : List Ad} (h : OwnA w B v l) (hb : okA l) : ∃ a cap, v = .slice a l.length cap ∧ SrcA w a l.length cap l ∧ (∀ b o, a = some ⟨b, o, none⟩ → B ≤ b) := by
  rcases h.2 with ⟨rfl, h0⟩ | ⟨g, cap, cur, rfl, hx, hh, hc, hm, hs, ht⟩
  · have : l = [] := List.length_eq_zero_iff.1 h0
    subst this
    exact ⟨none, 0, rfl, SrcA.nilS w, fun b o e => by cases e⟩
  · refine ⟨_, cap, rfl, ⟨rfl, hc, hm, (fun e => by cases e), fun _ => ⟨g, 0, rfl, lt_of_some hh, fun j u hu => ?_⟩, hb⟩, fun b o e => by cases e; exact hx⟩
    have hj := (List.getElem?_eq_some_iff.1 hu).1
    rw [adCs_len] at hj
    have : cur.toList[j]? = some u := by rw [← hu, ← ht, List.getElem?_take, if_pos (by omega)]
    rw [Nat.zero_add]
    simp only [World.cell?, hh]
    simpa using this
set_option maxRecDepth 100000 in
set_option maxHeartbeats 2000000 in
theorem same_addrs (w : World) (a b : Option Addr) (n c m d : Nat) (l : List Ad) (h1 : SrcA w a n c l) (h2 : SrcA w b m d l) : Calls Tryz.prog 12 #[.slice a n c, .slice b m d] w fun e w' => e = .returned (.bool true) ∧ Below w.heap.size w w' := by
  obtain rfl : m = n := by rw [← h2.hlen, ← h1.hlen]
  have H1 := hide h1
  have H2 := hide h2
  have hc1 := h1.hcap
  have hm1 := h1.hmax
  have hc2 := h2.hcap
  have hm2 := h2.hmax
  unfold maxLen at hm1 hm2
  clear h1 h2
  go_enter Tryz.func12, Tryz.ntmps12
  go_wp2_with fail
  go_loopw [5] (fun i wr => ∃ k : Nat, k ≤ m ∧ i = .int .i64 k ∧ Hid (Below w.heap.size w wr)) (fun i _ => m - (intOf i).toNat)
  case atStart => exact ⟨0, by omega, rfl, Below.refl _ _⟩
  case round =>
    obtain ⟨k, hk, rfl, HJ⟩ := hrel
    by_cases hkm : k < m
    · have hd : decide ((k : Int) < (m : Int)) = true := decide_eq_true (by omega)
      have s1 := H1.out.keep (w' := wr) (fun h0 b o e => HJ.out.block b (H1.out.lt h0 e)) HJ.out.size
      have s2 := H2.out.keep (w' := wr) (fun h0 b o e => HJ.out.block b (H2.out.lt h0 e)) HJ.out.size
      obtain ⟨xb, xo, rfl, e1, e2, e3, e4⟩ := s1.at_ hkm
      obtain ⟨yb, yo, rfl, f1, f2, f3, f4⟩ := s2.at_ hkm
      rw [Nat.mul_comm 4 k] at e1 e2 e3 e4 f1 f2 f3 f4
      generalize (l.getD k (0, 0, 0, 0)).1 = P1 at e1 f1
      generalize (l.getD k (0, 0, 0, 0)).2.1 = P2 at e2 f2
      generalize (l.getD k (0, 0, 0, 0)).2.2.1 = P3 at e3 f3
      generalize (l.getD k (0, 0, 0, 0)).2.2.2 = P4 at e4 f4
      clear s1 s2
      go_wp2_with fail
      go_region
      all_goals go_wp2_with fail
      go_roundw
      case rel => exact ⟨k + 1, by omega, by go_num, HJ.out.drew⟩
      case measure => simp [intOf]; omega
    · have hd : decide ((k : Int) < (m : Int)) = false := decide_eq_false (by omega)
      go_wp2_with fail
      go_ret
      exact ⟨rfl, HJ.out⟩
end Go.Proofs.YtabkelhipmijfaaGreatDoor
