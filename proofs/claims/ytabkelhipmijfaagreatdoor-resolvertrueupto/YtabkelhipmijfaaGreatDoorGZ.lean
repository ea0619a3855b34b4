/-
  What was told, as a statement gathers it; comparing addresses; conditions as each theorem has them.
-/
import Derived.Test.YtabkelhipmijfaaGreatDoorGA
import Derived.Test.YtabkelhipmijfaaGreatDoorJoined11
import Derived.Test.YtabkelhipmijfaaGreatDoorGY
set_option linter.unusedSimpArgs false
set_option linter.unusedVariables false
namespace Go.Proofs.YtabkelhipmijfaaGreatDoor
open Go.RowKit

/-- Lists of addresses in memory of a statement's own. -/
structure IsTo (w : World) (D : Nat → Prop) (v : Value) (V : List Value) (T : List (List Ad)) : Prop where
  own : w.ownsRow 0 31 1 v T.length V
  blk : ∀ g, v.ownBlock = some g → D g
  each : ∀ (i : Nat) (l : List Ad) (u : Value), T[i]? = some l → V[i]? = some u → ∃ a c, u = .slice a l.length c ∧ SrcA w a l.length c l ∧ ∀ b o, 0 < l.length → a = some ⟨b, o, none⟩ → D b ∧ v.ownBlock ≠ some b
  lt : ∀ k, D k → k < w.heap.size
theorem IsTo.keep {w w' : World} {D : Nat → Prop} {v : Value} {V : List Value} {T : List (List Ad)} (h : IsTo w D v V T) (k : ∀ g, D g → w'.heap[g]? = w.heap[g]?) (hs : w.heap.size ≤ w'.heap.size) : IsTo w' D v V T := by
  refine ⟨own_keep h.own (fun g hg => k g (h.blk g hg)), h.blk, fun i l u hl hu => ?_, fun g hg => Nat.lt_of_lt_of_le (h.lt g hg) hs⟩
  obtain ⟨a, c, e, hsrc, hd⟩ := h.each i l u hl hu
  exact ⟨a, c, e, hsrc.keep (fun h0 b o e2 => k b (hd b o h0 e2).1) hs, hd⟩
theorem IsTo.below {w w' : World} {D : Nat → Prop} {v : Value} {V : List Value} {T : List (List Ad)} (h : IsTo w D v V T) (k : Below w.heap.size w w') : IsTo w' D v V T := h.keep (fun g hg => k.block g (h.lt g hg)) k.size
theorem IsTo.len {w : World} {D : Nat → Prop} {v : Value} {V : List Value} {T : List (List Ad)} (h : IsTo w D v V T) : V.length = T.length := by have := h.own.1; omega
theorem IsTo.new (w : World) : IsTo (w.alloc (.cells #[] 31)) (fun k => k = w.heap.size) (.slice (some ⟨w.heap.size, 0, none⟩) 0 0) [] [] :=
  ⟨⟨rfl, Or.inr ⟨w.heap.size, 0, #[], rfl, Nat.zero_le _, alloc_new _ _, Nat.le_refl _, Nat.zero_le _, rfl, rfl⟩⟩, fun g hg => by simp [Value.ownBlock] at hg; exact hg.symm, fun i l u hl => by simp at hl, fun k hk => by subst hk; simp⟩
/-- The i-th of them. -/
theorem IsTo.at_ {w : World} {D : Nat → Prop} {v : Value} {V : List Value} {T : List (List Ad)} (h : IsTo w D v V T) {i : Nat} (hi : i < T.length) : ∃ g c a ac, v = .slice (some ⟨g, 0, none⟩) T.length c ∧ T.length ≤ c ∧ c ≤ maxLen ∧ w.cell? ⟨g, i, none⟩ = some (.slice a (T.getD i []).length ac) ∧ SrcA w a (T.getD i []).length ac (T.getD i []) := by
  have hv := h.len
  rcases h.own.2 with ⟨_, h0⟩ | ⟨x, cap, cur, e, _, hh, hnc, hcm, hcs, ht⟩
  · have : T.length = 0 := h0
    omega
  · have hl : T[i]? = some (T.getD i []) := by simp [hi]
    have hu : V[i]? = some (V[i]'(by omega)) := List.getElem?_eq_getElem _
    obtain ⟨a, ac, e1, hs, _⟩ := h.each i _ _ hl hu
    refine ⟨x, cap, a, ac, e, hnc, hcm, ?_, hs⟩
    have hc := h.own.cells (g := x) (by rw [e]; rfl) i _ hu
    rw [Nm.add_none, Nat.zero_add] at hc
    rw [hc, e1]
theorem IsTo.shape {w : World} {D : Nat → Prop} {v : Value} {V : List Value} {T : List (List Ad)} (h : IsTo w D v V T) : ∃ a c, v = .slice a T.length c := own_shape h.own
/-- One more is told. -/
theorem IsTo.app {w : World} {D : Nat → Prop} {v : Value} {V : List Value} {T : List (List Ad)} (h : IsTo w D v V T) {a : Option Addr} {n c : Nat} {l : List Ad} (hs : SrcA w a n c l) (hlen : T.length + 1 ≤ 1000000000) (M : Nat) (hM : M ≤ w.heap.size) (ha : ∀ b o, 0 < n → a = some ⟨b, o, none⟩ → M ≤ b ∧ v.ownBlock ≠ some b) :
    ∃ v' w' V', (Builtin.append_ #[63, 63] 63 #[v, .slice (some ⟨w.heap.size, 0, none⟩) 1 1]).run Tryz.prog (w.alloc (.cells #[.slice a n c] 31)) = .ok v' w' ∧ IsTo w' (fun k => D k ∨ (M ≤ k ∧ k < w'.heap.size)) v' V' (T ++ [l]) ∧ KeptS (fun k => v.ownBlock = some k) w w' := by
  have hb : Below w.heap.size w (w.alloc (.cells #[.slice a n c] 31)) := (Below.refl _ _).alloc (Nat.le_refl _) _
  have h1 := h.below hb
  have hn := hs.hlen
  obtain ⟨v', w', hr, ho, hg, hv⟩ := app_gen (w := w.alloc (.cells #[.slice a n c] 31)) 63 31 (.slice none 0 0) 1 24 Tryz.underlying63 (info_parts (by kernel_rfl)) rfl (by omega) h1.own ⟨w.heap.size, 0, none⟩ 1 1 [.slice a n c] rfl
    (fun j u hu => by
      have hj := (List.getElem?_eq_some_iff.1 hu).1
      simp at hj
      subst hj
      rw [Nm.add_none]
      simp at hu
      rw [← hu]; simp) (by simp [Value.oneCell']) (by unfold maxLen; omega) (by omega) (by omega)
  have hsz : w.heap.size + 1 = (w.alloc (.cells #[.slice a n c] 31)).heap.size := by simp
  have hD : KeptS (fun k => v.ownBlock = some k) w w' := (KeptS.of_below hb).trans (T := fun k => v.ownBlock = some k) ⟨hg.os, hg.tape, hg.output, hg.size, fun k hk hd => hg.block k hk (fun e => hd e.symm)⟩ (fun _ => Or.inl)
  have hin : ∀ g, v.ownBlock ≠ some g → g < w.heap.size → w'.heap[g]? = w.heap[g]? := fun g hne hlt => (hg.block g (by omega) (fun e => hne e.symm)).trans (hb.block g hlt)
  refine ⟨v', w', V ++ [.slice a n c], hr, ⟨by rw [List.length_append]; exact ho, fun g hgv => ?_, fun i l' u hl hu => ?_, fun k hk => ?_⟩, hD⟩
  · rcases hv g hgv with e | e
    · exact Or.inl (h.blk g e)
    · exact Or.inr ⟨by omega, (ho.lt g hgv).2⟩
  · have hvl := h.len
    have hsz2 := hg.size
    by_cases hi : i < T.length
    · rw [List.getElem?_append_left hi] at hl
      rw [List.getElem?_append_left (by omega)] at hu
      obtain ⟨a', c', e, hsrc, hd⟩ := h.each i l' u hl hu
      refine ⟨a', c', e, hsrc.keep (fun h0 b o e2 => hin b (hd b o h0 e2).2 (h.lt b (hd b o h0 e2).1)) (by omega), fun b o h0 e2 => ⟨Or.inl (hd b o h0 e2).1, fun e3 => ?_⟩⟩
      rcases hv b e3 with e4 | e4
      · exact (hd b o h0 e2).2 e4
      · have := h.lt b (hd b o h0 e2).1; omega
    · have hi2 : i = T.length := by
        have := (List.getElem?_eq_some_iff.1 hl).1
        simp at this; omega
      subst hi2
      rw [List.getElem?_append_right (Nat.le_refl _), Nat.sub_self] at hl
      rw [List.getElem?_append_right (by omega), hvl, Nat.sub_self] at hu
      simp at hl hu
      subst hl hu
      refine ⟨a, c, by rw [hn], by rw [hn]; exact hs.keep (fun h0 b o e2 => hin b (ha b o h0 e2).2 (hs.lt h0 e2)) (by omega), fun b o h0 e2 => ?_⟩
      rw [hn] at h0
      have hlt := hs.lt h0 e2
      refine ⟨Or.inr ⟨(ha b o h0 e2).1, by omega⟩, fun e3 => ?_⟩
      rcases hv b e3 with e4 | e4
      · exact (ha b o h0 e2).2 e4
      · omega
  · rcases hk with hk | hk
    · have := h.lt k hk; have := hg.size; omega
    · exact hk.2
theorem ad_neq (p q : Ad) (h : p ≠ q) (w : World) : (binOp .neq 39 (.agg #[.int .u8 (p.1 : Nat), .int .u8 (p.2.1 : Nat), .int .u8 (p.2.2.1 : Nat), .int .u8 (p.2.2.2 : Nat)]) (.agg #[.int .u8 (q.1 : Nat), .int .u8 (q.2.1 : Nat), .int .u8 (q.2.2.1 : Nat), .int .u8 (q.2.2.2 : Nat)])).run Tryz.prog w = .ok (.bool true) w := by
  obtain ⟨a, b, c, d⟩ := p
  obtain ⟨e, f, g, i⟩ := q
  simp only [ne_eq, Prod.mk.injEq] at h ⊢
  by_cases h1 : a = e
  · subst h1
    by_cases h2 : b = f
    · subst h2
      by_cases h3 : c = g
      · subst h3
        have h4 : ((d : Int) == (i : Int)) = false := by simp; intro e; exact h ⟨rfl, rfl, rfl, by omega⟩
        go_simp
      · have h4 : ((c : Int) == (g : Int)) = false := by simp; omega
        go_simp
    · have h4 : ((b : Int) == (f : Int)) = false := by simp; omega
      go_simp
  · have h4 : ((a : Int) == (e : Int)) = false := by simp; omega
    go_simp
set_option maxRecDepth 100000 in
set_option maxHeartbeats 2000000 in
/-- base.SameAddrs of any two: some Boolean, true where they are equal. -/
theorem same_addrs_any (w : World) (a b : Option Addr) (n c m d : Nat) (l k : List Ad) (h1 : SrcA w a n c l) (h2 : SrcA w b m d k) : Calls Tryz.prog 12 #[.slice a n c, .slice b m d] w fun e w' => (∃ r, e = .returned (.bool r) ∧ (l = k → r = true)) ∧ Below w.heap.size w w' := by
  by_cases hlk : l = k
  · subst hlk
    exact (same_addrs w a b n c m d l h1 h2).mono fun e w' ⟨e1, e2⟩ => ⟨⟨true, e1, fun _ => rfl⟩, e2⟩
  · have HNE := hide hlk
    have hl1 := h1.hlen
    have hl2 := h2.hlen
    have H1 := hide h1
    have H2 := hide h2
    have hc1 := h1.hcap
    have hm1 := h1.hmax
    have hc2 := h2.hcap
    have hm2 := h2.hmax
    unfold maxLen at hm1 hm2
    clear h1 h2 hlk
    by_cases hnm : n = m
    · subst hnm
      have HL1 := hide hl1
      have HL2 := hide hl2
      clear hl1 hl2
      go_enter Tryz.func12, Tryz.ntmps12
      go_wp2_with fail
      go_loopw [5] (fun i wr => ∃ j : Nat, j ≤ n ∧ i = .int .i64 j ∧ Hid (Below w.heap.size w wr)) (fun i _ => n - (intOf i).toNat)
      case atStart => exact ⟨0, by omega, rfl, Below.refl _ _⟩
      case round =>
        obtain ⟨j, hj, rfl, HJ⟩ := hrel
        by_cases hjm : j < n
        · have hd : decide ((j : Int) < (n : Int)) = true := decide_eq_true (by omega)
          have s1 := H1.out.keep (w' := wr) (fun h0 b o e => HJ.out.block b (H1.out.lt h0 e)) HJ.out.size
          have s2 := H2.out.keep (w' := wr) (fun h0 b o e => HJ.out.block b (H2.out.lt h0 e)) HJ.out.size
          obtain ⟨xb, xo, rfl, e1, e2, e3, e4⟩ := s1.at_ hjm
          obtain ⟨yb, yo, rfl, f1, f2, f3, f4⟩ := s2.at_ hjm
          rw [Nat.mul_comm 4 j] at e1 e2 e3 e4 f1 f2 f3 f4
          clear s1 s2
          obtain ⟨p, hp⟩ : ∃ p, p = l.getD j (0, 0, 0, 0) := ⟨_, rfl⟩
          obtain ⟨q, hq⟩ : ∃ q, q = k.getD j (0, 0, 0, 0) := ⟨_, rfl⟩
          rw [← hp] at e1 e2 e3 e4
          rw [← hq] at f1 f2 f3 f4
          clear hp hq
          by_cases hpq : p = q
          · subst hpq
            generalize p.1 = P1 at e1 f1
            generalize p.2.1 = P2 at e2 f2
            generalize p.2.2.1 = P3 at e3 f3
            generalize p.2.2.2 = P4 at e4 f4
            go_wp2_with fail
            go_region
            all_goals go_wp2_with fail
            go_roundw
            case rel => exact ⟨j + 1, by omega, by go_num, HJ.out.drew⟩
            case measure => simp [intOf]; omega
          · have hne := fun w => ad_neq p q hpq w
            generalize p.1 = P1 at e1 hne
            generalize p.2.1 = P2 at e2 hne
            generalize p.2.2.1 = P3 at e3 hne
            generalize p.2.2.2 = P4 at e4 hne
            generalize q.1 = Q1 at f1 hne
            generalize q.2.1 = Q2 at f2 hne
            generalize q.2.2.1 = Q3 at f3 hne
            generalize q.2.2.2 = Q4 at f4 hne
            clear hpq
            go_wp2_with fail
            go_region
            all_goals
              go_wp2_with fail
              go_ret
              exact ⟨⟨false, rfl, fun e => absurd e HNE.out⟩, HJ.out.drew⟩
        · have hd : decide ((j : Int) < (n : Int)) = false := decide_eq_false (by omega)
          go_wp2_with fail
          go_ret
          exact ⟨⟨true, rfl, fun _ => rfl⟩, HJ.out⟩
    · have hn0 : ((n : Int) != (m : Int)) = true := by simp; omega
      go_enter Tryz.func12, Tryz.ntmps12
      go_wp2_with fail
      go_ret
      exact ⟨⟨false, rfl, fun e => absurd e HNE.out⟩, Below.refl _ _⟩
end Go.Proofs.YtabkelhipmijfaaGreatDoor
