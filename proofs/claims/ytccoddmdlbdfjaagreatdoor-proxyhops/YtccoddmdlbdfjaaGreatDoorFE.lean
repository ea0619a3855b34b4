/-
  hopNames of package fields: a set of names; conditions as each theorem has them.
-/
import Derived.Test.YtccoddmdlbdfjaaGreatDoorFC
import Derived.Maps.OwnSet
import Derived.Maps.OwnOps
import Derived.Shelf.Abstract
set_option linter.unusedSimpArgs false
set_option linter.unusedVariables false
namespace Go.Proofs.YtccoddmdlbdfjaaGreatDoor
open Go.RowKit Go.Maps

def keyL (l : List Nat) : Lit := .string (l.map UInt8.ofNat)
theorem keyL_byt (s : ByteArray) : Lit.string s.data.toList = keyL (byt s) := by
  unfold keyL byt
  rw [List.map_map]
  congr 1
  conv => lhs; rw [← List.map_id s.data.toList]
  apply List.map_congr_left
  intro a _
  simp
theorem keyL_inj {a b : List Nat} (ha : ∀ x ∈ a, x < 256) (hb : ∀ x ∈ b, x < 256) (h : keyL a = keyL b) : a = b := by
  unfold keyL at h
  have h2 := congrArg (fun l => l.map UInt8.toNat) (Lit.string.inj h)
  simp only [List.map_map] at h2
  have e : ∀ (l : List Nat), (∀ x ∈ l, x < 256) → l.map (UInt8.toNat ∘ UInt8.ofNat) = l := fun l hl => by
    conv => rhs; rw [← List.map_id l]
    apply List.map_congr_left
    intro x hx
    have := hl x hx
    simp [Nat.mod_eq_of_lt this]
  rw [e a ha, e b hb] at h2
  exact h2
theorem law9 : Keyed Tryz.prog 9 := string_keyed Tryz.underlying9
theorem zeroU (w : World) : (zeroValue 160).run Tryz.prog w = .ok (.agg #[]) w := by kernel_rfl
/-- Block b is a set of these names. -/
structure IsSet (w : World) (b m : Nat) (ks : List (List Nat)) : Prop where
  own : w.ownsMap Tryz.prog 9 (unitElem (H := Unit)) b m (setOf (.agg []) (ks.map keyL))
  byte : ∀ k ∈ ks, ∀ x ∈ k, x < 256
theorem IsSet.put {w : World} {b m : Nat} {ks : List (List Nat)} (h : IsSet w b m ks) (hm : m ≤ 6000000) (s : ByteArray) (hs : s.size ≤ maxLen) :
    ∃ w', (Instr.mapUpdate 158 (.map (some b)) (.string s) (.agg #[])).run Tryz.prog w = .ok () w' ∧ IsSet w' b (m + 1) (ks ++ [byt s]) ∧ Below b w w' ∧ w.grownBy w' (some b) := by
  have hlt := h.own.lt
  obtain ⟨w', hrun, ho, hg⟩ := h.own.update law9 Tryz.underlying158 (by unfold maxLen; omega) (WideMaps.keyOf_string_mk Tryz.underlying9 hs) (unitElem_mk (H := Unit))
  refine ⟨w', hrun, ⟨?_, fun k hk => ?_⟩, (Below.refl b w).grown hg (by omega) (fun j hj => by cases hj; exact Nat.le_refl _), hg⟩
  · rw [List.map_append, List.map_cons, List.map_nil, setOf_snoc, ← keyL_byt]
    exact ho
  · rcases List.mem_append.1 hk with hk | hk
    · exact h.byte k hk
    · rw [List.mem_singleton.1 hk]; exact byt_lt s
theorem IsSet.look {w : World} {b m : Nat} {ks : List (List Nat)} (h : IsSet w b m ks) (s : ByteArray) (hs : s.size ≤ maxLen) :
    (Instr.lookup 158 (.map (some b)) (.string s) true).run Tryz.prog w = .ok (.tuple #[.agg #[], .bool (ks.contains (byt s))]) w := by
  obtain ⟨v, ps, hrun, hv⟩ := h.own.look_ok law9 Tryz.underlying158 (zeroU w) (unitElem_mk (H := Unit)) (WideMaps.keyOf_string_mk Tryz.underlying9 hs)
  obtain ⟨rfl, _⟩ := unitElem_inv hv
  have e : Maps.has (setOf (H := Unit) (.agg []) (ks.map keyL)) (.string s.data.toList) = ks.contains (byt s) := by
    rw [has_setOf _ _ _ (fun x hx => by obtain ⟨y, _, rfl⟩ := List.mem_map.1 hx; trivial), keyL_byt]
    rw [Bool.eq_iff_iff, List.any_eq_true, List.contains_iff_mem]
    constructor
    · rintro ⟨x, hx, hsk⟩
      obtain ⟨y, hy, rfl⟩ := List.mem_map.1 hx
      have := (WideAt.sameKey_iff (show WideAt.IsKeyLit (keyL (byt s)) from trivial)).1 hsk
      rw [← keyL_inj (h.byte y hy) (byt_lt s) this]; exact hy
    · intro hm
      exact ⟨_, List.mem_map.2 ⟨_, hm, rfl⟩, (WideAt.sameKey_iff (show WideAt.IsKeyLit (keyL (byt s)) from trivial)).2 rfl⟩
  rw [e] at hrun
  exact hrun
theorem IsSet.below {w w' : World} {b m : Nat} {ks : List (List Nat)} (h : IsSet w b m ks) (k : Below w.heap.size w w') : IsSet w' b m ks := by
  refine ⟨?_, h.byte⟩
  obtain ⟨es, clock, hb, F, hs, e⟩ := h.own
  exact ⟨es, clock, (k.block b (lt_of_some hb)).trans hb, F, hs, e⟩
theorem rdN_lt {p q : List Nat} (hp : ∀ x ∈ p, x < 256) (h : rdN p = some q) : ∀ x ∈ q, x < 256 := by
  unfold rdN at h
  split at h
  · cases h; exact low_lt hp
  · cases h
theorem rdN_len {p q : List Nat} (h : rdN p = some q) : q.length ≤ 64 := by
  unfold rdN at h
  split at h
  · rename_i ht
    cases h
    rw [low_length]
    exact (tok_parts ht).2.1
  · cases h
theorem gat_mem {α : Type} (nm : List Nat) (rd : List Nat → Option α) : ∀ (fs : List Fd), ∀ k ∈ gat nm rd fs, ∃ p, rd p = some k
  | [], k, hk => by simp [gat] at hk
  | f :: r, k, hk => by
    rw [gat, List.mem_append] at hk
    rcases hk with hk | hk
    · split at hk
      · obtain ⟨p, hp, hq⟩ := List.mem_filterMap.1 hk
        exact ⟨_, hq⟩
      · simp at hk
    · exact gat_mem nm rd r k hk
theorem gat_lt (nm : List Nat) (rd : List Nat → Option (List Nat)) (hrd : ∀ p q, (∀ x ∈ p, x < 256) → rd p = some q → ∀ x ∈ q, x < 256) : ∀ (fs : List Fd), okB fs → ∀ k ∈ gat nm rd fs, ∀ x ∈ k, x < 256
  | [], _, k, hk => by simp [gat] at hk
  | f :: r, h, k, hk => by
    rw [gat, List.mem_append] at hk
    rcases hk with hk | hk
    · split at hk
      · obtain ⟨p, hp, hq⟩ := List.mem_filterMap.1 hk
        exact hrd _ k (fun x hx => (h f List.mem_cons_self).2 x (cms_sub f.2 p hp x (trim_mem hx))) hq
      · simp at hk
    · exact gat_lt nm rd hrd r (fun g hg => h g (List.mem_cons_of_mem _ hg)) k hk
theorem enters_readName : ∀ (args : Array Value) (w : World), (callFunc 139 args).run Tryz.prog w = .ok (.enter 139 args) w := Go.Proofs.enters_of Tryz.func139 (by kernel_rfl) rfl
/-- The names that are always there. -/
theorem fill9 (w : World) : ∃ w1 w2 w3 w4 w5 w6 w7 w8 w9 : World,
    (Instr.mapUpdate 158 (.map (some w.heap.size)) (.string ⟨#[99, 111, 110, 110, 101, 99, 116, 105, 111, 110]⟩) (.agg #[])).run Tryz.prog (w.alloc (.map #[] 0)) = .ok () w1 ∧
    (Instr.mapUpdate 158 (.map (some w.heap.size)) (.string ⟨#[107, 101, 101, 112, 45, 97, 108, 105, 118, 101]⟩) (.agg #[])).run Tryz.prog w1 = .ok () w2 ∧
    (Instr.mapUpdate 158 (.map (some w.heap.size)) (.string ⟨#[112, 114, 111, 120, 121, 45, 97, 117, 116, 104, 101, 110, 116, 105, 99, 97, 116, 101]⟩) (.agg #[])).run Tryz.prog w2 = .ok () w3 ∧
    (Instr.mapUpdate 158 (.map (some w.heap.size)) (.string ⟨#[112, 114, 111, 120, 121, 45, 97, 117, 116, 104, 111, 114, 105, 122, 97, 116, 105, 111, 110]⟩) (.agg #[])).run Tryz.prog w3 = .ok () w4 ∧
    (Instr.mapUpdate 158 (.map (some w.heap.size)) (.string ⟨#[112, 114, 111, 120, 121, 45, 99, 111, 110, 110, 101, 99, 116, 105, 111, 110]⟩) (.agg #[])).run Tryz.prog w4 = .ok () w5 ∧
    (Instr.mapUpdate 158 (.map (some w.heap.size)) (.string ⟨#[116, 101]⟩) (.agg #[])).run Tryz.prog w5 = .ok () w6 ∧
    (Instr.mapUpdate 158 (.map (some w.heap.size)) (.string ⟨#[116, 114, 97, 105, 108, 101, 114]⟩) (.agg #[])).run Tryz.prog w6 = .ok () w7 ∧
    (Instr.mapUpdate 158 (.map (some w.heap.size)) (.string ⟨#[116, 114, 97, 110, 115, 102, 101, 114, 45, 101, 110, 99, 111, 100, 105, 110, 103]⟩) (.agg #[])).run Tryz.prog w7 = .ok () w8 ∧
    (Instr.mapUpdate 158 (.map (some w.heap.size)) (.string ⟨#[117, 112, 103, 114, 97, 100, 101]⟩) (.agg #[])).run Tryz.prog w8 = .ok () w9 ∧
    IsSet w9 w.heap.size 9 fixN ∧ Below w.heap.size w w9 := by
  have s0 : IsSet (w.alloc (.map #[] 0)) w.heap.size 0 [] := ⟨World.ownsMap_made _ _ _ _, fun k hk => by simp at hk⟩
  have b0 : Below w.heap.size w (w.alloc (.map #[] 0)) := (Below.refl _ _).alloc (Nat.le_refl _) _
  obtain ⟨w1, r1, s1, b1, _⟩ := s0.put (by omega) ⟨#[99, 111, 110, 110, 101, 99, 116, 105, 111, 110]⟩ (by decide)
  obtain ⟨w2, r2, s2, b2, _⟩ := s1.put (by omega) ⟨#[107, 101, 101, 112, 45, 97, 108, 105, 118, 101]⟩ (by decide)
  obtain ⟨w3, r3, s3, b3, _⟩ := s2.put (by omega) ⟨#[112, 114, 111, 120, 121, 45, 97, 117, 116, 104, 101, 110, 116, 105, 99, 97, 116, 101]⟩ (by decide)
  obtain ⟨w4, r4, s4, b4, _⟩ := s3.put (by omega) ⟨#[112, 114, 111, 120, 121, 45, 97, 117, 116, 104, 111, 114, 105, 122, 97, 116, 105, 111, 110]⟩ (by decide)
  obtain ⟨w5, r5, s5, b5, _⟩ := s4.put (by omega) ⟨#[112, 114, 111, 120, 121, 45, 99, 111, 110, 110, 101, 99, 116, 105, 111, 110]⟩ (by decide)
  obtain ⟨w6, r6, s6, b6, _⟩ := s5.put (by omega) ⟨#[116, 101]⟩ (by decide)
  obtain ⟨w7, r7, s7, b7, _⟩ := s6.put (by omega) ⟨#[116, 114, 97, 105, 108, 101, 114]⟩ (by decide)
  obtain ⟨w8, r8, s8, b8, _⟩ := s7.put (by omega) ⟨#[116, 114, 97, 110, 115, 102, 101, 114, 45, 101, 110, 99, 111, 100, 105, 110, 103]⟩ (by decide)
  obtain ⟨w9, r9, s9, b9, _⟩ := s8.put (by omega) ⟨#[117, 112, 103, 114, 97, 100, 101]⟩ (by decide)
  exact ⟨w1, w2, w3, w4, w5, w6, w7, w8, w9, r1, r2, r3, r4, r5, r6, r7, r8, r9, s9, ((((((((b0.trans b1).trans b2).trans b3).trans b4).trans b5).trans b6).trans b7).trans b8).trans b9⟩
set_option maxRecDepth 100000 in
set_option maxHeartbeats 8000000 in
theorem hopNames_at (a : Option Addr) (n c : Nat) (fs : List Fd) (w : World) (hV : Vars w) (h : SrcF w a n c fs) (hfew : Few fs) :
    Calls Tryz.prog 98 #[.slice a n c] w fun e w' => ∃ b m, e = .returned (.map (some b)) ∧ IsSet w' b m (hopN fs) ∧ Below w.heap.size w w' := by
  have hmm := @run_makeMap Tryz.prog
  obtain ⟨w1, w2, w3, w4, w5, w6, w7, w8, w9, r1, r2, r3, r4, r5, r6, r7, r8, r9, s9, b9⟩ := fill9 w
  have S9 := hide s9
  have B9 := hide b9
  have HC := hide (cutS_at rdN 139 enters_readName (fun t W ht => readName_at t W (by omega)) a n c fs ⟨#[99, 111, 110, 110, 101, 99, 116, 105, 111, 110]⟩ w9 (hV.below b9) (h.below b9) hfew)
  have HGL := hide (gat_lt cnS rdN (fun p q hp hq => rdN_lt hp hq) fs h.byte)
  have HGS64 : Hid (∀ k ∈ gat cnS rdN fs, k.length ≤ 64) := fun k hk => by obtain ⟨p, hp⟩ := gat_mem cnS rdN fs k hk; exact rdN_len hp
  have HLEN : Hid ((gat cnS rdN fs).length ≤ 4000000) := Nat.le_trans (gat_len cnS rdN fs) hfew.all
  obtain ⟨N, hN⟩ : ∃ N, N = w.heap.size := ⟨_, rfl⟩
  rw [show byt (⟨#[99, 111, 110, 110, 101, 99, 116, 105, 111, 110]⟩ : ByteArray) = cnS from rfl] at HC
  clear s9 b9 hV h hfew hN
  go_enter Tryz.func98, Tryz.ntmps98
  go_wp2_with fail
  refine HC.out.mono ?_
  rintro e w10 ⟨v, rfl, ho, hb⟩
  have S10 := hide (S9.out.below hb)
  have B10 := hide (B9.out.trans (hb.mono B9.out.size))
  have O10 := hide ho
  have hs9 := S9.out.own.lt
  have hsz : w.heap.size < w10.heap.size := by
    have := S10.out.own.lt
    exact this
  clear hb ho HC r1 r2 r3 r4 r5 r6 r7 r8 r9
  obtain ⟨gs, hgs⟩ : ∃ gs, gs = gat cnS rdN fs := ⟨_, rfl⟩
  have HGS : Hid (hopN fs = fixN ++ gs) := by show _ = _; rw [hgs]; rfl
  rw [← hgs] at O10 HGL HLEN HGS64
  clear hgs
  by_cases h0 : gs = []
  · subst h0
    have hv : v = .slice none 0 0 ∨ ∃ g cap, v = .slice (some ⟨g, 0, none⟩) 0 cap := by
      rcases O10.out.2 with ⟨rfl, _⟩ | ⟨x, cap, cur, rfl, _⟩
      · exact Or.inl rfl
      · exact Or.inr ⟨x, cap, rfl⟩
    rcases hv with rfl | ⟨g, cap, rfl⟩
    all_goals
      go_wp2_with fail
      refine wp_loop_rounds 1 ?_
      rw [rounds_succ]
      go_wp2_with fail
      go_ret
      exact ⟨_, 9, rfl, by rw [HGS.out, List.append_nil]; exact S10.out, B10.out⟩
  · have hpos : 0 < (strs gs).length := by rw [strs_length]; exact List.length_pos_iff.2 h0
    obtain ⟨g, cap, rfl, hBg, hg, hc1, hc2, hcell, hfr⟩ := O10.out.lies hpos
    rw [strs_length] at hpos hc1 ⊢
    have HCE := hide hcell
    unfold maxLen at hc2
    have hlen := HLEN.out
    obtain ⟨L, hL⟩ : ∃ L, L = gs.length := ⟨_, rfl⟩
    have HL := hide hL
    rw [← hL] at hpos hc1 hlen ⊢
    clear hcell hfr hL h0
    go_wp2_with fail
    go_loopw [20] (fun i wr => ∃ k : Nat, k ≤ L ∧ i = .int .i64 k ∧ Hid (IsSet wr w.heap.size (9 + k) (fixN ++ gs.take k) ∧ Below w.heap.size w wr ∧ (∀ j, j < L → wr.cell? ⟨g, j, none⟩ = some (.string (strN (gs.getD j []))))) ∧ g < wr.heap.size) (fun i _ => L - (intOf i).toNat)
    case atStart =>
      refine ⟨0, by omega, rfl, ⟨by rw [List.take_zero, List.append_nil]; exact S10.out, B10.out, fun j hj => HCE.out j _ (strs_get gs j (by rw [← HL.out]; exact hj))⟩, hg⟩
    case round =>
      obtain ⟨k, hk, rfl, HI, hgr⟩ := hrel
      obtain ⟨i1, i2, i3⟩ := HI.out
      by_cases hkL : k < L
      · have hdk : decide ((k : Int) < (L : Int)) = true := decide_eq_true (by omega)
        have hkl : k < gs.length := by rw [← HL.out]; exact hkL
        have c0 := i3 k hkL
        have hbk := HGL.out _ (getD_mem (d := ([] : List Nat)) hkl)
        have hsz : (strN (gs.getD k [])).size ≤ maxLen := by
          rw [strN_size]
          have := HGS64.out _ (getD_mem (d := ([] : List Nat)) hkl)
          unfold maxLen
          omega
        obtain ⟨w', hrun, hs', hb', hgw⟩ := i1.put (by omega) (strN (gs.getD k [])) hsz
        rw [byt_strN _ hbk, List.append_assoc, show gs.take k ++ [gs.getD k []] = gs.take (k + 1) from (take_getD hkl).symm] at hs'
        have HS := hide hs'
        have HB := hide (i2.trans hb')
        have HC2 : Hid (∀ j, j < L → w'.cell? ⟨g, j, none⟩ = some (.string (strN (gs.getD j [])))) := fun j hj => (World.cell?_of_block (hgw.block g hgr (fun e => by cases e; omega))).trans (i3 j hj)
        have hgr2 : g < w'.heap.size := Nat.lt_of_lt_of_le hgr hgw.size
        obtain ⟨X, hX⟩ : ∃ X, X = strN (gs.getD k []) := ⟨_, rfl⟩
        rw [← hX] at c0 hrun
        clear hkl hbk hsz hs' hb' hgw hX i1 i2 i3 HI
        go_wp2_with fail
        go_roundw
        case rel => exact ⟨k + 1, by omega, by go_num, ⟨HS.out, HB.out, HC2.out⟩, hgr2⟩
        case measure => simp [intOf]; omega
      · have hdk : decide ((k : Int) < (L : Int)) = false := decide_eq_false (by omega)
        have HF : Hid (gs.take k = gs) := by show _ = _; exact List.take_of_length_le (by rw [← HL.out]; omega)
        have I1 := hide i1
        have I2 := hide i2
        clear i1 i2 i3 HI
        go_wp2_with fail
        go_ret
        exact ⟨_, _, rfl, by rw [HGS.out, ← HF.out]; exact I1.out, I2.out⟩
end Go.Proofs.YtccoddmdlbdfjaaGreatDoor
