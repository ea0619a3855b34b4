/-
  The reference's Directives, Age and Length, Length of package fields, texts compared; conditions as each theorem has them.
-/
import Derived.Test.YtffjhhacegnhmaaDoorRB
import Derived.Maps.AppendAt
set_option linter.unusedSimpArgs false
set_option linter.unusedVariables false
namespace Go.Proofs.YtffjhhacegnhmaaDoor
open Go.RowKit

theorem push_at {wr : World} {B : Nat} {v : Value} {ps : List (List Nat)} (x : ByteArray) (hown : Own wr B 9 v (strs ps)) (hlen : ps.length ≤ 4000000) (hB : B ≤ wr.heap.size) :
    ∃ v' w', (Builtin.append_ #[36, 36] 36 #[v, .slice (some ⟨wr.heap.size, 0, none⟩) 1 1]).run Tryd.prog (wr.alloc (.cells #[.string x] 9)) = .ok v' w' ∧ Own w' B 9 v' (strs (ps ++ [byt x])) ∧ Below B wr w' ∧ (∀ k, k < wr.heap.size → v.ownBlock ≠ some k → w'.heap[k]? = wr.heap[k]?) ∧ (v'.ownBlock = v.ownBlock ∨ v'.ownBlock = some (wr.heap.size + 1)) := by
  obtain ⟨i, hi, hz, hsz, hby⟩ := inf9
  have ho := hown.below ((Below.refl _ _).alloc (Nat.le_refl _) (.cells #[.string x] 9))
  obtain ⟨v', w', hr, ho', hg, _, hloc⟩ := run_append_own_at (P := Tryd.prog) (wr.alloc (.cells #[.string x] 9)) B 36 36 9 i (.string ⟨#[]⟩) 1 16 Tryd.underlying36 hi hz hsz hby rfl (by omega) v (strs ps).length (strs ps) ho ⟨wr.heap.size, 0, none⟩ 1 1 [.string x] rfl (cell_one_new _ _ _) (by simp [Value.oneCell']) (by rw [strs_length]; unfold maxLen; omega) (by rw [strs_length]; omega) (by simp; omega)
  refine ⟨v', w', hr, ?_, ((Below.refl B wr).alloc hB _).trans ((Below.refl B _).grown hg (by simp; omega) (fun k hk => (ho.block hk).1)), fun k hk hne => (hg.block k (by simp; omega) (fun e => hne e.symm)).trans (Below.heap_alloc _ _ _ hk), by simpa using hloc⟩
  have : strs (ps ++ [byt x]) = strs ps ++ [.string x] := by simp [strs, strN_byt]
  unfold Own
  rw [this, List.length_append]
  exact ho'
theorem gat_snocP {α : Type} (nm : List Nat) (rd : List Nat → Option α) (fs : List Fd) (k : Nat) (hk : k < fs.length) : gat nm rd (fs.take (k + 1)) = gat nm rd (fs.take k) ++ if low (fs.getD k ([], [])).1 = nm then (pts (fs.getD k ([], [])).2).filterMap rd else [] := by
  rw [ftake_snoc fs k hk, gat_app, gat_one, gat_pts nm]
theorem gat_lenP {α : Type} (nm : List Nat) (rd : List Nat → Option α) (fs : List Fd) (k : Nat) (h : Few fs) (hk : k < fs.length) (j : Nat) : (gat nm rd (fs.take k) ++ ((pts (fs.getD k ([], [])).2).take j).filterMap rd).length ≤ 4000000 := by
  have h1 := gat_len nm rd (fs.take k)
  have h2 := List.length_filterMap_le rd ((pts (fs.getD k ([], [])).2).take j)
  have h3 := pts_len (fs.getD k ([], [])).2
  have h4 := sum_take (fun f : Fd => f.2.length + 1) fs (k + 1)
  rw [ftake_snoc fs k hk, List.map_append, List.sum_append] at h4
  simp only [List.map_cons, List.map_nil, List.sum_cons, List.sum_nil] at h4
  have h5 := h.all
  have h6 : ((pts (fs.getD k ([], [])).2).take j).length ≤ (pts (fs.getD k ([], [])).2).length := by rw [List.length_take]; omega
  rw [List.length_append]
  omega
set_option maxRecDepth 100000 in
set_option maxHeartbeats 4000000 in
theorem rdirectives_at (a : Option Addr) (n c : Nat) (fs : List Fd) (w : World) (h : SrcF w a n c fs) (hfew : Few fs) :
    Calls Tryd.prog 20 #[.slice a n c] w fun e w' => ∃ v, e = .returned v ∧ Own w' w.heap.size 9 v (strs (dirs fs)) ∧ Below w.heap.size w w' := by
  have hcl := h.hcap
  have hmx := h.hmax
  unfold maxLen at hmx
  have H := hide h
  have HFEW := hide hfew
  obtain ⟨W0, hW0⟩ : ∃ W, W = w.alloc (.cells #[] 9) := ⟨_, rfl⟩
  have o0 : Own W0 w.heap.size 9 (.slice (some ⟨w.heap.size, 0, none⟩) 0 0) (strs []) := by rw [hW0]; exact own_nil9 w
  have b0 : Below w.heap.size w W0 := by rw [hW0]; exact (Below.refl _ _).alloc (Nat.le_refl _) _
  have HW0 := hide hW0.symm
  have O0 := hide o0
  have B0 := hide b0
  clear hW0 o0 b0 h hfew
  go_enter Tryd.func20, Tryd.ntmps20
  go_wp2_with fail
  rw [HW0.out]
  go_loopw [3, 4] (fun v vi wr => ∃ k : Nat, k ≤ n ∧ vi = .int .i64 k ∧ Hid (Own wr w.heap.size 9 v (strs (dirs (fs.take k))) ∧ Below w.heap.size w wr)) (fun _ i _ => n - (intOf i).toNat)
  case atStart => exact ⟨0, by omega, rfl, O0.out, B0.out⟩
  case round =>
    obtain ⟨k, hk, rfl, HI⟩ := hrel
    obtain ⟨j1, j3⟩ := HI.out
    by_cases hkn : k < n
    · have hdk : decide ((k : Int) < (n : Int)) = true := decide_eq_true (by omega)
      have s1 := H.out.below j3
      obtain ⟨b, o, rfl, c0, c1⟩ := s1.at_ hkn
      rw [Nat.mul_comm 2 k] at c0 c1
      have hkl : k < fs.length := by rw [H.out.hlen]; exact hkn
      have hmem : fs.getD k ([], []) ∈ fs := getD_mem hkl
      have hby := H.out.byte _ hmem
      have hfl := HFEW.out.name _ hmem
      have HSN := hide (gat_snocP ccS rdD fs k hkl)
      have HGL := hide (fun j => gat_lenP ccS rdD fs k HFEW.out hkl j)
      obtain ⟨fd, hf0⟩ : ∃ f, f = fs.getD k ([], []) := ⟨_, rfl⟩
      rw [← hf0] at c0 c1 hby hfl HSN HGL
      obtain ⟨p, q⟩ := fd
      simp only at c0 c1 hby hfl HSN HGL
      have HLP : Hid (∀ W, Calls Tryd.prog 21 #[.string (strN p)] W fun e w' => e = .returned (.string (strN (low p))) ∧ Below W.heap.size W w') := fun W => by
        have := lower_at (strN p) W (by rw [strN_size]; have := hfl.1; omega)
        rw [byt_strN p hby.1] at this; exact this
      have HPT : Hid (∀ W, Calls Tryd.prog 37 #[.string (strN q)] W fun e w' => ∃ v, e = .returned v ∧ Own w' W.heap.size 9 v (strs (pts q)) ∧ Below W.heap.size W w') := fun W => by
        have := rparts_at (strN q) W (by rw [strN_size]; exact hfl.2)
        rw [byt_strN q hby.2] at this; exact this
      have HPM : Hid (∀ x ∈ pts q, (∀ y ∈ x, y < 256) ∧ x.length ≤ 2000000) := fun x hx => ⟨fun y hy => hby.2 y ((pts_mem hx).1 y hy), by have := (pts_mem hx).2; have := hfl.2; omega⟩
      have HPL : Hid ((pts q).length ≤ 2000001) := by show _ ≤ _; have := pts_len q; have := hfl.2; omega
      have heq := toList_byt (strN (low p)) [99, 97, 99, 104, 101, 45, 99, 111, 110, 116, 114, 111, 108]
      rw [byt_strN _ (low_lt hby.1), show ([99, 97, 99, 104, 101, 45, 99, 111, 110, 116, 114, 111, 108] : List UInt8).map UInt8.toNat = ccS from rfl] at heq
      obtain ⟨P, hP⟩ : ∃ x, x = strN p := ⟨_, rfl⟩
      obtain ⟨R, hR⟩ : ∃ x, x = strN q := ⟨_, rfl⟩
      obtain ⟨LP, hLP⟩ : ∃ x, x = strN (low p) := ⟨_, rfl⟩
      rw [← hP] at c0 HLP
      rw [← hR] at c1 HPT
      rw [← hLP] at heq HLP
      have J1 := hide j1
      have J3 := hide j3
      clear hkl hmem hby hfl hf0 hP hR hLP s1 j1 j3 HI
      go_wp2_with fail
      refine (HLP.out _).mono ?_
      rintro e w2 ⟨rfl, k2⟩
      have e1 := (k2.cell (lt_of_cell c1)).trans c1
      have B2 := hide (J3.out.trans (k2.mono J3.out.size))
      have O2 := hide (J1.out.below k2)
      clear k2 c0 c1 HLP
      by_cases hc : low p = ccS
      · rw [decide_eq_true hc] at heq
        rw [if_pos hc] at HSN
        clear hc
        go_wp2_with fail
        refine (HPT.out _).mono ?_
        rintro e w3 ⟨v3, rfl, o3, k3⟩
        have B3 := hide (B2.out.trans (k3.mono B2.out.size))
        have O3 := hide (O2.out.below k3)
        obtain ⟨g, cap, rfl, hBg, hgl, hcc1, hcc2, hcell, _⟩ := o3.lies (by rw [strs_length]; exact pts_ne q)
        rw [strs_length] at hcc1 ⊢
        unfold maxLen at hcc2
        have HNG : Hid (u3.ownBlock ≠ some g) := fun e => by
          obtain ⟨_, cur, hcur⟩ := O2.out.block e
          have := lt_of_some hcur
          omega
        have HCE : Hid (∀ i, i < (pts q).length → w3.cell? ⟨g, i, none⟩ = some (.string (strN ((pts q).getD i [])))) := fun i hi => hcell i _ (strs_get (pts q) i hi)
        have hpl := HPL.out
        obtain ⟨ps, hps⟩ : ∃ ps, ps = pts q := ⟨_, rfl⟩
        rw [← hps] at HSN HGL HPM HCE hcc1 hpl ⊢
        obtain ⟨L, hL⟩ : ∃ L, L = ps.length := ⟨_, rfl⟩
        have HL := hide hL
        rw [← hL] at HCE hcc1 hpl ⊢
        clear k3 o3 hcell hps hL HPT e1 heq
        go_wp2_with fail
        go_loopw [3, 6] (fun v vi wr => ∃ j : Nat, j ≤ L ∧ vi = .int .i64 j ∧ Hid (Own wr w.heap.size 9 v (strs (dirs (fs.take k) ++ (ps.take j).filterMap rdD)) ∧ Below w.heap.size w wr ∧ (∀ i, i < L → wr.cell? ⟨g, i, none⟩ = some (.string (strN (ps.getD i [])))) ∧ v.ownBlock ≠ some g) ∧ g < wr.heap.size) (fun _ i _ => L - (intOf i).toNat)
        case atStart => exact ⟨0, by omega, rfl, ⟨by rw [List.take_zero, List.filterMap_nil, List.append_nil]; exact O3.out, B3.out, HCE.out, HNG.out⟩, hgl⟩
        case round =>
          clear hgl
          obtain ⟨j, hj, rfl, HJ, hgl⟩ := hrel
          obtain ⟨i1, i2, i3, i4⟩ := HJ.out
          by_cases hjL : j < L
          · have hdj : decide ((j : Int) < (L : Int)) = true := decide_eq_true (by omega)
            have hjl : j < ps.length := by rw [← HL.out]; exact hjL
            have d0 := i3 j hjL
            have hpm := HPM.out _ (getD_mem (d := ([] : List Nat)) hjl)
            have HLW : Hid (∀ W, Calls Tryd.prog 21 #[.string (strN (ps.getD j []))] W fun e w' => e = .returned (.string (strN (low (ps.getD j [])))) ∧ Below W.heap.size W w') := fun W => by
              have := lower_at (strN (ps.getD j [])) W (by rw [strN_size]; have := hpm.2; omega)
              rw [byt_strN _ hpm.1] at this; exact this
            have HNX : Hid ((ps.take (j + 1)).filterMap rdD = (ps.take j).filterMap rdD ++ [ps.getD j []].filterMap rdD) := by
              show _ = _
              rw [take_getD (d := []) hjl, List.filterMap_append]
            have hlen := HGL.out j
            have HBY : Hid (byt (strN (ps.getD j [])) = ps.getD j []) := byt_strN _ hpm.1
            have HBL : Hid (byt (strN (low (ps.getD j []))) = low (ps.getD j [])) := byt_strN _ (low_lt hpm.1)
            obtain ⟨y, hy⟩ : ∃ y, y = ps.getD j [] := ⟨_, rfl⟩
            rw [← hy] at d0 HLW HNX HBY HBL
            obtain ⟨Y, hY⟩ : ∃ x, x = strN y := ⟨_, rfl⟩
            obtain ⟨LY, hLY⟩ : ∃ x, x = strN (low y) := ⟨_, rfl⟩
            rw [← hY] at d0 HLW HBY
            rw [← hLY] at HLW HBL
            have I1 := hide i1
            have I2 := hide i2
            have I3 := hide i3
            have I4 := hide i4
            clear hjl hpm hy hY hLY i1 i2 i3 i4 HJ
            by_cases hy0 : y = []
            · obtain ⟨n1, n2⟩ := toList_nil Y (by rw [HBY.out]; exact hy0)
              have n3 : (Y.toList != []) = false := by rw [bne, n2]; rfl
              have HN0 : Hid ((ps.take (j + 1)).filterMap rdD = (ps.take j).filterMap rdD) := by
                show _ = _
                rw [HNX.out, List.filterMap_cons_none (by unfold rdD; rw [if_pos hy0]), List.filterMap_nil, List.append_nil]
              clear hy0 HNX HBY HBL
              go_wp2_with fail
              go_roundw
              case rel => exact ⟨j + 1, by omega, by go_num, ⟨by rw [HN0.out]; exact I1.out, I2.out, I3.out, I4.out⟩, hgl⟩
              case measure => simp [intOf]; omega
            · obtain ⟨n1, n2⟩ := toList_ne Y (by rw [HBY.out]; exact hy0)
              have n3 : (Y.toList != []) = true := by rw [bne, n2]; rfl
              have HN0 : Hid (dirs (fs.take k) ++ (ps.take (j + 1)).filterMap rdD = (dirs (fs.take k) ++ (ps.take j).filterMap rdD) ++ [byt LY]) := by
                show _ = _
                rw [HNX.out, List.filterMap_cons_some (by unfold rdD; rw [if_neg hy0]), List.filterMap_nil, List.append_assoc, HBL.out]
              clear hy0 HNX HBY HBL
              go_wp2_with fail
              refine (HLW.out _).mono ?_
              rintro e w5 ⟨rfl, k5⟩
              have B5 := hide (I2.out.trans (k5.mono I2.out.size))
              obtain ⟨v6, w6, hap, ho6, hb6, hk6, hl6⟩ := push_at LY (I1.out.below k5) hlen B5.out.size
              have HAP := hide hap
              rw [← HN0.out] at ho6
              have O6 := hide ho6
              have B6 := hide (B5.out.trans hb6)
              have hg5 : g < w5.heap.size := Nat.lt_of_lt_of_le hgl k5.size
              have C6 : Hid (∀ i, i < L → w6.cell? ⟨g, i, none⟩ = some (.string (strN (ps.getD i [])))) := fun i hi => (World.cell?_of_block (hk6 g hg5 I4.out)).trans ((k5.cell (p := ⟨g, i, none⟩) hgl).trans (I3.out i hi))
              have N6 : Hid (v6.ownBlock ≠ some g) := fun e => by
                rcases hl6 with h | h
                · exact I4.out (by rw [← h, e])
                · rw [e] at h; cases h; omega
              have hg6 : g < w6.heap.size := Nat.lt_of_lt_of_le hg5 hb6.size
              clear k5 hap ho6 hb6 hk6 hl6 HLW hg5
              go_wp2_with (refine wpList_app_run _ rfl _ _ 36 36 rfl _ _ rfl rfl HAP.out ?_)
              go_roundw
              case rel => exact ⟨j + 1, by omega, by go_num, ⟨O6.out, B6.out, C6.out, N6.out⟩, hg6⟩
              case measure => simp [intOf]; omega
          · have hdj : decide ((j : Int) < (L : Int)) = false := decide_eq_false (by omega)
            have HN0 : Hid (dirs (fs.take (k + 1)) = dirs (fs.take k) ++ (ps.take j).filterMap rdD) := by
              show gat ccS rdD (fs.take (k + 1)) = _
              have e : ps.take j = ps := List.take_of_length_le (by rw [← HL.out]; omega)
              rw [HSN.out, e]; rfl
            rw [← HN0.out] at i1
            have I1 := hide i1
            have I2 := hide i2
            clear i1 i2 i3 i4 HJ
            go_wp2_with fail
            go_roundw
            case rel => exact ⟨k + 1, by omega, by go_num, I1.out, I2.out⟩
            case measure => simp [intOf]; omega
      · rw [decide_eq_false hc] at heq
        rw [if_neg hc, List.append_nil] at HSN
        have HN0 : Hid (dirs (fs.take (k + 1)) = dirs (fs.take k)) := HSN.out
        clear hc e1
        go_wp2_with fail
        go_roundw
        case rel => exact ⟨k + 1, by omega, by go_num, by rw [HN0.out]; exact O2.out, B2.out⟩
        case measure => simp [intOf]; omega
    · have hdk : decide ((k : Int) < (n : Int)) = false := decide_eq_false (by omega)
      rw [List.take_of_length_le (by rw [H.out.hlen]; omega)] at j1
      have J1 := hide j1
      have J3 := hide j3
      clear j1 j3 HI
      go_wp2_with fail
      go_ret
      exact ⟨_, rfl, J1.out, J3.out⟩
end Go.Proofs.YtffjhhacegnhmaaDoor
