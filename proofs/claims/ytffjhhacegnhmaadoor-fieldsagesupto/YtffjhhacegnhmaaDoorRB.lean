/-
  The reference's hop and Some; conditions as each theorem has them.
-/
import Derived.Test.YtffjhhacegnhmaaDoorRA
set_option linter.unusedSimpArgs false
set_option linter.unusedVariables false
namespace Go.Proofs.YtffjhhacegnhmaaDoor
open Go.RowKit

theorem fixN_lt : ∀ k ∈ fixN, ∀ x ∈ k, x < 256 := by decide
theorem fixN_len : fixN.length = 9 := rfl
theorem pts_ne (l : List Nat) : 0 < (pts l).length := by
  unfold pts
  rw [List.length_map]
  exact List.length_pos_iff.2 (cms_ne l)
theorem pts_len (l : List Nat) : (pts l).length ≤ l.length + 1 := by
  unfold pts
  rw [List.length_map]
  exact cms_len l
theorem pts_mem {l p : List Nat} (h : p ∈ pts l) : (∀ x ∈ p, x ∈ l) ∧ p.length ≤ l.length := by
  unfold pts at h
  obtain ⟨q, hq, rfl⟩ := List.mem_map.1 h
  refine ⟨fun x hx => cms_sub l q hq x (trim_mem hx), ?_⟩
  have h1 := trim_len q
  have h2 : ∀ (l : List Nat), ∀ q ∈ cms l, q.length ≤ l.length := by
    intro l
    induction l with
    | nil => intro q hq; simp [cms] at hq; subst hq; simp
    | cons c r ih =>
      intro q hq
      have hne := cms_ne r
      unfold cms at hq
      split at hq
      · rcases List.mem_cons.1 hq with rfl | hq
        · simp
        · have := ih q hq; simp; omega
      · cases hr : cms r with
        | nil => exact absurd hr hne
        | cons u us =>
          rw [hr] at hq ih
          simp only [List.headD_cons, List.tail_cons] at hq
          rcases List.mem_cons.1 hq with rfl | hq
          · have := ih u List.mem_cons_self; simp; omega
          · have := ih q (List.mem_cons_of_mem _ hq); simp; omega
  have := h2 l q hq
  omega
theorem gat_pts {α : Type} (nm : List Nat) (rd : List Nat → Option α) (f : Fd) : (cms f.2).filterMap (fun p => rd (trim p)) = (pts f.2).filterMap rd := by
  unfold pts; rw [List.filterMap_map]; rfl
theorem cont_app (a b : List (List Nat)) (x : List Nat) : (a ++ b).contains x = (a.contains x || b.contains x) := by
  simp [List.contains_eq_mem, List.mem_append, Bool.decide_or]
theorem cont_no {a : List (List Nat)} {x : List Nat} : a.contains x = false ↔ x ∉ a := by simp [List.contains_eq_mem]
theorem cont_yes {a : List (List Nat)} {x : List Nat} : a.contains x = true ↔ x ∈ a := by simp [List.contains_eq_mem]
set_option maxRecDepth 100000 in
set_option maxHeartbeats 8000000 in
theorem rhop_at (a : Option Addr) (n c : Nat) (fs : List Fd) (nm : ByteArray) (w : World) (h : SrcF w a n c fs) (hfew : Few fs) (hm : nm.size ≤ 2000000) :
    Calls Tryd.prog 25 #[.slice a n c, .string nm] w fun e w' => e = .returned (.bool (hopB fs (byt nm))) ∧ Below w.heap.size w w' := by
  have HLN : Hid (∀ W, Calls Tryd.prog 21 #[.string nm] W fun e w' => e = .returned (.string (strN (low (byt nm)))) ∧ Below W.heap.size W w') := fun W => lower_at nm W (by omega)
  have hlm := low_lt (byt_lt nm)
  have HHB : Hid (hopB fs (byt nm) = (fixN.contains (low (byt nm)) || (gat cnS rdN fs).contains (low (byt nm)))) := by
    show _ = _
    unfold hopB hopN
    rw [cont_app]
  obtain ⟨m, hmm⟩ : ∃ m, m = low (byt nm) := ⟨_, rfl⟩
  rw [← hmm] at HLN HHB hlm
  obtain ⟨LN, hLN⟩ : ∃ x, x = strN m := ⟨_, rfl⟩
  rw [← hLN] at HLN
  have HM := hide hlm
  have HLNN := hide hLN
  have hcl := h.hcap
  have hmx := h.hmax
  unfold maxLen at hmx
  have H := hide h
  have HFEW := hide hfew
  obtain ⟨FX, hFX⟩ : ∃ G, G = w.heap.size := ⟨_, rfl⟩
  obtain ⟨W0, hW0⟩ : ∃ W, W = w.alloc (.cells #[.string ⟨#[99, 111, 110, 110, 101, 99, 116, 105, 111, 110]⟩, .string ⟨#[107, 101, 101, 112, 45, 97, 108, 105, 118, 101]⟩, .string ⟨#[112, 114, 111, 120, 121, 45, 97, 117, 116, 104, 101, 110, 116, 105, 99, 97, 116, 101]⟩, .string ⟨#[112, 114, 111, 120, 121, 45, 97, 117, 116, 104, 111, 114, 105, 122, 97, 116, 105, 111, 110]⟩, .string ⟨#[112, 114, 111, 120, 121, 45, 99, 111, 110, 110, 101, 99, 116, 105, 111, 110]⟩, .string ⟨#[116, 101]⟩, .string ⟨#[116, 114, 97, 105, 108, 101, 114]⟩, .string ⟨#[116, 114, 97, 110, 115, 102, 101, 114, 45, 101, 110, 99, 111, 100, 105, 110, 103]⟩, .string ⟨#[117, 112, 103, 114, 97, 100, 101]⟩] 9) := ⟨_, rfl⟩
  have g0 : W0.heap[FX]? = some (.cells (strs fixN).toArray 9) := by rw [hW0, hFX]; exact alloc_new _ _
  have b0 : Below w.heap.size w W0 := by rw [hW0]; exact (Below.refl _ _).alloc (Nat.le_refl _) _
  have HW0 := hide hW0.symm
  have HFX := hide hFX.symm
  have G0 := hide g0
  have B0 := hide b0
  clear hmm hLN h hfew hW0 hFX g0 b0 hlm
  go_enter Tryd.func25, Tryd.ntmps25
  go_wp2_with fail
  rw [HW0.out, HFX.out]
  go_loopw [6] (fun vi wr => ∃ k : Nat, k ≤ 9 ∧ vi = .int .i64 k ∧ Hid ((fixN.take k).contains m = false ∧ Below w.heap.size w wr ∧ wr.heap[FX]? = some (.cells (strs fixN).toArray 9))) (fun i _ => 9 - (intOf i).toNat)
  case atStart => exact ⟨0, by omega, rfl, rfl, B0.out, G0.out⟩
  case round =>
    obtain ⟨k, hk, rfl, HI⟩ := hrel
    obtain ⟨i1, i2, i3⟩ := HI.out
    by_cases hk9 : k < 9
    · have hd1 : decide ((k : Int) < 9) = true := decide_eq_true (by omega)
      have hd1' : decide (k < 9) = true := decide_eq_true hk9
      have hki : (k : Int) < 9 := by omega
      have hk0 : (0 : Int) ≤ (k : Int) := by omega
      have hki2 : (k : Int) < ((9 : Nat) : Int) := by omega
      have hkl : k < fixN.length := by rw [fixN_len]; exact hk9
      have c0 : wr.cell? ⟨FX, k, none⟩ = some (.string (strN (fixN.getD k []))) := by
        have := strs_get fixN k hkl
        simp only [World.cell?, i3]
        simpa using this
      have hFl : FX < wr.heap.size := lt_of_some i3
      have heq := toList_two m (fixN.getD k []) HM.out (fixN_lt _ (getD_mem hkl))
      rw [← HLNN.out] at heq
      have HA : Hid (m ≠ fixN.getD k [] → (fixN.take (k + 1)).contains m = false) := fun hne => by
        rw [take_getD (d := []) hkl, cont_app, i1, Bool.false_or]
        exact cont_no.2 (by simpa using hne)
      have HT : Hid (m = fixN.getD k [] → fixN.contains m = true) := fun he => cont_yes.2 (by rw [he]; exact getD_mem hkl)
      obtain ⟨F, hF⟩ : ∃ x, x = strN (fixN.getD k []) := ⟨_, rfl⟩
      rw [← hF] at c0 heq
      have I2 := hide i2
      have I3 := hide i3
      clear hF hkl i1 i2 i3 HI
      by_cases he : m = fixN.getD k []
      · rw [decide_eq_true he] at heq
        have ht := hide (HT.out he)
        clear HA HT he
        go_wp2_with fail
        go_region_held3 (fun w' => w'.cell? ⟨FX, k, none⟩ = some (.string F)) (go_keep) (first
          | (go_at_call 21; refine (HLN.out _).mono ?_; rintro e w5 ⟨rfl, k5⟩; have c5 := (k5.cell (p := ⟨FX, k, none⟩) (by exact hFl)).trans c0; have K5 : Hid (Below wr.heap.size wr w5) := (⟨k5.os, k5.tape, k5.output, k5.size, k5.block⟩); clear k5))
        all_goals
          go_wp2_with fail
          go_ret
          exact ⟨by rw [HHB.out, ht.out]; rfl, I2.out.trans (K5.out.mono I2.out.size)⟩
      · rw [decide_eq_false he] at heq
        have ht := hide (HA.out he)
        clear HA HT he
        go_wp2_with fail
        go_region_held3 (fun w' => w'.cell? ⟨FX, k, none⟩ = some (.string F)) (go_keep) (first
          | (go_at_call 21; refine (HLN.out _).mono ?_; rintro e w5 ⟨rfl, k5⟩; have c5 := (k5.cell (p := ⟨FX, k, none⟩) (by exact hFl)).trans c0; have K5 : Hid (Below wr.heap.size wr w5) := (⟨k5.os, k5.tape, k5.output, k5.size, k5.block⟩); clear k5))
        all_goals
          go_wp2_with fail
          go_roundw
          case rel => exact ⟨k + 1, by omega, by go_num, ht.out, I2.out.trans (K5.out.mono I2.out.size), keepB K5.out I3.out⟩
          case measure => simp [intOf]; omega
    · have hd1 : decide ((k : Int) < 9) = false := decide_eq_false (by omega)
      have hd1' : decide (k < 9) = false := decide_eq_false hk9
      have HFN : Hid (fixN.contains m = false) := by rw [List.take_of_length_le (by rw [fixN_len]; omega)] at i1; exact i1
      have HHB2 : Hid (hopB fs (byt nm) = (gat cnS rdN fs).contains m) := by show _ = _; rw [HHB.out, HFN.out, Bool.false_or]
      have I2 := hide i2
      clear i1 i2 i3 HI HHB HFN G0
      go_wp2_with fail
      go_loopw [7] (fun vi wr => ∃ k : Nat, k ≤ n ∧ vi = .int .i64 k ∧ Hid ((gat cnS rdN (fs.take k)).contains m = false ∧ Below w.heap.size w wr)) (fun i _ => n - (intOf i).toNat)
      case atStart => exact ⟨0, by omega, rfl, rfl, I2.out⟩
      case round =>
        clear hd1 hd1' hk hk9
        obtain ⟨k, hk, rfl, HI⟩ := hrel
        obtain ⟨i1, i2⟩ := HI.out
        by_cases hkn : k < n
        · have hdk : decide ((k : Int) < (n : Int)) = true := decide_eq_true (by omega)
          have s1 := H.out.below i2
          obtain ⟨b, o, rfl, c0, c1⟩ := s1.at_ hkn
          rw [Nat.mul_comm 2 k] at c0 c1
          have hkl : k < fs.length := by rw [H.out.hlen]; exact hkn
          have hmem : fs.getD k ([], []) ∈ fs := getD_mem hkl
          have hby := H.out.byte _ hmem
          have hfl := HFEW.out.name _ hmem
          have HSN : Hid (gat cnS rdN (fs.take (k + 1)) = gat cnS rdN (fs.take k) ++ if low (fs.getD k ([], [])).1 = cnS then (pts (fs.getD k ([], [])).2).filterMap rdN else []) := by
            show _ = _
            rw [ftake_snoc fs k hkl, gat_app, gat_one, gat_pts cnS]
          have HSUB : Hid (low (fs.getD k ([], [])).1 = cnS → ∀ x, x ∈ (pts (fs.getD k ([], [])).2).filterMap rdN → (gat cnS rdN fs).contains x = true) := fun hc x hx => by
            apply cont_yes.2
            have e : fs = fs.take (k + 1) ++ fs.drop (k + 1) := (List.take_append_drop _ _).symm
            rw [e, gat_app, HSN.out, if_pos hc]
            exact List.mem_append_left _ (List.mem_append_right _ hx)
          obtain ⟨fd, hf0⟩ : ∃ f, f = fs.getD k ([], []) := ⟨_, rfl⟩
          rw [← hf0] at c0 c1 hby hfl HSN HSUB
          obtain ⟨p, q⟩ := fd
          simp only at c0 c1 hby hfl HSN HSUB
          have HLP : Hid (∀ W, Calls Tryd.prog 21 #[.string (strN p)] W fun e w' => e = .returned (.string (strN (low p))) ∧ Below W.heap.size W w') := fun W => by
            have := lower_at (strN p) W (by rw [strN_size]; have := hfl.1; omega)
            rw [byt_strN p hby.1] at this; exact this
          have HPT : Hid (∀ W, Calls Tryd.prog 37 #[.string (strN q)] W fun e w' => ∃ v, e = .returned v ∧ Own w' W.heap.size 9 v (strs (pts q)) ∧ Below W.heap.size W w') := fun W => by
            have := rparts_at (strN q) W (by rw [strN_size]; exact hfl.2)
            rw [byt_strN q hby.2] at this; exact this
          have HPM : Hid (∀ x ∈ pts q, (∀ y ∈ x, y < 256) ∧ x.length ≤ 2000000) := fun x hx => ⟨fun y hy => hby.2 y ((pts_mem hx).1 y hy), by have := (pts_mem hx).2; have := hfl.2; omega⟩
          have HPL : Hid ((pts q).length ≤ 2000001) := by show _ ≤ _; have := pts_len q; have := hfl.2; omega
          have heq := toList_byt (strN (low p)) [99, 111, 110, 110, 101, 99, 116, 105, 111, 110]
          rw [byt_strN _ (low_lt hby.1), show ([99, 111, 110, 110, 101, 99, 116, 105, 111, 110] : List UInt8).map UInt8.toNat = cnS from rfl] at heq
          obtain ⟨P, hP⟩ : ∃ x, x = strN p := ⟨_, rfl⟩
          obtain ⟨R, hR⟩ : ∃ x, x = strN q := ⟨_, rfl⟩
          obtain ⟨LP, hLP⟩ : ∃ x, x = strN (low p) := ⟨_, rfl⟩
          rw [← hP] at c0 HLP
          rw [← hR] at c1 HPT
          rw [← hLP] at heq HLP
          have I1 := hide i1
          have J2 := hide i2
          clear hkl hmem hby hfl hf0 hP hR hLP s1 i1 i2 HI
          go_wp2_with fail
          refine (HLP.out _).mono ?_
          rintro e w2 ⟨rfl, k2⟩
          have e1 := (k2.cell (lt_of_cell c1)).trans c1
          have B2 := hide (J2.out.trans (k2.mono J2.out.size))
          clear k2 c0 c1 HLP
          by_cases hc : low p = cnS
          · rw [decide_eq_true hc] at heq
            rw [if_pos hc] at HSN
            have HSB := hide (HSUB.out hc)
            clear hc HSUB
            go_wp2_with fail
            refine (HPT.out _).mono ?_
            rintro e w3 ⟨v3, rfl, o3, k3⟩
            have B3 := hide (B2.out.trans (k3.mono B2.out.size))
            obtain ⟨g, cap, rfl, hBg, hgl, hcc1, hcc2, hcell, _⟩ := o3.lies (by rw [strs_length]; exact pts_ne q)
            rw [strs_length] at hcc1 ⊢
            unfold maxLen at hcc2
            have HCE : Hid (∀ i, i < (pts q).length → w3.cell? ⟨g, i, none⟩ = some (.string (strN ((pts q).getD i [])))) := fun i hi => hcell i _ (strs_get (pts q) i hi)
            have hpl := HPL.out
            obtain ⟨ps, hps⟩ : ∃ ps, ps = pts q := ⟨_, rfl⟩
            rw [← hps] at HSN HSB HPM HCE hcc1 hpl ⊢
            obtain ⟨L, hL⟩ : ∃ L, L = ps.length := ⟨_, rfl⟩
            have HL := hide hL
            rw [← hL] at HCE hcc1 hpl ⊢
            clear k3 o3 hcell hps hL HPT e1 heq
            go_wp2_with fail
            go_loopw [9] (fun vi wr => ∃ j : Nat, j ≤ L ∧ vi = .int .i64 j ∧ Hid (((ps.take j).filterMap rdN).contains m = false ∧ Below w.heap.size w wr ∧ (∀ i, i < L → wr.cell? ⟨g, i, none⟩ = some (.string (strN (ps.getD i []))))) ∧ g < wr.heap.size) (fun i _ => L - (intOf i).toNat)
            case atStart => exact ⟨0, by omega, rfl, ⟨rfl, B3.out, HCE.out⟩, hgl⟩
            case round =>
              clear hgl
              obtain ⟨j, hj, rfl, HJ, hgl⟩ := hrel
              obtain ⟨j1, j2, j3⟩ := HJ.out
              by_cases hjL : j < L
              · have hdj : decide ((j : Int) < (L : Int)) = true := decide_eq_true (by omega)
                have hjl : j < ps.length := by rw [← HL.out]; exact hjL
                have d0 := j3 j hjL
                have hpm := HPM.out _ (getD_mem (d := ([] : List Nat)) hjl)
                have HTK : Hid (∀ W, Calls Tryd.prog 43 #[.string (strN (ps.getD j []))] W fun e w' => e = .returned (.bool (tok (ps.getD j []))) ∧ Below W.heap.size W w') := fun W => by
                  have := rtoken_at (strN (ps.getD j [])) W (by rw [strN_size]; have := hpm.2; omega)
                  rw [byt_strN _ hpm.1] at this; exact this
                have HLW : Hid (∀ W, Calls Tryd.prog 21 #[.string (strN (ps.getD j []))] W fun e w' => e = .returned (.string (strN (low (ps.getD j [])))) ∧ Below W.heap.size W w') := fun W => by
                  have := lower_at (strN (ps.getD j [])) W (by rw [strN_size]; have := hpm.2; omega)
                  rw [byt_strN _ hpm.1] at this; exact this
                have hq := toList_two (low (ps.getD j [])) m (low_lt hpm.1) HM.out
                rw [← HLNN.out] at hq
                have HNX : Hid ((ps.take (j + 1)).filterMap rdN = (ps.take j).filterMap rdN ++ [ps.getD j []].filterMap rdN) := by
                  show _ = _
                  rw [take_getD (d := []) hjl, List.filterMap_append]
                have HMB : Hid (ps.getD j [] ∈ ps) := getD_mem hjl
                obtain ⟨y, hy⟩ : ∃ y, y = ps.getD j [] := ⟨_, rfl⟩
                rw [← hy] at d0 HTK HLW hq HNX HMB
                obtain ⟨Y, hY⟩ : ∃ x, x = strN y := ⟨_, rfl⟩
                obtain ⟨LY, hLY⟩ : ∃ x, x = strN (low y) := ⟨_, rfl⟩
                rw [← hY] at d0 HTK HLW
                rw [← hLY] at hq HLW
                have J1 := hide j1
                have K2 := hide j2
                have J3 := hide j3
                have STEP : Hid (∀ W, Below wr.heap.size wr W → Below w.heap.size w W ∧ (∀ i, i < L → W.cell? ⟨g, i, none⟩ = some (.string (strN (ps.getD i [])))) ∧ g < W.heap.size) := fun W hW => ⟨j2.trans (hW.mono j2.size), fun i hi => (hW.cell (p := ⟨g, i, none⟩) hgl).trans (j3 i hi), Nat.lt_of_lt_of_le hgl hW.size⟩
                clear hjl hpm hy hY hLY j1 j2 j3 HJ
                cases htk : tok y with
                | false =>
                  have HN0 : Hid (((ps.take (j + 1)).filterMap rdN).contains m = false) := by
                    show _ = _
                    rw [HNX.out, List.filterMap_cons_none (by unfold rdN; rw [htk]; rfl), List.filterMap_nil, List.append_nil]
                    exact J1.out
                  rw [htk] at HTK
                  clear htk HNX
                  go_wp2_with fail
                  refine (HTK.out _).mono ?_
                  rintro e w5 ⟨rfl, k5⟩
                  obtain ⟨t1, t2, t3⟩ := STEP.out w5 k5
                  have T1 := hide t1
                  have T2 := hide t2
                  clear k5 t1 t2 HTK STEP
                  go_wp2_with fail
                  go_roundw
                  case rel => exact ⟨j + 1, by omega, by go_num, ⟨HN0.out, T1.out, T2.out⟩, t3⟩
                  case measure => simp [intOf]; omega
                | true =>
                  have HRN : Hid (rdN y = some (low y)) := by show _ = _; unfold rdN; rw [htk]; rfl
                  rw [htk] at HTK
                  clear htk
                  go_wp2_with fail
                  refine (HTK.out _).mono ?_
                  rintro e w5 ⟨rfl, k5⟩
                  have d5 := (k5.cell (lt_of_cell d0)).trans d0
                  have K5 := hide k5
                  clear k5 HTK d0
                  go_wp2_with fail
                  refine (HLW.out _).mono ?_
                  rintro e w6 ⟨rfl, k6⟩
                  have K6 := hide (K5.out.trans (k6.mono K5.out.size))
                  clear k6 HLW d5 K5
                  go_wp2_with fail
                  refine (HLN.out _).mono ?_
                  rintro e w7 ⟨rfl, k7⟩
                  have K7 := hide (K6.out.trans (k7.mono K6.out.size))
                  clear k7 K6
                  by_cases hym : low y = m
                  · rw [decide_eq_true hym] at hq
                    have HR : Hid (hopB fs (byt nm) = true) := by
                      show _ = _
                      rw [HHB2.out]
                      exact HSB.out m (List.mem_filterMap.2 ⟨y, HMB.out, by rw [HRN.out, hym]⟩)
                    clear hym
                    go_wp2_with fail
                    go_ret
                    exact ⟨by rw [HR.out]; rfl, (STEP.out w7 K7.out).1⟩
                  · rw [decide_eq_false hym] at hq
                    have HN0 : Hid (((ps.take (j + 1)).filterMap rdN).contains m = false) := by
                      show _ = _
                      rw [HNX.out, List.filterMap_cons_some HRN.out, List.filterMap_nil, cont_app, J1.out, Bool.false_or]
                      exact cont_no.2 (by simpa using fun e => hym e.symm)
                    obtain ⟨t1, t2, t3⟩ := STEP.out w7 K7.out
                    have T1 := hide t1
                    have T2 := hide t2
                    clear t1 t2 STEP hym HNX
                    go_wp2_with fail
                    go_roundw
                    case rel => exact ⟨j + 1, by omega, by go_num, ⟨HN0.out, T1.out, T2.out⟩, t3⟩
                    case measure => simp [intOf]; omega
              · have hdj : decide ((j : Int) < (L : Int)) = false := decide_eq_false (by omega)
                have HN0 : Hid ((gat cnS rdN (fs.take (k + 1))).contains m = false) := by
                  show _ = _
                  rw [List.take_of_length_le (by rw [← HL.out]; omega)] at j1
                  rw [HSN.out, cont_app, I1.out, j1]; rfl
                have T1 := hide j2
                clear j1 j2 j3 HJ
                go_wp2_with fail
                go_roundw
                case rel => exact ⟨k + 1, by omega, by go_num, HN0.out, T1.out⟩
                case measure => simp [intOf]; omega
          · rw [decide_eq_false hc] at heq
            rw [if_neg hc, List.append_nil] at HSN
            clear hc HSUB e1
            go_wp2_with fail
            go_roundw
            case rel => exact ⟨k + 1, by omega, by go_num, by rw [HSN.out]; exact I1.out, B2.out⟩
            case measure => simp [intOf]; omega
        · have hdk : decide ((k : Int) < (n : Int)) = false := decide_eq_false (by omega)
          have HF : Hid ((gat cnS rdN fs).contains m = false) := by rw [List.take_of_length_le (by rw [H.out.hlen]; omega)] at i1; exact i1
          have J2 := hide i2
          clear i1 i2 HI
          go_wp2_with fail
          go_ret
          exact ⟨by rw [HHB2.out, HF.out]; rfl, J2.out⟩
end Go.Proofs.YtffjhhacegnhmaaDoor
