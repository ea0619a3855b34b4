/-
  cut of package fields at strings; conditions as each theorem has them.
-/
import Derived.Test.YtccoddmdlbdfjaaGreatDoorJoinedFN
import Derived.Test.YtccoddmdlbdfjaaGreatDoorHM
import Derived.Test.YtccoddmdlbdfjaaGreatDoorJoinedHE
import Derived.Deep.LoopGhost
set_option linter.unusedSimpArgs false
set_option linter.unusedVariables false
namespace Go.Proofs.YtccoddmdlbdfjaaGreatDoor
open Go.RowKit

theorem trimS_at (t : ByteArray) (w : World) (hm : t.size ≤ maxLen) : Calls Tryz.prog 171 #[.string t, .string ⟨#[32, 9]⟩] w fun e w' => e = .returned (.string (strN (trim (byt t)))) ∧ Below w.heap.size w w' := by
  refine (Any.strings_Trim_laid Tryz.lays160 (by kernel_rfl) t ⟨#[32, 9]⟩ w (by unfold maxLen at hm; omega) (by decide) (ascii_of_all (by decide))).mono ?_
  rintro e w0 ⟨rfl, hb⟩
  refine ⟨?_, hb⟩
  rw [show (⟨(Lib.trimS t.data.toList [32, 9]).toArray⟩ : ByteArray) = strN (trim (byt t)) by rw [strN_mk, trimS_trim]; rfl]
theorem trim_len (l : List Nat) : (trim l).length ≤ l.length := by
  unfold trim trimL trimR
  refine Nat.le_trans (dw_len _ _) ?_
  rw [List.length_reverse]
  refine Nat.le_trans (dw_len _ _) ?_
  rw [List.length_reverse]; exact Nat.le_refl _
/-- The next piece and what is behind it. -/
theorem cutC_some (t : ByteArray) (w : World) (hV : Vars w) (hs : t.size ≤ 2000000) {k : Nat} (h : fst 44 (byt t) = some k) : Calls Tryz.prog 88 #[.string t, .string ⟨#[44]⟩] w fun e w' => e = .returned (.tuple #[.string (strN ((byt t).take k)), .string (strN ((byt t).drop (k + 1))), .bool true]) ∧ Below w.heap.size w w' := by
  obtain ⟨m, hm⟩ := hV
  refine (Tryz.strings_Cut t ⟨#[44]⟩ m w (by omega) hm).mono ?_
  rintro e w' ⟨rfl, n, rfl⟩
  refine ⟨?_, below_drewN (Below.refl _ _) n⟩
  rw [show (⟨#[44]⟩ : ByteArray).data.toList = [44] from rfl, cut_some 44 t h, strN_take, strN_drop]
theorem cutC_none (t : ByteArray) (w : World) (hV : Vars w) (hs : t.size ≤ 2000000) (h : fst 44 (byt t) = none) : Calls Tryz.prog 88 #[.string t, .string ⟨#[44]⟩] w fun e w' => e = .returned (.tuple #[.string t, .string ⟨#[]⟩, .bool false]) ∧ Below w.heap.size w w' := by
  obtain ⟨m, hm⟩ := hV
  refine (Tryz.strings_Cut t ⟨#[44]⟩ m w (by omega) hm).mono ?_
  rintro e w' ⟨rfl, n, rfl⟩
  refine ⟨?_, below_drewN (Below.refl _ _) n⟩
  rw [show (⟨#[44]⟩ : ByteArray).data.toList = [44] from rfl, cut_none 44 t h]
/-- Fields that are not too many and not too long. -/
structure Few (fs : List Fd) : Prop where
  name : ∀ f ∈ fs, f.1.length ≤ 2000000 ∧ f.2.length ≤ 2000000
  all : (fs.map fun f => f.2.length + 1).sum ≤ 4000000
theorem sum_take {α : Type} (g : α → Nat) (l : List α) (k : Nat) : ((l.take k).map g).sum ≤ (l.map g).sum := by
  conv => rhs; rw [← List.take_append_drop k l, List.map_append, List.sum_append]
  omega
theorem gat_take {α : Type} (nm : List Nat) (rd : List Nat → Option α) (fs : List Fd) (k : Nat) (h : Few fs) (hk : k < fs.length) (d : List (List Nat)) (e : List (List Nat)) (hc : cms (fs.getD k ([], [])).2 = d ++ e) : (gat nm rd (fs.take k) ++ d.filterMap fun p => rd (trim p)).length ≤ 4000000 := by
  have h1 := gat_len nm rd (fs.take k)
  have h2 := List.length_filterMap_le (fun p => rd (trim p)) d
  have h3 := cms_len (fs.getD k ([], [])).2
  rw [hc, List.length_append] at h3
  have h4 := sum_take (fun f : Fd => f.2.length + 1) fs (k + 1)
  rw [ftake_snoc fs k hk, List.map_append, List.sum_append] at h4
  simp only [List.map_cons, List.map_nil, List.sum_cons, List.sum_nil] at h4
  have h5 := h.all
  rw [List.length_append]
  omega
theorem push_str {wr : World} {B : Nat} {v : Value} {ps : List (List Nat)} (x : ByteArray) (hown : Own wr B 9 v (strs ps)) (hlen : ps.length ≤ 4000000) (hB : B ≤ wr.heap.size) :
    ∃ v' w', (Builtin.append_ #[122, 122] 122 #[v, .slice (some ⟨wr.heap.size, 0, none⟩) 1 1]).run Tryz.prog (wr.alloc (.cells #[.string x] 9)) = .ok v' w' ∧ Own w' B 9 v' (strs (ps ++ [byt x])) ∧ Below B wr w' := by
  obtain ⟨o1, w1, hap1, ow1, bw1, kw1⟩ := own_app 122 9 (.string ⟨#[]⟩) 16 Tryz.underlying122 inf9 rfl (hown.below ((Below.refl _ _).alloc (Nat.le_refl _) (.cells #[.string x] 9))) ⟨wr.heap.size, 0, none⟩ 1 1 [.string x] rfl
    (fun j u hu => by
      have hj := (List.getElem?_eq_some_iff.1 hu).1
      simp at hj
      subst hj
      rw [add_none]
      simp at hu
      rw [← hu]; simp) (by simp [Value.oneCell']) (by rw [strs_length]; omega) (by rw [strs_length]; omega) (by simp; omega)
  refine ⟨o1, w1, hap1, ?_, ((Below.refl B wr).alloc hB _).trans bw1⟩
  simpa [strs, strN_byt] using ow1
set_option maxRecDepth 100000 in
set_option maxHeartbeats 8000000 in
theorem cutS_at (rd : List Nat → Option (List Nat)) (f : Nat) (hf : ∀ (args : Array Value) (w : World), (callFunc f args).run Tryz.prog w = .ok (.enter f args) w)
    (hrd : ∀ (t : ByteArray) (W : World), t.size ≤ 2000000 → Calls Tryz.prog f #[.string t] W fun e w' => RdS rd t e ∧ Below W.heap.size W w')
    (a : Option Addr) (n c : Nat) (fs : List Fd) (nm : ByteArray) (w : World) (hV : Vars w) (h : SrcF w a n c fs) (hfew : Few fs) :
    Calls Tryz.prog 138 #[.slice a n c, .string nm, .func (.func f) #[] #[]] w fun e w' => ∃ v, e = .returned v ∧ Own w' w.heap.size 9 v (strs (gat (byt nm) rd fs)) ∧ Below w.heap.size w w' := by
  obtain ⟨M, hM⟩ : ∃ x, x = byt nm := ⟨_, rfl⟩
  have HML : Hid (∀ x ∈ M, x < 256) := by rw [hM]; exact byt_lt nm
  have HNM : Hid (nm = strN M) := by show _ = _; rw [hM, strN_byt]
  rw [← hM]
  have hcl := h.hcap
  have hmx := h.hmax
  unfold maxLen at hmx
  have H := hide h
  have HV := hide hV
  have HFEW := hide hfew
  have HRD := hide hrd
  clear h hM hV hfew hrd
  go_enter Tryz.func138, Tryz.ntmps138
  go_wp2_with fail
  go_loopw [7, 17] (fun v i wr => ∃ k : Nat, k ≤ n ∧ i = .int .i64 k ∧ Hid (Own wr w.heap.size 9 v (strs (gat M rd (fs.take k))) ∧ Below w.heap.size w wr)) (fun _ i _ => n - (intOf i).toNat)
  case atStart => exact ⟨0, by omega, rfl, ⟨rfl, Or.inl ⟨rfl, rfl⟩⟩, Below.refl _ _⟩
  case round =>
    obtain ⟨k, hk, rfl, HI⟩ := hrel
    by_cases hkn : k < n
    · have hdk : decide ((k : Int) < (n : Int)) = true := decide_eq_true (by omega)
      have s1 := H.out.keep (w' := wr) (fun h0 b o e => HI.out.2.block b (H.out.lt h0 e)) HI.out.2.size
      obtain ⟨b, o, rfl, c0, c1⟩ := s1.at_ hkn
      rw [Nat.mul_comm 2 k] at c0 c1
      have hkl : k < fs.length := by rw [H.out.hlen]; exact hkn
      have hmem : fs.getD k ([], []) ∈ fs := getD_mem hkl
      have hby := H.out.byte _ hmem
      have hfl := HFEW.out.name _ hmem
      have HSN : Hid (gat M rd (fs.take (k + 1)) = gat M rd (fs.take k) ++ if low (fs.getD k ([], [])).1 = M then (cms (fs.getD k ([], [])).2).filterMap (fun p => rd (trim p)) else []) := by
        show _ = _
        rw [ftake_snoc fs k hkl, gat_app, gat_one]
      have HGT : Hid (∀ d e, cms (fs.getD k ([], [])).2 = d ++ e → (gat M rd (fs.take k) ++ d.filterMap fun p => rd (trim p)).length ≤ 4000000) := fun d e hc => gat_take M rd fs k HFEW.out hkl d e hc
      obtain ⟨fd, hf0⟩ : ∃ f, f = fs.getD k ([], []) := ⟨_, rfl⟩
      rw [← hf0] at c0 c1 hby hfl HSN HGT
      obtain ⟨p, q⟩ := fd
      simp only at c0 c1 hby hfl HSN HGT
      have HSA : Hid (∀ W, Calls Tryz.prog 99 #[.string (strN p)] W fun e w' => e = .returned (.string (strN (low p))) ∧ Below W.heap.size W w') := fun W => by
        have := fsmall_at (strN p) W (by rw [strN_size]; have := hfl.1; omega)
        rw [byt_strN p hby.1] at this; exact this
      have HQB : Hid (byt (strN q) = q) := byt_strN q hby.2
      have HQS : Hid ((strN q).size ≤ 2000000) := by show _ ≤ _; rw [strN_size]; exact hfl.2
      have heq := toList_two (low p) M (low_lt hby.1) HML.out
      rw [← HNM.out] at heq
      obtain ⟨P, hP⟩ : ∃ x, x = strN p := ⟨_, rfl⟩
      obtain ⟨R, hR⟩ : ∃ x, x = strN q := ⟨_, rfl⟩
      obtain ⟨LP, hLP⟩ : ∃ x, x = strN (low p) := ⟨_, rfl⟩
      rw [← hP] at c0 HSA
      rw [← hR] at c1 HQB HQS
      rw [← hLP] at heq HSA
      obtain ⟨G, hG⟩ : ∃ G, G = wr.heap.size := ⟨_, rfl⟩
      obtain ⟨W1, hW1⟩ : ∃ W, W = wr.alloc (.cells #[.string P, .string R] 68) := ⟨_, rfl⟩
      have b1 : Below wr.heap.size wr W1 := by rw [hW1]; exact (Below.refl _ _).alloc (Nat.le_refl _) _
      have g1 : W1.heap[G]? = some (.cells #[.string P, .string R] 68) := by rw [hW1, hG]; exact alloc_new _ _
      have B1 := hide (HI.out.2.trans (b1.mono HI.out.2.size))
      have O1 := hide (HI.out.1.below b1)
      have G1 := hide g1
      have HW1 : Hid (wr.alloc (.cells #[.string P, .string R] 68) = W1) := hW1.symm
      have HG := hide hG.symm
      have e0 : W1.cell? ⟨G, 0, none⟩ = some (.string P) := by simp [World.cell?, g1]
      clear hkl hmem hby hfl hf0 hP hR hLP s1 hG hW1 b1 g1
      go_wp2_with (first | (rw [HW1.out, HG.out]))
      try (rw [HW1.out, HG.out]; go_wp2_with fail)
      refine (HSA.out _).mono ?_
      rintro e w2 ⟨rfl, hb2⟩
      have e1 : w2.cell? ⟨G, 1, none⟩ = some (.string R) := by simp [World.cell?, keepB hb2 G1.out]
      have B2 := hide (B1.out.trans (hb2.mono B1.out.size))
      have O2 := hide (O1.out.below hb2)
      clear hb2 HSA e0 c0 c1 B1 O1
      by_cases hs : low p = M
      · rw [decide_eq_true hs] at heq
        have hne : (LP.toList != nm.toList) = false := by rw [bne, heq]; rfl
        rw [if_pos hs] at HSN
        clear hs
        go_wp2_with fail
        clear e1 hne heq
        go_loopg [7, 10, 11] (cms q).length (fun g v r m wx => ∃ (d e : List (List Nat)) (rs : ByteArray) (mo : Bool), r = .string rs ∧ m = .bool mo ∧ rs.size ≤ 2000000 ∧ g = e.length ∧
          Hid (cms q = d ++ e ∧ e = (if mo = true then cms (byt rs) else []) ∧ Own wx w.heap.size 9 v (strs (gat M rd (fs.take k) ++ d.filterMap fun p => rd (trim p))) ∧ Below w.heap.size w wx))
        case atStart => exact ⟨[], cms q, R, true, rfl, rfl, HQS.out, rfl, rfl, by rw [if_pos rfl, HQB.out], by rw [List.filterMap_nil, List.append_nil]; exact O2.out, B2.out⟩
        case round =>
          obtain ⟨d, e, rs, mo, rfl, rfl, hrs, hg, HX⟩ := hrel
          cases mo with
          | false =>
            obtain ⟨x1, x2, x3, x4⟩ := HX.out
            rw [if_neg (by simp)] at x2
            subst x2
            rw [List.append_nil] at x1
            rw [← x1, ← HSN.out] at x3
            have X3 := hide x3
            have X4 := hide x4
            clear x1 x3 x4 HX hg
            go_wp2_with fail
            go_roundw
            case rel => exact ⟨k + 1, by omega, by go_num, X3.out, X4.out⟩
            case measure => simp [intOf]; omega
          | true =>
            obtain ⟨x1, x2, x3, x4⟩ := HX.out
            rw [if_pos rfl] at x2
            have hlen := HGT.out d e x1
            have X1 := hide x1
            have X3 := hide x3
            have X4 := hide x4
            cases hc : fst 44 (byt rs) with
            | none =>
              have HC : Hid (∀ W, Vars W → Calls Tryz.prog 88 #[.string rs, .string ⟨#[44]⟩] W fun e w' => e = .returned (.tuple #[.string rs, .string ⟨#[]⟩, .bool false]) ∧ Below W.heap.size W w') := fun W hW => cutC_none rs W hW hrs hc
              have HE : Hid (e = [byt rs]) := by show _ = _; rw [x2, cms_none hc]
              have HT : Hid (∀ W, Calls Tryz.prog 171 #[.string rs, .string ⟨#[32, 9]⟩] W fun e w' => e = .returned (.string (strN (trim (byt rs)))) ∧ Below W.heap.size W w') := fun W => trimS_at rs W (by unfold maxLen; omega)
              have HTB : Hid (byt (strN (trim (byt rs))) = trim (byt rs)) := byt_strN _ (fun x hx => byt_lt rs x (trim_mem hx))
              have HTS : Hid ((strN (trim (byt rs))).size ≤ 2000000) := by
                show _ ≤ _
                rw [strN_size]
                have := trim_len (byt rs)
                rw [byt_length] at this
                omega
              obtain ⟨t, ht⟩ : ∃ t, t = strN (trim (byt rs)) := ⟨_, rfl⟩
              rw [← ht] at HT HTB HTS
              have HR : Hid (∀ W, Calls Tryz.prog f #[.string t] W fun e w' => RdS rd t e ∧ Below W.heap.size W w') := fun W => HRD.out t W HTS.out
              clear x1 x2 x3 x4 HX hc ht
              go_wp2_with fail
              refine (HC.out _ (HV.out.below X4.out)).mono ?_
              rintro e w3 ⟨rfl, hb3⟩
              have B3 := hide (X4.out.trans (hb3.mono X4.out.size))
              have O3 := hide (X3.out.below hb3)
              clear hb3 HC
              go_wp2_with fail
              refine (HT.out _).mono ?_
              rintro e w4 ⟨rfl, hb4⟩
              have B4 := hide (B3.out.trans (hb4.mono B3.out.size))
              have O4 := hide (O3.out.below hb4)
              clear hb4 HT B3 O3
              go_wp2_with fail
              refine (HR.out _).mono ?_
              rintro e w5 ⟨⟨x, ok, rfl, hx⟩, hb5⟩
              have B5 := hide (B4.out.trans (hb5.mono B4.out.size))
              have O5 := hide (O4.out.below hb5)
              rw [HTB.out] at hx
              have HX2 := hide hx
              clear hb5 HR B4 O4 hx
              cases ok with
              | false =>
                have HF : Hid ((d ++ e).filterMap (fun p => rd (trim p)) = d.filterMap fun p => rd (trim p)) := by
                  show _ = _
                  rw [HE.out, List.filterMap_append, List.filterMap_cons_none (by rw [HX2.out]; rfl), List.filterMap_nil, List.append_nil]
                clear HX2
                go_wp2_with fail
                go_roundg 0
                case measure => rw [hg, HE.out]; simp
                case rel => exact ⟨d ++ e, [], ⟨#[]⟩, false, rfl, rfl, by simp [ByteArray.size], rfl, by rw [List.append_nil]; exact X1.out, rfl, by rw [HF.out]; exact O5.out, B5.out⟩
              | true =>
                obtain ⟨v6, w6, hap, ho6, hb6⟩ := push_str x O5.out hlen (B5.out.size)
                have HF : Hid (gat M rd (fs.take k) ++ (d ++ e).filterMap (fun p => rd (trim p)) = (gat M rd (fs.take k) ++ d.filterMap fun p => rd (trim p)) ++ [byt x]) := by
                  show _ = _
                  rw [HE.out, List.filterMap_append, List.filterMap_cons_some (by rw [HX2.out]; rfl), List.filterMap_nil, List.append_assoc]
                have HAP := hide hap
                have O6 := hide ho6
                have B6 := hide (B5.out.trans hb6)
                clear HX2 hap ho6 hb6 O5 B5
                go_wp2_with (refine wpList_app_run _ rfl _ _ 122 122 rfl _ _ rfl rfl HAP.out ?_)
                go_roundg 0
                case measure => rw [hg, HE.out]; simp
                case rel => exact ⟨d ++ e, [], ⟨#[]⟩, false, rfl, rfl, by simp [ByteArray.size], rfl, by rw [List.append_nil]; exact X1.out, rfl, by rw [HF.out]; exact O6.out, B6.out⟩
            | some j =>
              have HC : Hid (∀ W, Vars W → Calls Tryz.prog 88 #[.string rs, .string ⟨#[44]⟩] W fun e w' => e = .returned (.tuple #[.string (strN ((byt rs).take j)), .string (strN ((byt rs).drop (j + 1))), .bool true]) ∧ Below W.heap.size W w') := fun W hW => cutC_some rs W hW hrs hc
              have HE : Hid (e = (byt rs).take j :: cms ((byt rs).drop (j + 1))) := by show _ = _; rw [x2, cms_some hc]
              have HT0 : Hid (∀ W, Calls Tryz.prog 171 #[.string (strN ((byt rs).take j)), .string ⟨#[32, 9]⟩] W fun e w' => e = .returned (.string (strN (trim ((byt rs).take j)))) ∧ Below W.heap.size W w') := fun W => by
                have := trimS_at (strN ((byt rs).take j)) W (by rw [strN_size]; have := List.length_take_le j (byt rs); have h2 := byt_length rs; have h3 := List.length_take (i := j) (l := byt rs); unfold maxLen; omega)
                rw [byt_strN _ (fun x hx => byt_lt rs x (List.mem_of_mem_take hx))] at this
                exact this
              have HTB : Hid (byt (strN (trim ((byt rs).take j))) = trim ((byt rs).take j)) := byt_strN _ (fun x hx => byt_lt rs x (List.mem_of_mem_take (trim_mem hx)))
              have HTS : Hid ((strN (trim ((byt rs).take j))).size ≤ 2000000) := by
                show _ ≤ _
                rw [strN_size]
                have := trim_len ((byt rs).take j)
                have h2 := byt_length rs
                have h3 := List.length_take (i := j) (l := byt rs)
                omega
              obtain ⟨t, ht⟩ : ∃ t, t = strN (trim ((byt rs).take j)) := ⟨_, rfl⟩
              obtain ⟨pc, hpc⟩ : ∃ t, t = strN ((byt rs).take j) := ⟨_, rfl⟩
              have HRB : Hid (byt (strN ((byt rs).drop (j + 1))) = (byt rs).drop (j + 1)) := byt_strN _ (fun x hx => byt_lt rs x (List.mem_of_mem_drop hx))
              have HRS : Hid ((strN ((byt rs).drop (j + 1))).size ≤ 2000000) := by
                show _ ≤ _
                rw [strN_size, List.length_drop, byt_length]; omega
              obtain ⟨r2, hr2⟩ : ∃ t, t = strN ((byt rs).drop (j + 1)) := ⟨_, rfl⟩
              rw [← hr2] at HRB HRS HC
              rw [← ht] at HT0 HTB HTS
              rw [← hpc] at HT0 HC
              have HT := HT0
              have HR : Hid (∀ W, Calls Tryz.prog f #[.string t] W fun e w' => RdS rd t e ∧ Below W.heap.size W w') := fun W => HRD.out t W HTS.out
              have HE2 : Hid (cms q = (d ++ [(byt rs).take j]) ++ cms (byt r2)) := by
                show _ = _
                rw [X1.out, HE.out, HRB.out]; simp
              clear x1 x2 x3 x4 HX hc ht hpc hr2 HT0
              go_wp2_with fail
              refine (HC.out _ (HV.out.below X4.out)).mono ?_
              rintro e w3 ⟨rfl, hb3⟩
              have B3 := hide (X4.out.trans (hb3.mono X4.out.size))
              have O3 := hide (X3.out.below hb3)
              clear hb3 HC
              go_wp2_with fail
              refine (HT.out _).mono ?_
              rintro e w4 ⟨rfl, hb4⟩
              have B4 := hide (B3.out.trans (hb4.mono B3.out.size))
              have O4 := hide (O3.out.below hb4)
              clear hb4 HT B3 O3
              go_wp2_with fail
              refine (HR.out _).mono ?_
              rintro e w5 ⟨⟨x, ok, rfl, hx⟩, hb5⟩
              have B5 := hide (B4.out.trans (hb5.mono B4.out.size))
              have O5 := hide (O4.out.below hb5)
              rw [HTB.out] at hx
              have HX2 := hide hx
              have HLT2 : Hid ((cms (byt r2)).length < gk) := by
                show _ < _
                rw [hg, HE.out, HRB.out]; simp
              clear hb5 HR B4 O4 hx hg
              cases ok with
              | false =>
                have HF : Hid ((d ++ [(byt rs).take j]).filterMap (fun p => rd (trim p)) = d.filterMap fun p => rd (trim p)) := by
                  show _ = _
                  rw [List.filterMap_append, List.filterMap_cons_none (by rw [HX2.out]; rfl), List.filterMap_nil, List.append_nil]
                clear HX2
                go_wp2_with fail
                go_roundg (cms (byt r2)).length
                case measure => exact HLT2.out
                case rel => exact ⟨d ++ [(byt rs).take j], cms (byt r2), r2, true, rfl, rfl, HRS.out, rfl, HE2.out, rfl, by rw [HF.out]; exact O5.out, B5.out⟩
              | true =>
                obtain ⟨v6, w6, hap, ho6, hb6⟩ := push_str x O5.out hlen (B5.out.size)
                have HF : Hid (gat M rd (fs.take k) ++ (d ++ [(byt rs).take j]).filterMap (fun p => rd (trim p)) = (gat M rd (fs.take k) ++ d.filterMap fun p => rd (trim p)) ++ [byt x]) := by
                  show _ = _
                  rw [List.filterMap_append, List.filterMap_cons_some (by rw [HX2.out]; rfl), List.filterMap_nil, List.append_assoc]
                have HAP := hide hap
                have O6 := hide ho6
                have B6 := hide (B5.out.trans hb6)
                clear HX2 hap ho6 hb6 O5 B5
                go_wp2_with (refine wpList_app_run _ rfl _ _ 122 122 rfl _ _ rfl rfl HAP.out ?_)
                go_roundg (cms (byt r2)).length
                case measure => exact HLT2.out
                case rel => exact ⟨d ++ [(byt rs).take j], cms (byt r2), r2, true, rfl, rfl, HRS.out, rfl, HE2.out, rfl, by rw [HF.out]; exact O6.out, B6.out⟩
      · rw [decide_eq_false hs] at heq
        have hne : (LP.toList != nm.toList) = true := by rw [bne, heq]; rfl
        rw [if_neg hs, List.append_nil] at HSN
        clear hs
        go_wp2_with fail
        go_roundw
        case rel => exact ⟨k + 1, by omega, by go_num, by rw [HSN.out]; exact O2.out, B2.out⟩
        case measure => simp [intOf]; omega
    · have hdk : decide ((k : Int) < (n : Int)) = false := decide_eq_false (by omega)
      have HF : Hid (fs.take k = fs) := by show _ = _; exact List.take_of_length_le (by rw [H.out.hlen]; omega)
      go_wp2_with fail
      go_ret
      exact ⟨_, rfl, by rw [← HF.out]; exact HI.out.1, HI.out.2⟩
end Go.Proofs.YtccoddmdlbdfjaaGreatDoor
