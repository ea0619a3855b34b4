/-
  DeleteFunc of package slices at fields that are the caller's own; conditions as each theorem has them.
-/
import Derived.Test.YtccoddmdlbdfjaaGreatDoorCB
import Derived.Deep.DrawnRows
set_option linter.unusedSimpArgs false
set_option linter.unusedVariables false
namespace Go.Proofs.YtccoddmdlbdfjaaGreatDoor
open Go.RowKit

theorem fcs_set : ∀ (L : List Fd) (i : Nat) (f : Fd), i < L.length → ((fcs L).set (2 * i) (.string (strN f.1))).set (2 * i + 1) (.string (strN f.2)) = fcs (L.set i f)
  | [], i, f, h => by simp at h
  | g :: r, 0, f, h => by simp [fcs]
  | g :: r, i + 1, f, h => by
    have ih := fcs_set r i f (by simpa using h)
    rw [show 2 * (i + 1) = 2 * i + 1 + 1 by omega, show 2 * i + 1 + 1 + 1 = (2 * i + 1) + 1 + 1 by omega]
    simp only [fcs, List.set_cons_succ, ih]
theorem fcs_take (L : List Fd) (i : Nat) : (fcs L).take (2 * i) = fcs (L.take i) := by
  induction L generalizing i with
  | nil => simp [fcs]
  | cons x L ih =>
    cases i with
    | zero => simp [fcs]
    | succ i => rw [show 2 * (i + 1) = 2 * i + 1 + 1 by omega]; simp only [fcs, List.take_succ_cons, ih]
/-- 'clear' of fields. -/
theorem run_clearF (w : World) (ty : TypeId) (b o m c : Nat) (C : Array Value) (h : w.heap[b]? = some (.cells C 68)) (ho : o + 2 * m ≤ C.size) (hm : 0 < m) :
    ∃ C2 : Array Value, (Builtin.clear_ #[32] ty #[.slice (some ⟨b, o, none⟩) m c]).run Tryz.prog w = .ok (.tuple #[]) (w.setRow b C2) ∧ C2.size = C.size ∧ C2.toList.take o = C.toList.take o := by
  obtain ⟨i, hi, hz, hs, hby⟩ := inf76
  obtain ⟨Z, hZ⟩ : ∃ Z, Z = (Builtin.zeroCells (Value.agg #[.string ⟨#[]⟩, .string ⟨#[]⟩]).cells m).toList := ⟨_, rfl⟩
  have hcs : (Value.agg #[.string ⟨#[]⟩, .string ⟨#[]⟩]).cells = #[.string ⟨#[]⟩, .string ⟨#[]⟩] := rfl
  have hZl : Z.length = 2 * m := by
    rw [hZ, hcs, Builtin.zeroCells]
    simp
    omega
  have hZ1 : ∀ u ∈ Z, u.oneCell' = true := by
    intro u hu
    rw [hZ, hcs, Builtin.zeroCells] at hu
    simp only [Array.toList_map, Array.toList_range, List.mem_map, List.mem_range] at hu
    obtain ⟨k, _, rfl⟩ := hu
    rcases Nat.mod_two_eq_zero_or_one k with e | e
    · show Value.oneCell' (#[Value.string ⟨#[]⟩, Value.string ⟨#[]⟩][k % 2]!) = true
      rw [e]; rfl
    · show Value.oneCell' (#[Value.string ⟨#[]⟩, Value.string ⟨#[]⟩][k % 2]!) = true
      rw [e]; rfl
  have hst := run_storeCells_at Tryz.prog b o 68 Z 0 C w h (by rw [hZl]; omega) hZ1
  rw [Nat.add_zero] at hst
  obtain ⟨k, rfl⟩ : ∃ k, m = k + 1 := ⟨m - 1, by omega⟩
  refine ⟨_, by simp [Builtin.clear_, run_underlying Tryz.underlying32, zeroValue, typeInfo, hi, hz, ← hZ, hst]; rfl, ?_, ?_⟩
  · simp only [List.size_toArray, List.length_append, List.length_take, List.length_drop, hZl, Array.length_toList]; omega
  · rw [List.toList_toArray]; rw [List.take_append_of_le_length (by simp; omega), List.take_take, Nat.min_self]
theorem filter_snocN {p : Fd → Bool} (fs : List Fd) (j : Nat) (h : j < fs.length) : (fs.take (j + 1)).filter p = (fs.take j).filter p ++ (if p (fs.getD j ([], [])) = true then [fs.getD j ([], [])] else []) := by
  rw [take_getD (d := ([], [])) h, List.filter_append]
  congr 1
  rw [List.filter_cons, List.filter_nil]
theorem filter_le {p : Fd → Bool} (fs : List Fd) (j : Nat) (h : j ≤ fs.length) : ((fs.take j).filter p).length ≤ j := by
  have := List.length_filter_le p (fs.take j)
  simp at this
  omega
theorem fnd_head {p : Fd → Bool} {fs : List Fd} (h : fs.findIdx p < fs.length) : (fs.take (fs.findIdx p + 1)).filter (fun x => !p x) = fs.take (fs.findIdx p) := by
  have h1 : p (fs.getD (fs.findIdx p) ([], [])) = true := by
    have := List.findIdx_getElem (w := h)
    rw [List.getD_eq_getElem?_getD, List.getElem?_eq_getElem h]; exact this
  rw [filter_snocN fs _ h, if_neg (by rw [h1]; decide), List.append_nil]
  refine List.filter_eq_self.2 fun x hx => ?_
  obtain ⟨k, hk, rfl⟩ := List.mem_iff_getElem.1 hx
  have hk' : k < fs.findIdx p := by simp at hk; omega
  rw [List.getElem_take]
  simpa using List.not_of_lt_findIdx hk'
theorem fnd_self {p : Fd → Bool} {fs : List Fd} (h : ¬ fs.findIdx p < fs.length) : fs.filter (fun x => !p x) = fs := by
  have := List.findIdx_eq_length.1 (show fs.findIdx p = fs.length by have := List.findIdx_le_length (p := p) (xs := fs); omega)
  exact List.filter_eq_self.2 fun x hx => by simpa using this x hx
/-- Where a deletion stands. -/
structure Del (p : Fd → Bool) (fs L : List Fd) (i j : Nat) : Prop where
  len : L.length = fs.length
  ij : i < j
  jn : j ≤ fs.length
  tk : L.take i = (fs.take j).filter fun x => !p x
  dr : L.drop j = fs.drop j
theorem Del.getj {p : Fd → Bool} {fs L : List Fd} {i j : Nat} (h : Del p fs L i j) (hj : j < fs.length) : L.getD j ([], []) = fs.getD j ([], []) := by
  have := congrArg (fun l => l[0]?) h.dr
  simp only [List.getElem?_drop, Nat.add_zero] at this
  simp [List.getD, this]
theorem Del.skip {p : Fd → Bool} {fs L : List Fd} {i j : Nat} (h : Del p fs L i j) (hj : j < fs.length) (hp : p (fs.getD j ([], [])) = true) : Del p fs L i (j + 1) :=
  ⟨h.len, by have := h.ij; omega, by omega, by rw [filter_snocN fs j hj, if_neg (by simp only [hp]; decide), List.append_nil]; exact h.tk, by rw [← List.drop_drop, ← List.drop_drop, h.dr]⟩
theorem Del.put {p : Fd → Bool} {fs L : List Fd} {i j : Nat} (h : Del p fs L i j) (hj : j < fs.length) (hp : p (fs.getD j ([], [])) = false) : Del p fs (L.set i (fs.getD j ([], []))) (i + 1) (j + 1) := by
  have hi : i < L.length := by have := h.len; have := h.ij; omega
  refine ⟨by simp [h.len], by have := h.ij; omega, by omega, ?_, ?_⟩
  · rw [filter_snocN fs j hj, if_pos (by simp only [hp]; decide), ← h.tk]
    rw [List.take_add_one, List.take_set_of_le (Nat.le_refl _)]
    simp [hi]
  · rw [List.drop_set_of_lt (by have := h.ij; omega), ← List.drop_drop, ← List.drop_drop, h.dr]
set_option maxRecDepth 100000 in
set_option maxHeartbeats 4000000 in
theorem deleteX_at (f : Nat) (cap : Value) (p : Fd → Bool) (B : Nat) (v : Value) (fs : List Fd) (w : World) (h : OwnF w B v fs) (hb : okB fs) (hl : fs.length ≤ 1000)
    (hf : ∀ args w, (callFunc f args).run Tryz.prog w = .ok (.enter f args) w)
    (HP : ∀ (W : World) (x : Fd), x ∈ fs → (∀ g, v.ownBlock = some g → Kept g g w W) → Calls Tryz.prog f #[.agg #[.string (strN x.1), .string (strN x.2)], cap] W fun e w' => e = .returned (.bool (p x)) ∧ Below W.heap.size W w')
    (hBw : B ≤ w.heap.size) :
    Calls Tryz.prog 120 #[v, .func (.func f) #[] #[cap]] w fun e w' => ∃ v', e = .returned v' ∧ OwnF w' B v' (fs.filter fun x => !p x) ∧ KeptM (fun k => v.ownBlock = some k) w w' := by
  obtain ⟨a, c, rfl, hs, _⟩ := h.src hb
  have HI := hide (indexX_at f cap p a fs.length c fs w hs hf (fun W x hx k => HP W x hx fun g _ => Kept.of_below k))
  by_cases hk : fs.findIdx p < fs.length
  · rcases h.2 with ⟨_, h0⟩ | ⟨g, cp, cur, hv, hx, hh, hc, hm, hsz, ht⟩
    · omega
    simp only [Value.slice.injEq] at hv
    obtain ⟨rfl, _, rfl⟩ := hv
    have HPP := hide HP
    have HFE : Hid (fndI p fs = ((fs.findIdx p : Nat) : Int)) := by show _ = _; unfold fndI; rw [if_pos hk]
    rw [HFE.out] at HI
    have HD0 : Hid (Del p fs fs (fs.findIdx p) (fs.findIdx p + 1)) := ⟨rfl, by omega, by omega, (fnd_head hk).symm, rfl⟩
    obtain ⟨i0, hi0⟩ : ∃ i0, i0 = fs.findIdx p := ⟨_, rfl⟩
    rw [← hi0] at HI HD0 hk
    obtain ⟨n, hn⟩ : ∃ n, n = fs.length := ⟨_, rfl⟩
    obtain ⟨tl, htl⟩ : ∃ tl, tl = cur.toList.drop (2 * n) := ⟨_, rfl⟩
    have hcur : cur.toList = fcs fs ++ tl := by rw [htl, hn, ← ht, Nat.mul_comm 2]; simp
    have HTL : Hid (tl.length = 2 * (c - n)) := by show _ = _; rw [htl]; simp; omega
    have r0 : Row w g 68 (fcs fs ++ tl) := by rw [← hcur]; simpa [Row] using hh
    rw [← hn] at HI hl hc hk
    have HN := hide hn
    unfold maxLen at hm
    have hne : ((i0 : Int) == -1) = false := by simp
    have HBw := hide hBw
    have HX := hide hx
    have R0 := hide r0
    rw [← hn]
    clear hs h hb HP hx hh hsz ht hi0 htl hcur r0 hn HFE hBw
    go_enter Tryz.func120, Tryz.ntmps120
    go_wp2_with fail
    refine HI.out.mono ?_
    rintro e w1 ⟨rfl, k1⟩
    have R1 := hide (R0.out.below k1 R0.out.lt)
    have K1 : Hid (Kept g g w w1) := Kept.of_below k1
    clear k1 HI
    go_wp2_with fail
    go_loopw [5, 6] (fun vi vj wr => ∃ (i j : Nat) (L : List Fd), j ≤ n ∧ i < j ∧ vi = .int .i64 i ∧ vj = .int .i64 j ∧ Hid (Del p fs L i j) ∧ Hid (Row wr g 68 (fcs L ++ tl)) ∧ Hid (Kept g g w wr)) (fun _ vj _ => n - (intOf vj).toNat)
    case atStart => exact ⟨i0, i0 + 1, fs, by omega, by omega, rfl, rfl, HD0, R1, K1⟩
    case round =>
      obtain ⟨i, j, L, hj, hij, rfl, rfl, HD, HR, HK⟩ := hrel
      have hLn : L.length = n := by rw [HD.out.len, HN.out]
      have hcm : c ≤ 9223372036854775807 := by omega
      by_cases hjn : j < n
      · have hd : decide ((j : Int) < (n : Int)) = true := decide_eq_true (by omega)
        have hjf : j < fs.length := by rw [← HN.out]; exact hjn
        have hgj := HD.out.getj hjf
        have hcj := fcs_get L j (by omega)
        rw [hgj] at hcj
        have c0 : wr.cell? ⟨g, j * 2, none⟩ = some (.string (strN (fs.getD j ([], [])).1)) := by
          rw [HR.out.cell, List.getElem?_append_left (by rw [fcs_len]; omega), Nat.mul_comm j 2]; exact hcj.1
        have c1 : wr.cell? ⟨g, j * 2 + 1, none⟩ = some (.string (strN (fs.getD j ([], [])).2)) := by
          rw [HR.out.cell, List.getElem?_append_left (by rw [fcs_len]; omega), Nat.mul_comm j 2]; exact hcj.2
        have hmem : fs.getD j ([], []) ∈ fs := getD_mem hjf
        have HSK := hide (HD.out.skip hjf)
        have HPT := hide (HD.out.put hjf)
        have HST := hide (fcs_set L i (fs.getD j ([], [])) (by omega))
        have hA := HPP.out (wr.alloc (.cells #[.string (strN (fs.getD j ([], [])).1), .string (strN (fs.getD j ([], [])).2)] 68)) _ hmem (fun g' hg' => by obtain rfl : g = g' := (by simpa [Value.ownBlock] using hg'); exact HK.out.alloc _)
        obtain ⟨x, hx⟩ : ∃ x, x = fs.getD j ([], []) := ⟨_, rfl⟩
        rw [← hx] at c0 c1 hA HSK HPT HST
        obtain ⟨P, hP⟩ : ∃ P, P = strN x.1 := ⟨_, rfl⟩
        obtain ⟨Q, hQ⟩ : ∃ P, P = strN x.2 := ⟨_, rfl⟩
        obtain ⟨b, hb⟩ : ∃ b, b = p x := ⟨_, rfl⟩
        rw [← hP] at c0 hA HST
        rw [← hQ] at c1 hA HST
        rw [← hb] at hA HSK HPT
        obtain ⟨G, hG⟩ : ∃ G, G = wr.heap.size := ⟨_, rfl⟩
        obtain ⟨W1, hW1⟩ : ∃ W, W = wr.alloc (.cells #[.string P, .string Q] 68) := ⟨_, rfl⟩
        rw [← hW1] at hA
        have b1 : Below wr.heap.size wr W1 := by rw [hW1]; exact (Below.refl _ _).alloc (Nat.le_refl _) _
        have g1 : W1.heap[G]? = some (.cells #[.string P, .string Q] 68) := by rw [hW1, hG]; exact alloc_new _ _
        have e0 : W1.cell? ⟨G, 0, none⟩ = some (.string P) := by simp [World.cell?, g1]
        have e1 : W1.cell? ⟨G, 1, none⟩ = some (.string Q) := by simp [World.cell?, g1]
        have HA := hide hA
        have HW1 : Hid (wr.alloc (.cells #[.string P, .string Q] 68) = W1) := hW1.symm
        have HG := hide hG.symm
        have G1 := hide g1
        have K2 := hide (HK.out.trans2 b1)
        have R2 := hide (HR.out.below b1 HR.out.lt)
        have hne : g ≠ G := by have := HR.out.lt; omega
        clear hLn hgj hcj hmem hA hx hP hQ hb hG hW1 b1 g1 hjf HR HK
        cases b with
        | true =>
          have HD2 := hide (HSK.out rfl)
          clear HSK HPT HST
          go_wp2_with (first | (rw [HW1.out, HG.out]))
          try (rw [HW1.out, HG.out]; go_wp2_with fail)
          refine HA.out.mono ?_
          rintro e w2 ⟨rfl, k2⟩
          have K3 := hide (K2.out.trans2 k2)
          have R3 := hide (R2.out.below k2 R2.out.lt)
          clear k2 HA K2 R2 e0 e1 c0 c1
          go_wp2_with fail
          go_roundw
          case rel => exact ⟨i, j + 1, L, by omega, by omega, rfl, by go_num, HD2, R3, K3⟩
          case measure => simp [intOf]; omega
        | false =>
          have HD2 := hide (HPT.out rfl)
          clear HSK HPT
          go_wp2_with (first | (rw [HW1.out, HG.out]))
          try (rw [HW1.out, HG.out]; go_wp2_with fail)
          refine HA.out.mono ?_
          rintro e w2 ⟨rfl, k2⟩
          have g2 : w2.heap[G]? = some (.cells #[.string P, .string Q] 68) := keepB k2 G1.out
          have f0 : w2.cell? ⟨G, 0, none⟩ = some (.string P) := by simp [World.cell?, g2]
          have f1 : w2.cell? ⟨G, 1, none⟩ = some (.string Q) := by simp [World.cell?, g2]
          have K3 := hide (K2.out.trans2 k2)
          have R3 := hide (R2.out.below k2 R2.out.lt)
          have hil : i < L.length := by have := HD.out.len; have := HN.out; omega
          have hci := fcs_get L i hil
          have q0 : w2.cell? ⟨g, i * 2, none⟩ = some (.string (strN (L.getD i ([], [])).1)) := by
            rw [R3.out.cell, List.getElem?_append_left (by rw [fcs_len]; omega), Nat.mul_comm i 2]; exact hci.1
          have q1 : w2.cell? ⟨g, i * 2 + 1, none⟩ = some (.string (strN (L.getD i ([], [])).2)) := by
            rw [R3.out.cell, List.getElem?_append_left (by rw [fcs_len]; omega), Nat.mul_comm i 2]; exact hci.2
          obtain ⟨P', hP'⟩ : ∃ x, x = strN (L.getD i ([], [])).1 := ⟨_, rfl⟩
          obtain ⟨Q', hQ'⟩ : ∃ x, x = strN (L.getD i ([], [])).2 := ⟨_, rfl⟩
          rw [← hP'] at q0
          rw [← hQ'] at q1
          have r0 := R3.out.frozen (i * 2)
          have r1 := R3.out.frozen (i * 2 + 1)
          have R4 := hide ((R3.out.set (2 * i) (.string P)).set (2 * i + 1) (.string Q))
          rw [List.set_append_left _ _ (by rw [fcs_len]; omega), List.set_append_left _ _ (by simp [fcs_len]; omega), HST.out] at R4
          have K4 := hide ((K3.out.set (2 * i) (.string P)).set (2 * i + 1) (.string Q))
          rw [Nat.mul_comm 2 i] at R4 K4
          have hii : i < c := by omega
          clear k2 HA K2 R2 e0 e1 c0 c1 g2 HST hil hci hP' hQ'
          go_wp2_with fail
          go_roundw
          case rel => exact ⟨i + 1, j + 1, _, by omega, by omega, by go_num, by go_num, HD2, R4, K4⟩
          case measure => simp [intOf]; omega
      · have hd : decide ((j : Int) < (n : Int)) = false := decide_eq_false (by omega)
        obtain rfl : j = n := by omega
        obtain ⟨m, hm2⟩ : ∃ m, m = j - i := ⟨_, rfl⟩
        have hsz : (fcs L ++ tl).toArray.size = c * 2 := by simp only [List.size_toArray, List.length_append, fcs_len, HTL.out]; omega
        obtain ⟨C2, hcl, hC2, htk⟩ := run_clearF wr 0 g (2 * i) m (c - i) _ HR.out (by rw [hsz]; omega) (by omega)
        rw [Nat.mul_comm 2 i] at hcl
        have HCL := hide hcl
        have HO : Hid (OwnF (wr.setRow g C2) B (.slice (some ⟨g, 0, none⟩) i c) (fs.filter fun x => !p x)) := by
          have htk2 := HD.out.tk
          have htf : fs.take j = fs := List.take_of_length_le (by rw [← HN.out]; omega)
          rw [htf] at htk2
          have hli : (fs.filter fun x => !p x).length = i := by rw [← htk2]; simp; omega
          refine ⟨by rw [fcs_len, hli]; omega, Or.inr ⟨g, c, C2, by rw [hli], HX.out, setRow_heap wr g C2 _ _ HR.out, by rw [hli]; omega, by unfold maxLen; omega, by rw [hC2, hsz], ?_⟩⟩
          rw [hli, Nat.mul_comm i 2, htk, List.toList_toArray, List.take_append_of_le_length (by rw [fcs_len]; omega), fcs_take, htk2]
        have HB2 : Hid (KeptM (fun k => (Value.slice (some ⟨g, 0, none⟩) j c).ownBlock = some k) w (wr.setRow g C2)) := KeptM.of_kept (HK.out.setRow (p := g) (Or.inl rfl) C2) rfl rfl
        have HM := hide hm2
        have hji : j - i = m := hm2.symm
        have him : i ≤ j := by omega
        have hic : i ≤ c := by omega
        have hmc : m ≤ c - i := by omega
        clear hcl hC2 htk hsz hm2 hLn
        go_wp2_with fail
        rw [HCL.out]
        go_wp2_with fail
        go_ret
        exact ⟨_, rfl, HO.out, HB2.out⟩
  · have HFE : Hid (fndI p fs = -1) := by show _ = _; unfold fndI; rw [if_neg hk]
    rw [HFE.out] at HI
    rw [fnd_self hk]
    have H := hide h
    clear hs h hb HP HFE hk
    obtain ⟨n, hn⟩ : ∃ n, n = fs.length := ⟨_, rfl⟩
    rw [← hn] at HI hl
    have HN := hide hn
    have HBw := hide hBw
    rw [← hn]
    clear hn hBw
    go_enter Tryz.func120, Tryz.ntmps120
    go_wp2_with fail
    refine HI.out.mono ?_
    rintro e w1 ⟨rfl, k1⟩
    go_wp2_with fail
    go_ret
    exact ⟨_, rfl, by rw [HN.out]; exact H.out.below k1, KeptM.of_below k1⟩
end Go.Proofs.YtccoddmdlbdfjaaGreatDoor
