/-
  What package dns writes: questions; conditions as each theorem has them.
-/
import Derived.Test.YtabkelhipmijfaaGreatDoorJoined7
set_option linter.unusedSimpArgs false
set_option linter.unusedVariables false
namespace Go.Proofs.YtabkelhipmijfaaGreatDoor
open Go.RowKit

/-- Is it a query? -/
def qry (id : Int) (n : List Nat) : Bool := decide (0 ≤ id) && decide (id ≤ 65535) && decide (name n = (n, .ok))
theorem qry_nil (id : Int) : qry id [] = false := by
  have : ¬ name [] = ([], .ok) := fun h => (name_some (l := []) (by rw [h])).2.1 rfl
  simp [qry, this]
theorem chk_0 {n : List Nat} (h : n ≠ []) : chk (0, 0, 0, 0) n = decide (name n = (n, .ok)) := by simp [chk, h]
set_option maxRecDepth 100000 in
set_option maxHeartbeats 2000000 in
theorem isQuery_at (id : Int) (t : ByteArray) (w : World) (ht : t.size ≤ maxLen) (hV : Vars w) :
    Calls Tryz.prog 86 #[.agg #[.int .i64 id, .string t]] w fun e w' => e = .returned (.bool (qry id (byt t))) ∧ Below w.heap.size w w' := by
  have b1 : Below w.heap.size w (w.alloc (.cells #[.int .i64 id, .string t] 57)) := (Below.refl _ _).alloc (Nat.le_refl _) _
  have HC := hide (check_at (0, 0, 0, 0) t (w.alloc (.cells #[.int .i64 id, .string t] 57)) ht (hV.below b1))
  simp only [hoV] at HC
  have B1 := hide b1
  clear b1
  by_cases h1 : 0 ≤ id
  · have d1 : decide (0 ≤ id) = true := decide_eq_true h1
    by_cases h2 : id ≤ 65535
    · have d2 : decide (id ≤ 65535) = true := decide_eq_true h2
      by_cases h3 : byt t = []
      · have he : t.toList.isEmpty = true := by rw [isEmpty_byt]; simp [h3]
        have he2 : t.toList = [] := by simpa using he
        have HQ : Hid (qry id (byt t) = false) := by rw [h3]; exact qry_nil id
        rw [HQ.out]
        clear h1 h2 h3
        go_enter Tryz.func86, Tryz.ntmps86
        go_wp2_with fail
        go_ret
        exact ⟨rfl, B1.out⟩
      · have he : t.toList.isEmpty = false := by rw [isEmpty_byt]; simp [h3]
        have he2 : ¬ t.toList = [] := by intro e; rw [e] at he; cases he
        obtain ⟨R, hR⟩ : ∃ R, R = qry id (byt t) := ⟨_, rfl⟩
        have HQ : Hid (chk (0, 0, 0, 0) (byt t) = R) := by show _ = _; rw [chk_0 h3, hR, qry, d1, d2]; simp
        rw [← hR]
        rw [HQ.out] at HC
        clear h1 h2 h3 hR
        go_enter Tryz.func86, Tryz.ntmps86
        go_wp2_with fail
        refine HC.out.mono ?_
        rintro e w1 ⟨rfl, b2⟩
        have B2 := hide (B1.out.trans (b2.mono (by simp)))
        clear b2
        go_wp2_with fail
        go_ret
        exact ⟨rfl, B2.out⟩
    · have d2 : decide (id ≤ 65535) = false := decide_eq_false h2
      have HQ : Hid (qry id (byt t) = false) := by show _ = _; simp [qry, d2, h2]
      rw [HQ.out]
      clear h1 h2
      go_enter Tryz.func86, Tryz.ntmps86
      go_wp2_with fail
      go_ret
      exact ⟨rfl, B1.out⟩
  · have d1 : decide (0 ≤ id) = false := decide_eq_false h1
    have HQ : Hid (qry id (byt t) = false) := by show _ = _; simp [qry, d1, h1]
    rw [HQ.out]
    clear h1
    go_enter Tryz.func86, Tryz.ntmps86
    go_wp2_with fail
    go_ret
    exact ⟨rfl, B1.out⟩
/-- The bytes of labels. -/
def lbe (ps : List (List Nat)) : List Nat := ps.flatMap fun p => p.length :: p
/-- What is written of a question. -/
def putQ (id fl an : Nat) (n : List Nat) : List Nat := nums2 [id, fl, 1, an, 0, 0] ++ lbe (pcs n) ++ [0] ++ nums2 [1, 1]
theorem lbe_take (ps : List (List Nat)) (k : Nat) (h : k < ps.length) : lbe (ps.take (k + 1)) = lbe (ps.take k) ++ (ps.getD k []).length :: ps.getD k [] := by
  rw [take_getD (d := []) h]; simp [lbe]
theorem lbe_len : ∀ (ps : List (List Nat)), ps ≠ [] → (lbe ps).length = (jn ps).length + 1
  | [], h => absurd rfl h
  | [p], _ => by simp [lbe, jn]
  | p :: q :: r, _ => by
    have ih := lbe_len (q :: r) (by simp)
    simp only [lbe, List.flatMap_cons, jn, List.length_append, List.length_cons] at ih ⊢
    omega
theorem lbe_take_le (ps : List (List Nat)) (k : Nat) : (lbe (ps.take k)).length ≤ (lbe ps).length := by
  conv => rhs; rw [← List.take_append_drop k ps]
  unfold lbe
  rw [List.flatMap_append, List.length_append]
  omega
theorem lbe_lt {ps : List (List Nat)} (h1 : ∀ p ∈ ps, p.length < 256) (h2 : ∀ p ∈ ps, ∀ x ∈ p, x < 256) : ∀ x ∈ lbe ps, x < 256 := by
  intro x hx
  obtain ⟨p, hp, hx⟩ := List.mem_flatMap.1 hx
  rcases List.mem_cons.1 hx with rfl | hx
  · exact h1 p hp
  · exact h2 p hp x hx
theorem nums2_lt (l : List Nat) : ∀ x ∈ nums2 l, x < 256 := fun x hx => by
  obtain ⟨y, _, hy⟩ := List.mem_flatMap.1 hx; exact num2_lt y x hy
theorem row_get9 {w : World} {r : Nat} {ps : List (List Nat)} (h : Row w r 9 (strs ps)) {k : Nat} (hk : k < ps.length) : w.cell? ⟨r, k, none⟩ = some (.string (strN (ps.getD k []))) := by
  rw [h.cell]; exact strs_get ps k hk
set_option maxRecDepth 100000 in
set_option maxHeartbeats 4000000 in
theorem putQuestion_at (id fl an : Nat) (t : ByteArray) (w : World) (hid : id < 65536) (hfl : fl < 65536) (han : an < 65536) (ht : t.size ≤ 253) (hV : Vars w) :
    Calls Tryz.prog 75 #[.agg #[.int .i64 (id : Nat), .string t], .int .i64 (fl : Nat), .int .i64 (an : Nat)] w fun e w' => ∃ v, e = .returned v ∧ Own w' w.heap.size 5 v (nums .u8 (putQ id fl an (byt t))) ∧ Below w.heap.size w w' := by
  obtain ⟨W1, hW1⟩ : ∃ W1, W1 = (w.alloc (.cells #[.int .i64 (id : Nat), .string t] 57)).alloc (.cells #[.int .i64 (id : Nat), .int .i64 (fl : Nat), .int .i64 1, .int .i64 (an : Nat), .int .i64 0, .int .i64 0] 3) := ⟨_, rfl⟩
  have b1 : Below w.heap.size w W1 := by rw [hW1]; exact ((Below.refl _ _).alloc (Nat.le_refl _) _).alloc (by simp) _
  have r1 : Row W1 (w.heap.size + 1) 3 (nums .i64 [id, fl, 1, an, 0, 0]) := by
    rw [hW1]
    exact alloc_new2 w _ _
  have r0 : Row W1 w.heap.size 57 [.int .i64 (id : Nat), .string t] := by
    rw [hW1]
    exact (Row.new w #[.int .i64 (id : Nat), .string t] 57).alloc _
  have HN := hide (putNumbers_at (.slice none 0 0) [] W1.heap.size (w.heap.size + 1) [id, fl, 1, an, 0, 0] W1 (own_nil _ _) (Nat.le_refl _) r1 (by simp) (by simp) (by simp; omega) (by simp))
  have HW1 := hide hW1.symm
  have B1 := hide b1
  have R0 := hide r0
  obtain ⟨ps, hps⟩ : ∃ ps, ps = pcs (byt t) := ⟨_, rfl⟩
  have hpl : ∀ p ∈ ps, p.length ≤ 253 := fun p hp => by have := (pcs_len (byt t)).2 p (hps ▸ hp); rw [byt_length] at this; omega
  have hpb : ∀ p ∈ ps, ∀ x ∈ p, x < 256 := by rw [hps]; exact pcs_lt (byt_lt t)
  have hpn : ps.length ≤ 254 := by rw [hps]; have := (pcs_len (byt t)).1; rw [byt_length] at this; omega
  have hll : (lbe ps).length ≤ 254 := by rw [hps, lbe_len _ (pcs_ne _), jn_pcs, byt_length]; omega
  have HPS := hide hps
  have HPL := hide hpl
  have HPB := hide hpb
  have HLL := hide hll
  have hW1s : W1.heap.size = w.heap.size + 2 := by rw [hW1]; simp
  have HVV := hide hV
  clear hW1 b1 r1 r0 hps hpl hpb hV hll
  go_enter Tryz.func75, Tryz.ntmps75
  go_wp2_with fail
  rw [HW1.out]
  refine HN.out.mono ?_
  rintro e w2 ⟨v2, rfl, o2, b2⟩
  have r2 := R0.out.below b2 (by omega)
  have c1 : w2.cell? ⟨w.heap.size, 1, none⟩ = some (.string t) := r2.cell 1
  have hg2 := r2.lt
  have B2 := hide (B1.out.trans (b2.mono (by omega)))
  have hV2 : Vars w2 := (HVV.out.below B1.out).below b2
  obtain ⟨m2, hm2⟩ := hV2
  have HS := hide (split_at t m2 w2 w2.heap.size rfl (by omega) hm2)
  have O2 := hide o2
  have hs2 := b2.size
  clear b2 r2 o2 HN hm2
  go_wp2_with fail
  refine HS.out.mono ?_
  rintro e w3 ⟨rfl, hw3⟩
  rw [← HPS.out] at hw3 ⊢
  have i3 : Row w3 w2.heap.size 9 (strs ps) := by
    rw [hw3]; simpa using Row.new w2 (strs ps).toArray 9
  have b3 : Below w2.heap.size w2 w3 := by rw [hw3]; exact (Below.refl _ _).alloc (Nat.le_refl _) _
  have o3 : Own w3 w.heap.size 5 v2 (nums .u8 (nums2 [id, fl, 1, an, 0, 0] ++ lbe (ps.take 0))) := by
    have := O2.out.below b3
    refine ⟨?_, ?_⟩
    · simp
    · rcases this.2 with h | ⟨x, cap, cur, h1, h2, h3⟩
      · exact Or.inl (by simpa [lbe] using h)
      · exact Or.inr ⟨x, cap, cur, by simpa [lbe] using h1, by omega, by simpa [lbe] using h3⟩
  have HI : Hid (Own w3 w.heap.size 5 v2 (nums .u8 (nums2 [id, fl, 1, an, 0, 0] ++ lbe (ps.take 0))) ∧ Row w3 w2.heap.size 9 (strs ps) ∧ Below w.heap.size w w3) := ⟨o3, i3, B2.out.trans (b3.mono (by omega))⟩
  obtain ⟨r, hr⟩ : ∃ r, r = w2.heap.size := ⟨_, rfl⟩
  rw [← hr] at HI ⊢
  obtain ⟨H6, hH6⟩ : ∃ H6, H6 = nums2 [id, fl, 1, an, 0, 0] := ⟨_, rfl⟩
  have h6l : H6.length = 12 := by rw [hH6]; rfl
  have HH6 := hide hH6
  rw [← hH6] at HI
  clear b3 i3 o3 hw3 HS hH6 c1 hr
  go_wp2_with fail
  go_loopw [7, 20] (fun x i wr => ∃ k : Nat, k ≤ ps.length ∧ i = .int .i64 k ∧ Hid (Own wr w.heap.size 5 x (nums .u8 (H6 ++ lbe (ps.take k))) ∧ Row wr r 9 (strs ps) ∧ Below w.heap.size w wr)) (fun _ i _ => ps.length - (intOf i).toNat)
  case atStart => exact ⟨0, by omega, rfl, HI.out⟩
  case round =>
    obtain ⟨k, hk, rfl, HJ⟩ := hrel
    obtain ⟨ow, rw_, bl⟩ := HJ.out
    have hH6b : ∀ x ∈ H6, x < 256 := by rw [HH6.out]; exact nums2_lt _
    have hMl : (H6 ++ lbe (ps.take k)).length ≤ 266 := by rw [List.length_append]; have := lbe_take_le ps k; have := HLL.out; omega
    have hMb : ∀ x ∈ H6 ++ lbe (ps.take k), x < 256 := fun x hx => by
      rcases List.mem_append.1 hx with h | h
      · exact hH6b x h
      · exact lbe_lt (fun p hp => by have := HPL.out p (List.mem_of_mem_take hp); omega) (fun p hp => HPB.out p (List.mem_of_mem_take hp)) x h
    by_cases hkn : k < ps.length
    · have hd : decide ((k : Int) < (ps.length : Int)) = true := decide_eq_true (by omega)
      have hd' : decide (k < ps.length) = true := decide_eq_true (by omega)
      have ck := row_get9 rw_ hkn
      have hrl := rw_.lt
      have hm := getD_mem (d := []) hkn
      have hP1 := HPL.out _ hm
      have hP2 := HPB.out _ hm
      have hnt := lbe_take ps k hkn
      obtain ⟨P, hP⟩ : ∃ P, P = ps.getD k [] := ⟨_, rfl⟩
      rw [← hP] at ck hP1 hP2 hnt
      obtain ⟨T, hT⟩ : ∃ T, T = strN P := ⟨_, rfl⟩
      have hTs : T.size = P.length := by rw [hT, strN_size]
      have hTb : byt T = P := by rw [hT, byt_strN P hP2]
      rw [← hT] at ck
      obtain ⟨M, hM⟩ : ∃ M, M = H6 ++ lbe (ps.take k) := ⟨_, rfl⟩
      rw [← hM] at ow hMl hMb
      have HM : Hid (H6 ++ lbe (ps.take (k + 1)) = M ++ [T.size] ++ byt T) := by show _ = _; rw [hnt, ← List.append_assoc, ← hM, hTb, hTs]; simp
      obtain ⟨xa, xc, rfl, xs, xb⟩ := own_src ow hMb
      have hBr := bl.size
      obtain ⟨v4, w4, ap4, ow4, bl4, bu4⟩ := run_appN ow [T.size] (by simp; omega) (by simp; omega) hBr
      have AP4 : Hid ((Builtin.append_ #[30, 30] 30 #[.slice xa M.length xc, .slice (some ⟨wr.heap.size, 0, none⟩) 1 1]).run Tryz.prog (wr.alloc (.cells #[.int .u8 (T.size : Nat)] 5)) = .ok v4 w4) := ap4
      have r4 := ow.but (u := v4) rw_ (by decide) bu4
      have hM4 : ∀ x ∈ M ++ [T.size], x < 256 := fun x hx => by rcases List.mem_append.1 hx with h | h; exact hMb x h; simp at h; omega
      obtain ⟨xa4, xc4, rfl, _⟩ := own_src ow4 hM4
      obtain ⟨v5, w5, ap5, ow5, bl5, bu5⟩ := run_apps ow4 T (by rw [List.length_append]; simp; omega) (Nat.le_trans hBr bl4.size)
      have AP5 := hide ap5
      obtain ⟨L4, hL4⟩ : ∃ L4, L4 = (M ++ [T.size]).length := ⟨_, rfl⟩
      rw [← hL4] at AP4 AP5
      have HI2 : Hid (Own w5 w.heap.size 5 v5 (nums .u8 (H6 ++ lbe (ps.take (k + 1)))) ∧ Row w5 r 9 (strs ps) ∧ Below w.heap.size w w5) := ⟨by rw [HM.out]; exact ow5, ow4.but (u := v5) r4 (by decide) bu5, (bl.trans bl4).trans bl5⟩
      have hTl : T.size ≤ 253 := by omega
      clear ow bl rw_ xs xb ap4 ow4 bl4 bu4 hM hMb hnt hMl HJ HM r4 hM4 ap5 ow5 bl5 bu5 hL4 hT hTs hTb hP hP1 hP2 hm hH6b HI
      go_wp2_with (first
        | (refine wpList_app_run _ rfl _ _ 30 30 rfl (.slice xa M.length xc) (.slice (some ⟨wr.heap.size, 0, none⟩) 1 1) rfl rfl AP4.out ?_)
        | (refine wpList_app_run _ rfl _ _ 30 9 rfl (.slice xa4 L4 xc4) (.string T) rfl rfl AP5.out ?_))
      go_roundw
      case rel => exact ⟨k + 1, by omega, by go_num, HI2.out⟩
      case measure => simp [intOf]; omega
    · have hd : decide ((k : Int) < (ps.length : Int)) = false := decide_eq_false (by omega)
      have hd' : decide (k < ps.length) = false := decide_eq_false (by omega)
      rw [List.take_of_length_le (by omega)] at ow hMl hMb
      obtain ⟨M, hM⟩ : ∃ M, M = H6 ++ lbe ps := ⟨_, rfl⟩
      rw [← hM] at ow hMl hMb
      obtain ⟨xa, xc, rfl, xs, xb⟩ := own_src ow hMb
      have hBr := bl.size
      obtain ⟨v4, w4, ap4, ow4, bl4, bu4⟩ := run_appN ow [0] (by simp) (by simp; omega) hBr
      have AP4 : Hid ((Builtin.append_ #[30, 30] 30 #[.slice xa M.length xc, .slice (some ⟨wr.heap.size, 0, none⟩) 1 1]).run Tryz.prog (wr.alloc (.cells #[.int .u8 0] 5)) = .ok v4 w4) := ap4
      have hM4 : ∀ x ∈ M ++ [0], x < 256 := fun x hx => by rcases List.mem_append.1 hx with h | h; exact hMb x h; simp at h; omega
      have HM : Hid (putQ id fl an (byt t) = M ++ [0] ++ nums2 [1, 1]) := by show _ = _; rw [putQ, ← HPS.out, ← HH6.out, hM]
      have ra : Row (w4.alloc (.cells #[.int .i64 1, .int .i64 1] 3)) w4.heap.size 3 (nums .i64 [1, 1]) := Row.new w4 #[.int .i64 1, .int .i64 1] 3
      have ba : Below w4.heap.size w4 (w4.alloc (.cells #[.int .i64 1, .int .i64 1] 3)) := (Below.refl _ _).alloc (Nat.le_refl _) _
      have HP := hide (putNumbers_at v4 (M ++ [0]) w.heap.size w4.heap.size [1, 1] _ (ow4.below ba) (by have := bl4.size; have := ba.size; omega) ra (by rw [List.length_append]; simp; omega) (by simp) (by simp) hM4)
      have B4 := hide ((bl.trans bl4).trans (ba.mono (Nat.le_trans hBr bl4.size)))
      clear HJ ow bl rw_ xs xb ap4 ow4 bl4 bu4 hM hMb hMl hM4 ra ba hH6b HI
      go_wp2_with (first
        | (refine wpList_app_run _ rfl _ _ 30 30 rfl (.slice xa M.length xc) (.slice (some ⟨wr.heap.size, 0, none⟩) 1 1) rfl rfl AP4.out ?_))
      refine HP.out.mono ?_
      rintro e w6 ⟨v6, rfl, o6, b6⟩
      have O6 := hide o6
      have B6 := hide (B4.out.trans b6)
      clear o6 b6
      go_wp2_with fail
      go_ret
      rw [HM.out]
      exact ⟨v6, rfl, O6.out, B6.out⟩
end Go.Proofs.YtabkelhipmijfaaGreatDoor
