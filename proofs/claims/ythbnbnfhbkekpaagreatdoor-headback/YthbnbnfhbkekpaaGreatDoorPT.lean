/-
  What package head writes: targetOf, PutRequest, PutReply; conditions as each theorem has them.
-/
import Derived.Test.YthbnbnfhbkekpaaGreatDoorPU
import Derived.Test.YthbnbnfhbkekpaaGreatDoorBN
set_option linter.unusedSimpArgs false
set_option linter.unusedVariables false
namespace Go.Proofs.YthbnbnfhbkekpaaGreatDoor
open Go.RowKit

/-- The target of a request, if it has one. -/
def tgt (m D p : List Nat) : Option (List Nat) := if D = [] then none else if m = conn then (if p = [] then some D else none) else if path p = true then some (sch ++ (D ++ p)) else none
/-- What is written of a request. -/
def putQ (m D p : List Nat) (fs : List Fd) : List Nat × Nat := match tgt m D p with
  | none => ([], 2)
  | some t => if tok m = true then put (m ++ 32 :: (t ++ 32 :: v11)) fs else ([], 2)
/-- What is written of a reply. -/
def putY (s : Int) (r : List Nat) (fs : List Fd) : List Nat × Nat := if (100 ≤ s ∧ s ≤ 599) ∧ reason r = true then put (v11 ++ 32 :: (dec s.toNat ++ 32 :: r)) fs else ([], 2)
theorem det_lt (a : Ad) (n : List Nat) (p : Int) (hn : ∀ x ∈ n, x < 256) : ∀ x ∈ det a n p, x < 256 := by
  have hot_lt : ∀ x ∈ hot a n, x < 256 := by
    unfold hot
    split
    · split
      · intro x hx
        rcases adt_mem a x hx with h | h <;> omega
      · exact hn
    · intro x hx; simp at hx
  unfold det
  split
  · intro x hx
    simp only [List.mem_append, List.mem_cons] at hx
    rcases hx with hx | rfl | hx
    · exact hot_lt x hx
    · omega
    · exact dec_lt _ x hx
  · intro x hx; simp at hx
set_option maxRecDepth 100000 in
set_option maxHeartbeats 4000000 in
theorem targetOf_at (m : ByteArray) (a : Ad) (h : ByteArray) (p : Int) (t : ByteArray) (v : Value) (w : World) (ha : a.ok) (hh : h.size ≤ maxLen) (ht : t.size ≤ maxLen) (hV : Vars w) (hP : Pow w) :
    Calls Tryz.prog 54 #[.agg #[.string m, .int .u8 (a.1 : Nat), .int .u8 (a.2.1 : Nat), .int .u8 (a.2.2.1 : Nat), .int .u8 (a.2.2.2 : Nat), .string h, .int .i64 p, .string t, v]] w fun e w' => ∃ T ok, e = .returned (.tuple #[.string T, .bool ok]) ∧ (∀ x, tgt (byt m) (det a (byt h) p) (byt t) = some x → ok = true ∧ T = strN x) ∧ (tgt (byt m) (det a (byt h) p) (byt t) = none → ok = false) ∧ Below w.heap.size w w' := by
  obtain ⟨a0, a1, a2, a3⟩ := a
  obtain ⟨D, hD⟩ : ∃ D, D = det (a0, a1, a2, a3) (byt h) p := ⟨_, rfl⟩
  obtain ⟨G, hG⟩ : ∃ G, G = w.heap.size := ⟨_, rfl⟩
  obtain ⟨W1, hW1⟩ : ∃ W, W = w.alloc (.cells #[.string m, .int .u8 (a0 : Nat), .int .u8 (a1 : Nat), .int .u8 (a2 : Nat), .int .u8 (a3 : Nat), .string h, .int .i64 p, .string t, v] 44) := ⟨_, rfl⟩
  have b1 : Below w.heap.size w W1 := by rw [hW1]; exact (Below.refl _ _).alloc (Nat.le_refl _) _
  have g1 : W1.heap[G]? = some (.cells #[.string m, .int .u8 (a0 : Nat), .int .u8 (a1 : Nat), .int .u8 (a2 : Nat), .int .u8 (a3 : Nat), .string h, .int .i64 p, .string t, v] 44) := by rw [hW1, hG]; exact alloc_new _ _
  have HW1 : Hid (w.alloc (.cells #[.string m, .int .u8 (a0 : Nat), .int .u8 (a1 : Nat), .int .u8 (a2 : Nat), .int .u8 (a3 : Nat), .string h, .int .i64 p, .string t, v] 44) = W1) := hW1.symm
  have HG := hide hG.symm
  have G1 := hide g1
  have B1 := hide b1
  have HPD := hide (printDest_at (a0, a1, a2, a3) h p W1 ha hh (hV.below b1) (hP.below b1))
  simp only [deV] at HPD
  rw [← hD] at HPD
  have c1 : W1.cell? ⟨G, 1, none⟩ = some (.int .u8 (a0 : Nat)) := by simp [World.cell?, g1]
  have c2 : W1.cell? ⟨G, 2, none⟩ = some (.int .u8 (a1 : Nat)) := by simp [World.cell?, g1]
  have c3 : W1.cell? ⟨G, 3, none⟩ = some (.int .u8 (a2 : Nat)) := by simp [World.cell?, g1]
  have c4 : W1.cell? ⟨G, 4, none⟩ = some (.int .u8 (a3 : Nat)) := by simp [World.cell?, g1]
  have c5 : W1.cell? ⟨G, 5, none⟩ = some (.string h) := by simp [World.cell?, g1]
  have c6 : W1.cell? ⟨G, 6, none⟩ = some (.int .i64 p) := by simp [World.cell?, g1]
  have HDL : Hid (D.length ≤ 259) := by
    show _ ≤ _
    rw [hD]
    unfold det
    split
    · rename_i hc
      have h1 := hot_len (a0, a1, a2, a3) (byt h) ha
      have h2 := dec_len (n := p.toNat) (by omega)
      simp; omega
    · simp
  have HT := hide ht
  simp only
  rw [← hD]
  clear hW1 hG g1 b1 hV hP ha hh ht
  go_enter Tryz.func54, Tryz.ntmps54
  go_wp2_with (first | (rw [HW1.out, HG.out]))
  try (rw [HW1.out, HG.out]; go_wp2_with fail)
  refine HPD.out.mono ?_
  rintro e w2 ⟨rfl, k2⟩
  have B2 := hide (B1.out.trans (k2.mono B1.out.size))
  have g2 := keepB k2 G1.out
  have d0 : w2.cell? ⟨G, 0, none⟩ = some (.string m) := by simp [World.cell?, g2]
  have d7 : w2.cell? ⟨G, 7, none⟩ = some (.string t) := by simp [World.cell?, g2]
  have G2 := hide g2
  clear g2 k2 c1 c2 c3 c4 c5 c6 HPD B1 G1
  have hDs := strN_size D
  obtain ⟨T, hT⟩ : ∃ T, T = strN D := ⟨_, rfl⟩
  have HTT := hide hT
  have hTl : T.size ≤ 259 := by rw [hT, hDs]; exact HDL.out
  rw [← hT]
  have HTE : Hid (T.toList.isEmpty = decide (D = []) ∧ (T.toList == []) = decide (D = [])) := by
    by_cases e : D = []
    · subst e
      have := toList_nil T (by rw [hT]; rfl)
      simp only [decide_true]; exact this
    · have := toList_ne T (by rw [hT]; intro e2; apply e; have := congrArg List.length e2; rw [byt_length, hDs] at this; exact List.length_eq_zero_iff.1 this)
      rw [decide_eq_false e]; exact this
  clear hT hDs hD
  by_cases hD0 : D = []
  · obtain ⟨t1, t2⟩ := HTE.out
    rw [decide_eq_true hD0] at t1 t2
    have HR : Hid (tgt (byt m) D (byt t) = none) := by show _ = _; unfold tgt; rw [if_pos hD0]
    clear hD0 HTE
    go_wp2_with fail
    go_ret2
    exact ⟨_, _, rfl, (fun x hx => by rw [HR.out] at hx; cases hx), fun _ => rfl, B2.out⟩
  · obtain ⟨t1, t2⟩ := HTE.out
    rw [decide_eq_false hD0] at t1 t2
    have hcm : (m.toList == [67, 79, 78, 78, 69, 67, 84]) = decide (byt m = conn) := toList_byt m _
    have HT1 : Hid (tgt (byt m) D (byt t) = if byt m = conn then (if byt t = [] then some D else none) else if path (byt t) = true then some (sch ++ (D ++ byt t)) else none) := by show _ = _; unfold tgt; rw [if_neg hD0]
    clear hD0 HTE
    by_cases hc : byt m = conn
    · rw [decide_eq_true hc] at hcm
      rw [if_pos hc] at HT1
      clear hc
      by_cases htn : byt t = []
      · obtain ⟨e1, e2⟩ := toList_nil t htn
        rw [if_pos htn] at HT1
        clear htn
        go_wp2_with fail
        go_region
        all_goals go_wp2_with fail
        all_goals go_ret2
        all_goals exact ⟨_, _, rfl, (fun x hx => by rw [HT1.out] at hx; cases hx; exact ⟨rfl, HTT.out⟩), (fun hx => by rw [HT1.out] at hx; cases hx), B2.out.drew⟩
      · obtain ⟨e1, e2⟩ := toList_ne t htn
        rw [if_neg htn] at HT1
        clear htn
        go_wp2_with fail
        go_region
        all_goals go_wp2_with fail
        all_goals go_ret2
        all_goals exact ⟨_, _, rfl, (fun x hx => by rw [HT1.out] at hx; cases hx), (fun hx => rfl), B2.out.drew⟩
    · rw [decide_eq_false hc] at hcm
      rw [if_neg hc] at HT1
      clear hc
      have HIP := hide (isPath_at t w2 HT.out)
      go_wp2_with fail
      refine HIP.out.mono ?_
      rintro e w3 ⟨rfl, k3⟩
      have B3 := hide (B2.out.trans (k3.mono B2.out.size))
      have f7 : w3.cell? ⟨G, 7, none⟩ = some (.string t) := by simp [World.cell?, keepB k3 G2.out]
      clear k3 HIP B2
      cases hp : path (byt t) with
      | false =>
        rw [if_neg (by rw [hp]; simp)] at HT1
        clear hp
        go_wp2_with fail
        go_ret2
        exact ⟨_, _, rfl, (fun x hx => by rw [HT1.out] at hx; cases hx), (fun hx => rfl), B3.out⟩
      | true =>
        rw [if_pos hp] at HT1
        have hpl := (path_parts hp).2.1
        rw [byt_length] at hpl
        have n1 : ¬ (9223372036854775807 < 7 + T.size) := by omega
        have n2 : ¬ (9223372036854775807 < 7 + T.size + t.size) := by omega
        have HX : Hid ((⟨#[104, 116, 116, 112, 58, 47, 47]⟩ : ByteArray) ++ T ++ t = strN (sch ++ (D ++ byt t))) := by
          show _ = _
          rw [strN_append, strN_append, strN_byt, ← HTT.out, ByteArray.append_assoc]
          rfl
        clear hp
        go_wp2_with fail
        go_ret2
        exact ⟨_, _, rfl, (fun x hx => by rw [HT1.out] at hx; cases hx; exact ⟨rfl, HX.out⟩), (fun hx => by rw [HT1.out] at hx; cases hx), B3.out⟩
theorem tgt_parts {m D p x : List Nat} (h : tgt m D p = some x) (hD : D.length ≤ 259) (hDl : ∀ y ∈ D, y < 256) (hp : ∀ y ∈ p, y < 256) : x.length ≤ 3000 ∧ ∀ y ∈ x, y < 256 := by
  unfold tgt at h
  split at h
  · cases h
  · split at h
    · split at h
      · cases h; exact ⟨by omega, hDl⟩
      · cases h
    · split at h
      · rename_i hpp
        cases h
        have := (path_parts hpp).2.1
        refine ⟨by simp [sch]; omega, fun y hy => ?_⟩
        simp only [List.mem_append] at hy
        rcases hy with hy | hy | hy
        · have : ∀ y ∈ sch, y < 256 := by decide
          exact this y hy
        · exact hDl y hy
        · exact hp y hy
      · cases h
theorem byt_app (A B : ByteArray) : byt (A ++ B) = byt A ++ byt B := by simp [byt]
theorem det_len (a : Ad) (n : List Nat) (p : Int) (ha : a.ok) : (det a n p).length ≤ 259 := by
  unfold det
  split
  · rename_i hc
    have h1 := hot_len a n ha
    have h2 := dec_len (n := p.toNat) (by omega)
    simp; omega
  · simp
set_option maxRecDepth 100000 in
set_option maxHeartbeats 4000000 in
theorem putRequest_at (m : ByteArray) (a : Ad) (h : ByteArray) (p : Int) (t : ByteArray) (x : Option Addr) (n c : Nat) (fs : List Fd) (w : World) (ha : a.ok) (hm : m.size ≤ maxLen) (hh : h.size ≤ maxLen) (ht : t.size ≤ maxLen) (hs : SrcF w x n c fs) (hfm : ∀ f ∈ fs, f.1.length ≤ maxLen ∧ f.2.length ≤ maxLen) (hV : Vars w) (hP : Pow w) :
    Calls Tryz.prog 22 #[.agg #[.string m, .int .u8 (a.1 : Nat), .int .u8 (a.2.1 : Nat), .int .u8 (a.2.2.1 : Nat), .int .u8 (a.2.2.2 : Nat), .string h, .int .i64 p, .string t, .slice x n c]] w (Wrote (putQ (byt m) (det a (byt h) p) (byt t) fs) w) := by
  have hdl := det_lt a (byt h) p (byt_lt h)
  have hdn := det_len a (byt h) p ha
  obtain ⟨a0, a1, a2, a3⟩ := a
  obtain ⟨G, hG⟩ : ∃ G, G = w.heap.size := ⟨_, rfl⟩
  obtain ⟨W1, hW1⟩ : ∃ W, W = w.alloc (.cells #[.string m, .int .u8 (a0 : Nat), .int .u8 (a1 : Nat), .int .u8 (a2 : Nat), .int .u8 (a3 : Nat), .string h, .int .i64 p, .string t, .slice x n c] 44) := ⟨_, rfl⟩
  have b1 : Below w.heap.size w W1 := by rw [hW1]; exact (Below.refl _ _).alloc (Nat.le_refl _) _
  have g1 : W1.heap[G]? = some (.cells #[.string m, .int .u8 (a0 : Nat), .int .u8 (a1 : Nat), .int .u8 (a2 : Nat), .int .u8 (a3 : Nat), .string h, .int .i64 p, .string t, .slice x n c] 44) := by rw [hW1, hG]; exact alloc_new _ _
  have HW1 : Hid (w.alloc (.cells #[.string m, .int .u8 (a0 : Nat), .int .u8 (a1 : Nat), .int .u8 (a2 : Nat), .int .u8 (a3 : Nat), .string h, .int .i64 p, .string t, .slice x n c] 44) = W1) := hW1.symm
  have HG := hide hG.symm
  have G1 := hide g1
  have B1 := hide b1
  have HS := hide hs
  have HFM := hide hfm
  have HM := hide hm
  have HTG := hide (targetOf_at m (a0, a1, a2, a3) h p t (.slice x n c) W1 ha hh ht (hV.below b1) (hP.below b1))
  obtain ⟨D, hD⟩ : ∃ D, D = det (a0, a1, a2, a3) (byt h) p := ⟨_, rfl⟩
  simp only at HTG ⊢
  rw [← hD] at HTG hdl hdn ⊢
  obtain ⟨R, hR⟩ : ∃ R, R = tgt (byt m) D (byt t) := ⟨_, rfl⟩
  have HTP : Hid (∀ y, R = some y → y.length ≤ 3000 ∧ ∀ z ∈ y, z < 256) := fun y hy => tgt_parts (by rw [← hR]; exact hy) hdn hdl (byt_lt t)
  have HPN : Hid (R = none → putQ (byt m) D (byt t) fs = ([], 2)) := fun e => by unfold putQ; rw [← hR, e]
  have HPS : Hid (∀ y, R = some y → putQ (byt m) D (byt t) fs = if tok (byt m) = true then put (byt m ++ 32 :: (y ++ 32 :: v11)) fs else ([], 2)) := fun y e => by unfold putQ; rw [← hR, e]
  rw [← hR] at HTG
  clear hW1 hG g1 b1 hV hP ha hh ht hm hs hfm hdl hdn hD hR
  go_enter Tryz.func22, Tryz.ntmps22
  go_wp2_with (first | (rw [HW1.out, HG.out]) | (refine wpList_load_rowG rfl 44 _ rfl G rfl 44 #[.string m, .int .u8 (a0 : Nat), .int .u8 (a1 : Nat), .int .u8 (a2 : Nat), .int .u8 (a3 : Nat), .string h, .int .i64 p, .string t, .slice x n c] (0, 0) _ G1.out Tryz.underlying44 rfl info44 ?_))
  try (rw [HW1.out, HG.out]; go_wp2_with (first | (refine wpList_load_rowG rfl 44 _ rfl G rfl 44 #[.string m, .int .u8 (a0 : Nat), .int .u8 (a1 : Nat), .int .u8 (a2 : Nat), .int .u8 (a3 : Nat), .string h, .int .i64 p, .string t, .slice x n c] (0, 0) _ G1.out Tryz.underlying44 rfl info44 ?_)))
  refine HTG.out.mono ?_
  rintro e w2 ⟨T, ok, rfl, hsome, hnone, k2⟩
  have B2 := hide (B1.out.trans (k2.mono B1.out.size))
  have g2 := keepB k2 G1.out
  have d0 : w2.cell? ⟨G, 0, none⟩ = some (.string m) := by simp [World.cell?, g2]
  have G2 := hide g2
  clear g2 k2 HTG B1 G1
  cases R with
  | none =>
    obtain rfl := hnone rfl
    clear hsome hnone
    go_wp2_with fail
    go_ret2
    rw [show putQ (byt m) D (byt t) fs = ([], 2) by first | exact HPN.out rfl | exact HPN.out trivial]
    exact ⟨none, 0, rfl, Src.nilS _, B2.out⟩
  | some y =>
    obtain ⟨rfl, rfl⟩ := hsome y rfl
    obtain ⟨hyl, hyb⟩ := HTP.out y rfl
    have HPQ := hide (HPS.out y rfl)
    clear hsome hnone HTP HPS HPN
    have HTO := hide (token_at m w2 HM.out)
    go_wp2_with fail
    refine HTO.out.mono ?_
    rintro e w3 ⟨rfl, k3⟩
    have B3 := hide (B2.out.trans (k3.mono B2.out.size))
    have g3 := keepB k3 G2.out
    have f0 : w3.cell? ⟨G, 0, none⟩ = some (.string m) := by simp [World.cell?, g3]
    have f8 : w3.cell? ⟨G, 8, none⟩ = some (.slice x n c) := by simp [World.cell?, g3]
    have hs3 : SrcF w3 x n c fs := HS.out.keep (fun h0 i o ei => B3.out.block i (HS.out.lt h0 ei)) B3.out.size
    clear k3 g3 HTO B2 d0 G2
    cases htk : tok (byt m) with
    | false =>
      rw [htk] at HPQ
      clear htk hs3
      go_wp2_with fail
      go_ret2
      rw [HPQ.out]
      exact ⟨none, 0, rfl, Src.nilS _, B3.out⟩
    | true =>
      have hml := (tok_parts htk).2.1
      rw [byt_length] at hml
      have hyS := strN_size y
      obtain ⟨T, hT⟩ : ∃ T, T = strN y := ⟨_, rfl⟩
      have hTb : byt T = y := by rw [hT]; exact byt_strN y hyb
      rw [← hT] at hyS ⊢
      have n1 : ¬ (9223372036854775807 < m.size + 1) := by omega
      have n2 : ¬ (9223372036854775807 < m.size + 1 + T.size) := by omega
      have n3 : ¬ (9223372036854775807 < m.size + 1 + T.size + 1) := by omega
      have n4 : ¬ (9223372036854775807 < m.size + 1 + T.size + 1 + 8) := by omega
      obtain ⟨X, hX⟩ : ∃ X, X = m ++ ⟨#[32]⟩ ++ T ++ ⟨#[32]⟩ ++ ⟨#[72, 84, 84, 80, 47, 49, 46, 49]⟩ := ⟨_, rfl⟩
      have hXb : byt X = byt m ++ 32 :: (y ++ 32 :: v11) := by
        rw [hX, byt_app, byt_app, byt_app, byt_app, hTb]
        simp [byt, v11]
      have hXs : X.size ≤ 100000 := by rw [← byt_length, hXb]; simp [v11]; rw [byt_length]; omega
      have HPU := hide (put_at X x n c fs w3 hs3 HFM.out hXs)
      rw [hXb] at HPU
      have HX : Hid (m ++ ⟨#[32]⟩ ++ T ++ ⟨#[32]⟩ ++ ⟨#[72, 84, 84, 80, 47, 49, 46, 49]⟩ = X) := hX.symm
      rw [htk] at HPQ
      have HPR : Hid (putQ (byt m) D (byt t) fs = put (byt m ++ 32 :: (y ++ 32 :: v11)) fs) := by have h := HPQ.out; rw [if_pos rfl] at h; exact h
      clear htk hs3 hT hTb hX hXb hXs hml hyl hyb HPQ
      go_wp2_with fail
      rw [HX.out]
      refine HPU.out.mono ?_
      rintro e w4 ⟨ra, rc, rfl, hsr, k4⟩
      have S4 := hide hsr
      have B4 := hide (B3.out.trans (k4.mono B3.out.size))
      clear hsr k4 HPU B3
      go_wp2_with fail
      go_ret2
      rw [HPR.out]
      exact ⟨_, _, rfl, S4.out, B4.out⟩
set_option maxRecDepth 100000 in
set_option maxHeartbeats 4000000 in
theorem putReply_at (s : Int) (r : ByteArray) (x : Option Addr) (n c : Nat) (fs : List Fd) (w : World) (hs : SrcF w x n c fs) (hfm : ∀ f ∈ fs, f.1.length ≤ maxLen ∧ f.2.length ≤ maxLen) (hP : Pow w) :
    Calls Tryz.prog 24 #[.agg #[.int .i64 s, .string r, .slice x n c]] w (Wrote (putY s (byt r) fs) w) := by
  obtain ⟨G, hG⟩ : ∃ G, G = w.heap.size := ⟨_, rfl⟩
  obtain ⟨W1, hW1⟩ : ∃ W, W = w.alloc (.cells #[.int .i64 s, .string r, .slice x n c] 51) := ⟨_, rfl⟩
  have b1 : Below w.heap.size w W1 := by rw [hW1]; exact (Below.refl _ _).alloc (Nat.le_refl _) _
  have g1 : W1.heap[G]? = some (.cells #[.int .i64 s, .string r, .slice x n c] 51) := by rw [hW1, hG]; exact alloc_new _ _
  have HW1 : Hid (w.alloc (.cells #[.int .i64 s, .string r, .slice x n c] 51) = W1) := hW1.symm
  have HG := hide hG.symm
  have G1 := hide g1
  have B1 := hide b1
  have HS := hide hs
  have HFM := hide hfm
  have HP := hide (hP.below b1)
  have HPY : Hid (putY s (byt r) fs = if (100 ≤ s ∧ s ≤ 599) ∧ reason (byt r) = true then put (v11 ++ 32 :: (dec s.toNat ++ 32 :: byt r)) fs else ([], 2)) := rfl
  have c0 : W1.cell? ⟨G, 0, none⟩ = some (.int .i64 s) := by simp [World.cell?, g1]
  have c1 : W1.cell? ⟨G, 1, none⟩ = some (.string r) := by simp [World.cell?, g1]
  have HST := hide (isStatus_at s W1)
  clear hW1 hG g1 b1 hP hs hfm
  go_enter Tryz.func24, Tryz.ntmps24
  go_wp2_with (first | (rw [HW1.out, HG.out]))
  try (rw [HW1.out, HG.out]; go_wp2_with fail)
  refine HST.out.mono ?_
  rintro e w2 ⟨rfl, rfl⟩
  by_cases h1 : 100 ≤ s ∧ s ≤ 599
  · obtain ⟨k, rfl⟩ : ∃ k : Nat, s = k := ⟨s.toNat, by omega⟩
    rw [show (decide (100 ≤ (k : Int)) && decide ((k : Int) ≤ 599)) = true by simp; omega]
    have HRE := hide (isReason_at r W1)
    go_wp2_with fail
    refine HRE.out.mono ?_
    rintro e w3 ⟨rfl, k3⟩
    have B3 := hide (B1.out.trans (k3.mono B1.out.size))
    have g3 := keepB k3 G1.out
    have f0 : w3.cell? ⟨G, 0, none⟩ = some (.int .i64 (k : Nat)) := by simp [World.cell?, g3]
    have f1 : w3.cell? ⟨G, 1, none⟩ = some (.string r) := by simp [World.cell?, g3]
    have f2 : w3.cell? ⟨G, 2, none⟩ = some (.slice x n c) := by simp [World.cell?, g3]
    have G3 := hide g3
    have HIT := hide (itoa_at k w3 (by omega) (HP.out.below k3))
    have P3 := hide (HP.out.below k3)
    clear k3 g3 HRE HST B1 G1 HP c0 c1
    cases hre : reason (byt r) with
    | false =>
      rw [hre, if_neg (by simp)] at HPY
      clear hre
      go_wp2_with fail
      go_ret2
      rw [HPY.out]
      exact ⟨none, 0, rfl, Src.nilS _, B3.out⟩
    | true =>
      rw [hre, if_pos ⟨h1, rfl⟩] at HPY
      have hrl := (reason_parts hre).1
      rw [byt_length] at hrl
      clear hre
      have hdx := dec_len (n := k) (by omega)
      obtain ⟨D, hD⟩ : ∃ D, D = strN (dec k) := ⟨_, rfl⟩
      have hDs : D.size ≤ 5 := by rw [hD, strN_size]; exact hdx
      have hDb : byt D = dec k := by rw [hD]; exact byt_strN _ (dec_lt k)
      have n1 : ¬ (9223372036854775807 < 9 + D.size) := by omega
      have n2 : ¬ (9223372036854775807 < 9 + D.size + 1) := by omega
      have n3 : ¬ (9223372036854775807 < 9 + D.size + 1 + r.size) := by omega
      obtain ⟨X, hX⟩ : ∃ X, X = (⟨#[72, 84, 84, 80, 47, 49, 46, 49, 32]⟩ : ByteArray) ++ D ++ ⟨#[32]⟩ ++ r := ⟨_, rfl⟩
      have hXb : byt X = v11 ++ 32 :: (dec k ++ 32 :: byt r) := by
        rw [hX, byt_app, byt_app, byt_app, hDb]
        simp [byt, v11]
      have hXs : X.size ≤ 100000 := by rw [← byt_length, hXb]; simp [v11]; rw [byt_length]; omega
      have HX : Hid ((⟨#[72, 84, 84, 80, 47, 49, 46, 49, 32]⟩ : ByteArray) ++ D ++ ⟨#[32]⟩ ++ r = X) := hX.symm
      have HPU : Hid (∀ W, SrcF W x n c fs → Calls Tryz.prog 55 #[.string X, .slice x n c] W (Wrote (put (v11 ++ 32 :: (dec k ++ 32 :: byt r)) fs) W)) := fun W hW => by rw [← hXb]; exact put_at X x n c fs W hW HFM.out hXs
      have HIT2 : Hid (∀ W, Pow W → Calls Tryz.prog 61 #[.int .i64 (k : Int)] W fun e w' => e = .returned (.string D) ∧ Below W.heap.size W w') := fun W hW => by rw [hD]; exact itoa_at k W (by omega) hW
      rw [Int.toNat_natCast] at HPY
      clear hD hX hXb hXs hDb hdx hDs HIT hrl
      go_wp2_with fail
      go_region_held3 (fun w' => w'.cell? ⟨G, 0, none⟩ = some (.int .i64 (k : Nat)) ∧ w'.cell? ⟨G, 1, none⟩ = some (.string r) ∧ w'.cell? ⟨G, 2, none⟩ = some (.slice x n c)) (go_keep) (first
        | (go_at_call 61; refine (HIT2.out _ (by exact P3.out)).mono ?_; rintro e wq ⟨rfl, hk⟩; have hk' : Below w3.heap.size w3 wq := ⟨hk.os, hk.tape, hk.output, hk.size, hk.block⟩; have q3 := keepB hk' G3.out; have r0 : wq.cell? ⟨G, 0, none⟩ = some (.int .i64 (k : Nat)) := by simp [World.cell?, q3]
           have r1 : wq.cell? ⟨G, 1, none⟩ = some (.string r) := by simp [World.cell?, q3]
           have r2 : wq.cell? ⟨G, 2, none⟩ = some (.slice x n c) := by simp [World.cell?, q3]
           have BQ := hide (B3.out.trans (hk'.mono B3.out.size)); have GQ := hide q3; clear hk hk' q3)
        | (go_at_call 55; rw [HX.out]; refine (HPU.out _ (HS.out.keep (fun h0 i o ei => BQ.out.block i (HS.out.lt h0 ei)) BQ.out.size)).mono ?_; rintro e ws ⟨ra, rc, rfl, hsr, hk⟩; have hk' : Below wq.heap.size wq ws := ⟨hk.os, hk.tape, hk.output, hk.size, hk.block⟩; have q3 := keepB hk' GQ.out; have s0 : ws.cell? ⟨G, 0, none⟩ = some (.int .i64 (k : Nat)) := by simp [World.cell?, q3]
           have s1 : ws.cell? ⟨G, 1, none⟩ = some (.string r) := by simp [World.cell?, q3]
           have s2 : ws.cell? ⟨G, 2, none⟩ = some (.slice x n c) := by simp [World.cell?, q3]
           have SS := hide hsr; have BS := hide (BQ.out.trans (hk'.mono BQ.out.size)); clear hk hk' q3 hsr))
      all_goals go_wp2_with fail
      all_goals go_ret2
      all_goals rw [HPY.out]
      all_goals exact ⟨_, _, rfl, SS.out, BS.out⟩
  · rw [show (decide (100 ≤ s) && decide (s ≤ 599)) = false by rw [Bool.and_eq_false_iff, decide_eq_false_iff_not, decide_eq_false_iff_not]; omega]
    rw [if_neg (by intro h; exact h1 h.1)] at HPY
    go_wp2_with fail
    go_ret2
    rw [HPY.out]
    exact ⟨none, 0, rfl, Src.nilS _, B1.out⟩
end Go.Proofs.YthbnbnfhbkekpaaGreatDoor
