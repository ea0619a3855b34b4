/-
  Comparisons of heads; Request and Reply of package head, with where their fields lie; and the walk of HeadReads; conditions as each theorem has them.
-/
import Derived.Test.YthbnbnfhbkekpaaGreatDoorRQ
import Derived.Test.YthbnbnfhbkekpaaGreatDoorRY
import Derived.Test.YthbnbnfhbkekpaaGreatDoorHK
import Derived.Test.YthbnbnfhbkekpaaGreatDoorHL
set_option linter.unusedSimpArgs false
set_option linter.unusedVariables false

namespace Go.Proofs.YthbnbnfhbkekpaaGreatDoor
open Go.RowKit

set_option maxRecDepth 100000 in
set_option maxHeartbeats 4000000 in
theorem same_reply (w : World) (s : Int) (t : ByteArray) (a b : Option Addr) (n c m d : Nat) (fs : List Fd) (h1 : SrcF w a n c fs) (h2 : SrcF w b m d fs) : Calls Tryz.prog 18 #[.agg #[.int .i64 s, .string t, .slice a n c], .agg #[.int .i64 s, .string t, .slice b m d]] w fun e w' => e = .returned (.bool true) ∧ Below w.heap.size w w' := by
  have b2 : Below w.heap.size w ((w.alloc (.cells #[.int .i64 s, .string t, .slice a n c] 51)).alloc (.cells #[.int .i64 s, .string t, .slice b m d] 51)) := ((Below.refl _ _).alloc (Nat.le_refl _) _).alloc (by simp) _
  have HS := hide (same_fields _ a b n c m d fs (h1.below b2) (h2.below b2))
  have B2 := hide b2
  have ss : (s == s) = true := by simp
  clear h1 h2 b2
  go_enter Tryz.func18, Tryz.ntmps18
  go_wp2_with fail
  refine HS.out.mono ?_
  rintro e w3 ⟨rfl, k3⟩
  have B3 := hide (B2.out.trans (k3.mono B2.out.size))
  clear k3 B2 HS
  go_wp2_with fail
  go_ret
  exact ⟨rfl, B3.out⟩
set_option maxRecDepth 100000 in
set_option maxHeartbeats 4000000 in
theorem same_request (w : World) (q : ByteArray) (x0 x1 x2 x3 : Nat) (s : ByteArray) (p : Int) (t : ByteArray) (a b : Option Addr) (n c m d : Nat) (fs : List Fd) (h1 : SrcF w a n c fs) (h2 : SrcF w b m d fs) : Calls Tryz.prog 15 #[.agg #[.string q, .int .u8 (x0 : Nat), .int .u8 (x1 : Nat), .int .u8 (x2 : Nat), .int .u8 (x3 : Nat), .string s, .int .i64 p, .string t, .slice a n c], .agg #[.string q, .int .u8 (x0 : Nat), .int .u8 (x1 : Nat), .int .u8 (x2 : Nat), .int .u8 (x3 : Nat), .string s, .int .i64 p, .string t, .slice b m d]] w fun e w' => e = .returned (.bool true) ∧ Below w.heap.size w w' := by
  obtain ⟨r1, hr1⟩ : ∃ r : Array Value, r = #[.string q, .int .u8 (x0 : Nat), .int .u8 (x1 : Nat), .int .u8 (x2 : Nat), .int .u8 (x3 : Nat), .string s, .int .i64 p, .string t, .slice a n c] := ⟨_, rfl⟩
  obtain ⟨r2, hr2⟩ : ∃ r : Array Value, r = #[.string q, .int .u8 (x0 : Nat), .int .u8 (x1 : Nat), .int .u8 (x2 : Nat), .int .u8 (x3 : Nat), .string s, .int .i64 p, .string t, .slice b m d] := ⟨_, rfl⟩
  obtain ⟨W2, hW2⟩ : ∃ W, W = (w.alloc (.cells r1 44)).alloc (.cells r2 44) := ⟨_, rfl⟩
  have b2 : Below w.heap.size w W2 := by rw [hW2]; exact ((Below.refl _ _).alloc (Nat.le_refl _) _).alloc (by simp) _
  have HS := hide (same_fields _ a b n c m d fs (h1.below b2) (h2.below b2))
  have B2 := hide b2
  obtain ⟨F, hF⟩ : ∃ F, F = w.heap.size := ⟨_, rfl⟩
  obtain ⟨G, hG⟩ : ∃ G, G = w.heap.size + 1 := ⟨_, rfl⟩
  have g1 : W2.heap[F]? = some (.cells r1 44) := by rw [hW2, hF]; exact alloc_old _ (alloc_new _ _)
  have g2 : W2.heap[G]? = some (.cells r2 44) := by rw [hW2, hG]; exact alloc_new2 _ _ _
  have eF0 : W2.cell? ⟨F, 0, none⟩ = some (.string q) := by simp [World.cell?, g1, hr1]
  have eF1 : W2.cell? ⟨F, 1, none⟩ = some (.int .u8 (x0 : Nat)) := by simp [World.cell?, g1, hr1]
  have eF2 : W2.cell? ⟨F, 2, none⟩ = some (.int .u8 (x1 : Nat)) := by simp [World.cell?, g1, hr1]
  have eF3 : W2.cell? ⟨F, 3, none⟩ = some (.int .u8 (x2 : Nat)) := by simp [World.cell?, g1, hr1]
  have eF4 : W2.cell? ⟨F, 4, none⟩ = some (.int .u8 (x3 : Nat)) := by simp [World.cell?, g1, hr1]
  have eF5 : W2.cell? ⟨F, 5, none⟩ = some (.string s) := by simp [World.cell?, g1, hr1]
  have eF6 : W2.cell? ⟨F, 6, none⟩ = some (.int .i64 p) := by simp [World.cell?, g1, hr1]
  have eF7 : W2.cell? ⟨F, 7, none⟩ = some (.string t) := by simp [World.cell?, g1, hr1]
  have eF8 : W2.cell? ⟨F, 8, none⟩ = some (.slice a n c) := by simp [World.cell?, g1, hr1]
  have eG0 : W2.cell? ⟨G, 0, none⟩ = some (.string q) := by simp [World.cell?, g2, hr2]
  have eG1 : W2.cell? ⟨G, 1, none⟩ = some (.int .u8 (x0 : Nat)) := by simp [World.cell?, g2, hr2]
  have eG2 : W2.cell? ⟨G, 2, none⟩ = some (.int .u8 (x1 : Nat)) := by simp [World.cell?, g2, hr2]
  have eG3 : W2.cell? ⟨G, 3, none⟩ = some (.int .u8 (x2 : Nat)) := by simp [World.cell?, g2, hr2]
  have eG4 : W2.cell? ⟨G, 4, none⟩ = some (.int .u8 (x3 : Nat)) := by simp [World.cell?, g2, hr2]
  have eG5 : W2.cell? ⟨G, 5, none⟩ = some (.string s) := by simp [World.cell?, g2, hr2]
  have eG6 : W2.cell? ⟨G, 6, none⟩ = some (.int .i64 p) := by simp [World.cell?, g2, hr2]
  have eG7 : W2.cell? ⟨G, 7, none⟩ = some (.string t) := by simp [World.cell?, g2, hr2]
  have eG8 : W2.cell? ⟨G, 8, none⟩ = some (.slice b m d) := by simp [World.cell?, g2, hr2]
  have HW2 : Hid ((w.alloc (.cells #[.string q, .int .u8 (x0 : Nat), .int .u8 (x1 : Nat), .int .u8 (x2 : Nat), .int .u8 (x3 : Nat), .string s, .int .i64 p, .string t, .slice a n c] 44)).alloc (.cells #[.string q, .int .u8 (x0 : Nat), .int .u8 (x1 : Nat), .int .u8 (x2 : Nat), .int .u8 (x3 : Nat), .string s, .int .i64 p, .string t, .slice b m d] 44) = W2) := by rw [← hr1, ← hr2]; exact hW2.symm
  have HF := hide hF.symm
  have HG := hide hG.symm
  clear h1 h2 b2 hW2 hr1 hr2 g1 g2 hF hG
  go_enter Tryz.func15, Tryz.ntmps15
  go_wp2_with (first | (rw [HW2.out, HG.out, HF.out]))
  try (rw [HW2.out, HG.out, HF.out]; go_wp2_with fail)
  refine HS.out.mono ?_
  rintro e w3 ⟨rfl, k3⟩
  have B3 := hide (B2.out.trans (k3.mono B2.out.size))
  clear k3 B2 HS
  go_wp2_with fail
  go_ret
  exact ⟨rfl, B3.out⟩
end Go.Proofs.YthbnbnfhbkekpaaGreatDoor

namespace Go.Proofs.YthbnbnfhbkekpaaGreatDoor
open Go.RowKit
set_option maxRecDepth 100000 in
set_option maxHeartbeats 4000000 in
theorem request2_at (a : Option Addr) (n c : Nat) (l : List Nat) (w : World) (h : Src w a n c l) (hV : Vars w) (hE : VarE w) : Calls Tryz.prog 13 #[.slice a n c] w fun e w' => ∃ ad cap v, e = .returned (.tuple #[.agg (rqC (request l).1.1 (.slice ad (request l).1.2.length cap)), .int .i64 ((request l).2.1 : Nat), v]) ∧ SrcF w' ad (request l).1.2.length cap (request l).1.2 ∧ IsH w' (request l).2.2 v ∧ Below w.heap.size w w' ∧ (∀ b o, ad = some ⟨b, o, none⟩ → w.heap.size ≤ b) := by
  have b0 : Below w.heap.size w (w.alloc (.cells z9 44)) := (Below.refl _ _).alloc (Nat.le_refl _) _
  have v0 := hV.below b0
  have e0 := hE.below b0
  have s0 := h.below b0
  obtain ⟨W0, hW0⟩ : ∃ W0, W0 = w.alloc (.cells z9 44) := ⟨_, rfl⟩
  rw [← hW0] at b0 v0 e0 s0
  have R0 : Hid (W0.heap[w.heap.size]? = some (.cells z9 44)) := by rw [hW0]; exact alloc_new _ _
  have HW0 : Hid (w.alloc (.cells #[.string ⟨#[]⟩, .int .u8 0, .int .u8 0, .int .u8 0, .int .u8 0, .string ⟨#[]⟩, .int .i64 0, .string ⟨#[]⟩, .slice none 0 0] 44) = W0) := hW0.symm
  have HEN := hide (end_at a n c l W0 s0 v0)
  have B0 := hide b0
  have V0 := hide v0
  have E0 := hide e0
  have S0 := hide s0
  have hcl := h.hcap
  have hmx := h.hmax
  unfold maxLen at hmx
  have HNL := hide h.hlen
  clear b0 v0 e0 s0 hW0 h hV hE
  rcases enE_two l with ⟨hok, ls, hls, htot⟩ | ⟨hno, hz, ac, cc, her⟩
  · have hen : enE l = (tot ls, .ok) := by rw [← htot, ← hok]
    rw [hen] at HEN
    obtain ⟨k, hk⟩ : ∃ k, k = tot ls := ⟨_, rfl⟩
    rw [← hk] at HEN
    obtain ⟨hpre, hLn, ht8, htl⟩ := hd_some hls
    rw [← hk] at ht8 htl
    have hk2 : 2 ≤ k := by rw [hk]; exact tot_ge ls
    have hkn : k ≤ n := by rw [← HNL.out]; exact htl
    have htk : l.take k = fl ls := by rw [hk]; exact hd_take hls
    have HLB : Hid (∀ x ∈ l, x < 256) := S0.out.byte
    obtain ⟨x, rest, hfl, hpx, hxl, hbad, hgood⟩ := nil_fl hls
    have HBAD := hide hbad
    have HGOOD := hide hgood
    clear hbad hgood
    have hfk : (fl ls).length = k := hk.symm
    have hxk : x.length + 2 ≤ k := by rw [← hfk, hfl]; simp
    have hxb : ∀ y ∈ x, y < 256 := fun y hy => HLB.out y (hxl y hy)
    have HRQ : Hid (request l = match req ls with
        | (q, .ok) => (q, k, .ok)
        | (_, e) => ((noR, []), 0, e)) := by show _ = _; unfold request; rw [hls, hk]; rfl
    obtain ⟨T, hT⟩ : ∃ T, T = strN (l.take k) := ⟨_, rfl⟩
    have hTb : byt T = fl ls := by rw [hT, htk]; exact byt_strN _ (fun y hy => HLB.out y (by rw [← htk] at hy; exact List.mem_of_mem_take hy))
    have hTs : T.size = k := by rw [← byt_length, hTb]; exact hfk
    have HRL : Hid (∀ W, Vars W → VarE W → Calls Tryz.prog 42 #[.string (strN x)] W fun e w' => ∃ q v, e = .returned (.tuple #[.agg (rqC q (.slice none 0 0)), v]) ∧ q.2.1.1.1.length = 4 ∧ IsH w' (rline x).2 v ∧ ((rline x).2 = .ok → q = (rline x).1) ∧ Below W.heap.size W w') := fun W h1 h2 => by
      have := rline_at (strN x) W (by rw [strN_size]; omega) h1 h2
      rw [byt_strN x hxb] at this; exact this
    have HLS := hide hls
    have HLN := hide hLn
    have HTB := hide hTb
    have HTS := hide hTs
    have HTBB : Hid (∀ c ∈ fl ls, c < 256) := fun c hc => HLB.out c (by rw [← htk] at hc; exact List.mem_of_mem_take hc)
    have HFL := hide hfl
    have HPX := hide hpx
    have HTT : Hid (strN (l.take k) = T) := hT.symm
    clear hok htot hen hpre hk htk hls hLn hfl hpx hxl hfk hTb hTs hT hxb
    go_enter Tryz.func13, Tryz.ntmps13
    go_wp2_with fail
    rw [HW0.out]
    refine HEN.out.mono ?_
    rintro e w1 ⟨v1, rfl, hv1, hb1⟩
    obtain rfl : v1 = .nilIface := hv1
    have s1 := S0.out.below hb1
    obtain ⟨bb, oo, rfl, hbb, hcel⟩ := s1.lies (by omega)
    have hstr := run_str w1 bb oo k c (l.take k) (by rw [List.length_take, HNL.out]; omega) (fun i hi => by rw [hcel i (by omega)]; simp [List.getD, List.getElem?_take, hi])
    rw [HTT.out] at hstr
    have V1 := hide (V0.out.below hb1)
    have E1 := hide (E0.out.below hb1)
    have R1 := hide (keepB hb1 R0.out)
    have B1 := hide (B0.out.trans (hb1.mono B0.out.size))
    obtain ⟨G, hG⟩ : ∃ G, G = w1.heap.size := ⟨_, rfl⟩
    obtain ⟨W2, hW2⟩ : ∃ W2, W2 = w1.alloc (.cells (rdC T 0) 84) := ⟨_, rfl⟩
    have b2 : Below w1.heap.size w1 W2 := by rw [hW2]; exact (Below.refl _ _).alloc (Nat.le_refl _) _
    have g2 : W2.heap[G]? = some (.cells (rdC T 0) 84) := by rw [hW2, hG]; exact alloc_new _ _
    have hG0 : G ≠ 0 := by
      obtain ⟨m, hm⟩ := V1.out
      have := lt_of_cell hm
      rw [hG]; simp only at this; omega
    have HG1 : Hid (G ≠ 1) := by have := lt_of_cell E1.out; simp only at this; rw [hG]; show _ ≠ _; omega
    have HGW : Hid (w.heap.size < G) := by rw [hG]; exact lt_of_some R1.out
    have HNX := hide (next_at T 0 G x rest W2 (V1.out.below b2) g2 hG0 (by rw [HTS.out]; exact ht8) (by omega) (by rw [List.drop_zero, HTB.out]; exact HFL.out) HPX.out)
    have V2 := hide (V1.out.below b2)
    have E2 := hide (E1.out.below b2)
    have R2 := hide (keepB b2 R1.out)
    have B2 := hide (B1.out.trans (b2.mono B1.out.size))
    have HG0 := hide hG0
    have HGG := hide hG.symm
    have HW2 : Hid (w1.alloc (.cells #[.string T, .int .i64 0] 84) = W2) := hW2.symm
    obtain ⟨X, hX⟩ : ∃ X, X = strN x := ⟨_, rfl⟩
    rw [← hX] at HNX HRL
    clear s1 hbb hcel hG hW2 b2 g2 hG0 hX HEN S0 hb1
    go_wp2_with (first | rw [HW2.out])
    try (rw [HW2.out])
    try rw [HGG.out]
    refine HNX.out.mono ?_
    rintro e w3 ⟨rfl, h31, h32⟩
    have V3 := hide (V2.out.kept h32 HG0.out)
    have E3 : Hid (VarE w3) := (World.cell?_of_block (h32.block 1 (lt_of_cell (a := ⟨1, 0, none⟩) E2.out) (Ne.symm HG1.out) (Ne.symm HG1.out))).trans E2.out
    have R3 : Hid (w3.heap[w.heap.size]? = some (.cells z9 44)) := (h32.block _ (lt_of_some R2.out) (by have := HGW.out; omega) (by have := HGW.out; omega)).trans R2.out
    have B3 : Hid (Below w.heap.size w w3) := by
      have := HGW.out
      exact ⟨h32.os.trans B2.out.os, h32.tape.trans B2.out.tape, h32.output.trans B2.out.output, Nat.le_trans B2.out.size h32.size, fun i hi => (h32.block i (by have := B2.out.size; omega) (by omega) (by omega)).trans (B2.out.block i hi)⟩
    have G3 := hide h31
    clear h31 h32 HNX V2 E2 R2 B2 hstr
    go_wp2_with fail
    refine (HRL.out _ V3.out E3.out).mono ?_
    rintro e w4 ⟨q, v4, rfl, hq4, hi4, hqo, hb4⟩
    obtain ⟨qm, ⟨⟨qa, qn⟩, qp⟩, qt⟩ := q
    obtain ⟨x0, x1, x2, x3, rfl⟩ := four hq4
    simp only [rqC, nums, List.map_cons, List.map_nil, List.cons_append, List.nil_append]
    obtain ⟨QM, hQM⟩ : ∃ S, S = strN qm := ⟨_, rfl⟩
    obtain ⟨QN, hQN⟩ : ∃ S, S = strN qn := ⟨_, rfl⟩
    obtain ⟨QT, hQT⟩ : ∃ S, S = strN qt := ⟨_, rfl⟩
    rw [← hQM, ← hQN, ← hQT]
    have HQ : Hid (QM = strN qm ∧ QN = strN qn ∧ QT = strN qt) := ⟨hQM, hQN, hQT⟩
    obtain ⟨GR, hGR⟩ : ∃ G, G = w4.heap.size := ⟨_, rfl⟩
    obtain ⟨W5, hW5⟩ : ∃ W, W = w4.alloc (.cells #[.string QM, .int .u8 (x0 : Nat), .int .u8 (x1 : Nat), .int .u8 (x2 : Nat), .int .u8 (x3 : Nat), .string QN, .int .i64 (qp : Nat), .string QT, .slice none 0 0] 44) := ⟨_, rfl⟩
    have b5 : Below w4.heap.size w4 W5 := by rw [hW5]; exact (Below.refl _ _).alloc (Nat.le_refl _) _
    have q5 : W5.heap[GR]? = some (.cells #[.string QM, .int .u8 (x0 : Nat), .int .u8 (x1 : Nat), .int .u8 (x2 : Nat), .int .u8 (x3 : Nat), .string QN, .int .i64 (qp : Nat), .string QT, .slice none 0 0] 44) := by rw [hW5, hGR]; exact alloc_new _ _
    have R5 := hide (keepB b5 (keepB hb4 R3.out))
    have bb4 : Below w.heap.size w w4 := B3.out.trans (hb4.mono B3.out.size)
    have B5 := hide (bb4.trans (b5.mono bb4.size))
    have V5 := hide ((V3.out.below hb4).below b5)
    have G5 := hide (keepB b5 (keepB hb4 G3.out))
    have I5 := hide (hi4.below b5)
    have HGR : Hid (GR ≠ G ∧ w.heap.size < GR) := by
      have g4 := lt_of_some (keepB hb4 G3.out)
      have r4 := lt_of_some (keepB hb4 R3.out)
      rw [hGR]; exact ⟨by omega, r4⟩
    have HW5 : Hid (w4.alloc (.cells #[.string QM, .int .u8 (x0 : Nat), .int .u8 (x1 : Nat), .int .u8 (x2 : Nat), .int .u8 (x3 : Nat), .string QN, .int .i64 (qp : Nat), .string QT, .slice none 0 0] 44) = W5) := hW5.symm
    have HGR2 := hide hGR.symm
    have HQO := hide hqo
    have Q5 := hide q5
    have HGRL : Hid (W5.heap.size = GR + 1) := by rw [hW5, hGR]; show (w4.alloc _).heap.size = _; simp
    clear hq4 hQM hQN hQT hW5 b5 q5 bb4 hi4 hqo hGR hb4 V3 E3 R3 B3 G3 HRL
    by_cases her : (rline x).2 = .ok
    · rw [her] at I5
      obtain rfl : v4 = .nilIface := I5.out
      obtain ⟨ls', hrest, hLn', hreq⟩ := HGOOD.out her
      have HQE := hide (HQO.out her)
      obtain ⟨fs, fe, hfs⟩ : ∃ f e, flds (x.length + 2) ls' [] = (f, e) := ⟨_, _, rfl⟩
      have HFD := hide (fields_at T (0 + x.length + 2) G ls' W5 V5.out G5.out HG0.out (by rw [HTS.out]; exact ht8) (by rw [HTS.out]; omega) (by
        rw [HTB.out, HFL.out, Nat.zero_add, List.drop_append, List.drop_eq_nil_of_le (by omega), show x.length + 2 - x.length = 2 by omega, hrest]; rfl) hLn')
      rw [Nat.zero_add, hfs] at HFD
      have hokb : okB fs := by
        have := flds_byte ls' (x.length + 2) [] (fun y hy c hc => HTBB.out c (by rw [HFL.out, hrest]; simp [fl_mem hy hc])) (by intro f hf; simp at hf)
        rw [hfs] at this; exact this
      have HOKB := hide hokb
      rw [hfs] at hreq
      clear her hrest hLn' hfs hokb
      go_wp2_with (first | rw [HW5.out])
      try (rw [HW5.out])
      try rw [HGR2.out]
      try go_wp2_with fail
      refine HFD.out.mono ?_
      rintro e w6 ⟨v6, u6, rfl, o6, i6, k6⟩
      obtain ⟨ad, cap, rfl, s6, hown⟩ := o6.src HOKB.out
      have R6 : Hid (w6.heap[w.heap.size]? = some (.cells z9 44)) := (k6.block _ (lt_of_some R5.out) (by have := HGW.out; omega) (by have := HGW.out; omega)).trans R5.out
      have B6 : Hid (Below w.heap.size w w6) := by
        have := HGW.out
        exact ⟨k6.os.trans B5.out.os, k6.tape.trans B5.out.tape, k6.output.trans B5.out.output, Nat.le_trans B5.out.size k6.size, fun i hi => (k6.block i (by have := B5.out.size; omega) (by omega) (by omega)).trans (B5.out.block i hi)⟩
      have q6 : w6.heap[GR]? = some (.cells #[.string QM, .int .u8 (x0 : Nat), .int .u8 (x1 : Nat), .int .u8 (x2 : Nat), .int .u8 (x3 : Nat), .string QN, .int .i64 (qp : Nat), .string QT, .slice none 0 0] 44) := (k6.block GR (lt_of_some Q5.out) HGR.out.1 HGR.out.1).trans Q5.out
      have d8 : w6.cell? ⟨GR, 8, none⟩ = some (.slice none 0 0) := by simp [World.cell?, q6]
      have z8 : w6.frozen? ⟨GR, 8, none⟩ = false := by simp [World.frozen?, q6]
      have I6 := hide i6
      have S6 := hide s6
      have Q6 := hide q6
      have HOW := hide hown
      clear o6 i6 k6 s6 q6 hown HFD G5 V5 R5 B5 I5
      obtain ⟨W7, hW7⟩ : ∃ W, W = w6.setCell ⟨GR, 8, none⟩ (.slice ad fs.length cap) := ⟨_, rfl⟩
      have R7 : Hid (W7.heap[w.heap.size]? = some (.cells z9 44)) := by
        rw [hW7, Below.heap_setCell _ _ _ _ (by have := HGR.out.2; simp; omega)]; exact R6.out
      have B7 : Hid (Below w.heap.size w W7) := by rw [hW7]; exact B6.out.setCell (by have := HGR.out.2; simp; omega) _
      have q7 : W7.heap[GR]? = some (.cells #[.string QM, .int .u8 (x0 : Nat), .int .u8 (x1 : Nat), .int .u8 (x2 : Nat), .int .u8 (x3 : Nat), .string QN, .int .i64 (qp : Nat), .string QT, .slice ad fs.length cap] 44) := by rw [hW7, heap_setCell_same Q6.out 8 _]; rfl
      have I7 : Hid (IsH W7 fe u6) := by
        rw [hW7]
        refine I6.out.keep fun b C hb => Below.heap_setCell _ _ _ _ ?_
        intro e
        simp at e
        rw [e, Q6.out] at hb
        simp at hb
      have S7 : Hid (SrcF W7 ad fs.length cap fs) := by
        rw [hW7]
        refine S6.out.keep (fun h0 b o e => Below.heap_setCell _ _ _ _ ?_) (by simp [World.setCell])
        have h1 := HOW.out b o e
        have h2 := HGRL.out
        simp; omega
      have Q7 := hide q7
      have HW7 : Hid (w6.setCell ⟨GR, 8, none⟩ (.slice ad fs.length cap) = W7) := hW7.symm
      clear hW7 q7 R6 B6 I6 S6 Q6
      by_cases hfe : fe = .ok
      · subst hfe
        obtain rfl : u6 = .nilIface := I7.out
        have HR : Hid (request l = (((rline x).1, fs), k, .ok)) := by show _ = _; rw [HRQ.out, hreq]
        obtain ⟨W9, hW9⟩ : ∃ W, W = W7.setRow w.heap.size #[.string QM, .int .u8 (x0 : Nat), .int .u8 (x1 : Nat), .int .u8 (x2 : Nat), .int .u8 (x3 : Nat), .string QN, .int .i64 (qp : Nat), .string QT, .slice ad fs.length cap] := ⟨_, rfl⟩
        have F2 : Hid (W9.heap[w.heap.size]? = some (.cells #[.string QM, .int .u8 (x0 : Nat), .int .u8 (x1 : Nat), .int .u8 (x2 : Nat), .int .u8 (x3 : Nat), .string QN, .int .i64 (qp : Nat), .string QT, .slice ad fs.length cap] 44)) := by rw [hW9]; exact setRow_heap _ _ _ _ _ R7.out
        have F5 : Hid (Below w.heap.size w W9) := by rw [hW9]; exact below_setRow B7.out (Nat.le_refl _) _
        have F4 : Hid (SrcF W9 ad fs.length cap fs) := by
          rw [hW9]
          refine S7.out.keep (fun h0 b o e => setRow_ne _ _ _ _ ?_) (by simp [World.setRow])
          have h1 := HOW.out b o e
          have h2 := HGRL.out
          have h3 := HGR.out.2
          omega
        have HW9 := hide hW9
        clear hW9 hreq S7 B7
        go_wp2_with (first | (rw [HW7.out]) | (refine wpList_load_rowG rfl 44 _ rfl GR rfl 44 #[.string QM, .int .u8 (x0 : Nat), .int .u8 (x1 : Nat), .int .u8 (x2 : Nat), .int .u8 (x3 : Nat), .string QN, .int .i64 (qp : Nat), .string QT, .slice ad fs.length cap] (0, 0) _ Q7.out Tryz.underlying44 rfl info44 ?_) | (refine wpList_store_rowW rfl 44 _ _ rfl w.heap.size #[.string QM, .int .u8 (x0 : Nat), .int .u8 (x1 : Nat), .int .u8 (x2 : Nat), .int .u8 (x3 : Nat), .string QN, .int .i64 (qp : Nat), .string QT, .slice ad fs.length cap] rfl rfl 44 z9 R7.out info44 rfl (by simp [Value.oneCell']) W9 HW9.out ?_))
        refine bodyPost_ret (res_ctt rfl _ _ w.heap.size 44 #[.string QM, .int .u8 (x0 : Nat), .int .u8 (x1 : Nat), .int .u8 (x2 : Nat), .int .u8 (x3 : Nat), .string QN, .int .i64 (qp : Nat), .string QT, .slice ad fs.length cap] (0, 0) _ rfl F2.out Tryz.underlying44 rfl info44) rfl ?_
        rw [HR.out]
        refine ⟨ad, cap, .nilIface, ?_, F4.out, rfl, F5.out, fun b o e => by have h1 := HOW.out b o e; have h2 := HGRL.out; have h3 := HGR.out.2; omega⟩
        rw [← HQE.out, HQ.out.1, HQ.out.2.1, HQ.out.2.2]; rfl
      · have HR : Hid (request l = ((noR, []), 0, fe)) := by
          show _ = _
          rw [HRQ.out, hreq]
          cases fe with
          | ok => exact absurd rfl hfe
          | one a c => rfl
          | wr a e => rfl
        obtain ⟨bp, rfl⟩ := I7.out.ptr hfe
        clear hfe hreq
        obtain ⟨W9, hW9, f2, f5, f3⟩ := fin9 (cs := z9) R7.out B7.out I7.out
        have F2 := hide f2
        have F3 := hide f3
        have F5 := hide f5
        have HW9 := hide hW9
        clear hW9 f2 f5 f3
        go_wp2_with (first | (rw [HW7.out]) | (refine wpList_store_rowW rfl 44 _ _ rfl w.heap.size z9 rfl rfl 44 z9 R7.out info44 rfl z9_one W9 HW9.out ?_))
        refine bodyPost_ret (res_ctt rfl _ _ w.heap.size 44 z9 (0, 0) _ rfl F2.out Tryz.underlying44 rfl info44) rfl ?_
        rw [HR.out]
        exact ⟨none, 0, _, rfl, SrcF.nilS _, F3.out, F5.out, fun _ _ e => by cases e⟩
    · have HR : Hid (request l = ((noR, []), 0, (rline x).2)) := by
        show _ = _
        rw [HRQ.out, HBAD.out her]
        generalize (rline x).2 = ee at her
        cases ee with
        | ok => exact absurd rfl her
        | one a c => rfl
        | wr a e => rfl
      obtain ⟨bp, rfl⟩ := I5.out.ptr her
      clear her
      obtain ⟨W9, hW9, f2, f5, f3⟩ := fin9 (cs := z9) R5.out B5.out I5.out
      have F2 := hide f2
      have F3 := hide f3
      have F5 := hide f5
      have HW9 := hide hW9
      clear hW9 f2 f5 f3
      go_wp2_with (first | (rw [HW5.out, HGR2.out]) | (refine wpList_store_rowW rfl 44 _ _ rfl w.heap.size z9 rfl rfl 44 z9 R5.out info44 rfl z9_one W9 HW9.out ?_))
      refine bodyPost_ret (res_ctt rfl _ _ w.heap.size 44 z9 (0, 0) _ rfl F2.out Tryz.underlying44 rfl info44) rfl ?_
      rw [HR.out]
      exact ⟨none, 0, _, rfl, SrcF.nilS _, F3.out, F5.out, fun _ _ e => by cases e⟩
  · have hrq := request_short hno
    rw [her] at hrq
    rw [show enE l = (0, .one ac cc) by rw [← hz, ← her]] at HEN
    rw [hrq]
    clear hno hz her hrq
    go_enter Tryz.func13, Tryz.ntmps13
    go_wp2_with fail
    rw [HW0.out]
    refine HEN.out.mono ?_
    rintro e w1 ⟨v1, rfl, hv1, hb1⟩
    obtain ⟨bp, rfl⟩ := hv1.ptr (by simp)
    obtain ⟨W9, hW9, f2, f5, f3⟩ := fin9 (cs := z9) (keepB hb1 R0.out) (B0.out.trans (hb1.mono B0.out.size)) hv1
    have R9 := hide (keepB hb1 R0.out)
    have F2 := hide f2
    have F3 := hide f3
    have F5 := hide f5
    have HW9 := hide hW9
    clear hv1 hb1 hW9 f2 f5 f3
    go_wp2_with (first | (refine wpList_store_rowW rfl 44 _ _ rfl w.heap.size z9 rfl rfl 44 z9 R9.out info44 rfl z9_one W9 HW9.out ?_))
    refine bodyPost_ret (res_ctt rfl _ _ w.heap.size 44 z9 (0, 0) _ rfl F2.out Tryz.underlying44 rfl info44) rfl ⟨none, 0, _, rfl, SrcF.nilS _, F3.out, F5.out, fun _ _ e => by cases e⟩
end Go.Proofs.YthbnbnfhbkekpaaGreatDoor

namespace Go.Proofs.YthbnbnfhbkekpaaGreatDoor
open Go.RowKit
set_option maxRecDepth 100000 in
set_option maxHeartbeats 4000000 in
theorem reply2_at (a : Option Addr) (n c : Nat) (l : List Nat) (w : World) (h : Src w a n c l) (hV : Vars w) (hE : VarE w) : Calls Tryz.prog 16 #[.slice a n c] w fun e w' => ∃ ad cap v, e = .returned (.tuple #[.agg (ryC (reply l).1.1 (.slice ad (reply l).1.2.length cap)), .int .i64 ((reply l).2.1 : Nat), v]) ∧ SrcF w' ad (reply l).1.2.length cap (reply l).1.2 ∧ IsH w' (reply l).2.2 v ∧ Below w.heap.size w w' ∧ (∀ b o, ad = some ⟨b, o, none⟩ → w.heap.size ≤ b) := by
  have b0 : Below w.heap.size w (w.alloc (.cells z3 51)) := (Below.refl _ _).alloc (Nat.le_refl _) _
  have v0 := hV.below b0
  have e0 := hE.below b0
  have s0 := h.below b0
  obtain ⟨W0, hW0⟩ : ∃ W0, W0 = w.alloc (.cells z3 51) := ⟨_, rfl⟩
  rw [← hW0] at b0 v0 e0 s0
  have R0 : Hid (W0.heap[w.heap.size]? = some (.cells z3 51)) := by rw [hW0]; exact alloc_new _ _
  have HW0 : Hid (w.alloc (.cells #[.int .i64 0, .string ⟨#[]⟩, .slice none 0 0] 51) = W0) := hW0.symm
  have HEN := hide (end_at a n c l W0 s0 v0)
  have B0 := hide b0
  have V0 := hide v0
  have E0 := hide e0
  have S0 := hide s0
  have hcl := h.hcap
  have hmx := h.hmax
  unfold maxLen at hmx
  have HNL := hide h.hlen
  clear b0 v0 e0 s0 hW0 h hV hE
  rcases enE_two l with ⟨hok, ls, hls, htot⟩ | ⟨hno, hz, ac, cc, her⟩
  · have hen : enE l = (tot ls, .ok) := by rw [← htot, ← hok]
    rw [hen] at HEN
    obtain ⟨k, hk⟩ : ∃ k, k = tot ls := ⟨_, rfl⟩
    rw [← hk] at HEN
    obtain ⟨hpre, hLn, ht8, htl⟩ := hd_some hls
    rw [← hk] at ht8 htl
    have hk2 : 2 ≤ k := by rw [hk]; exact tot_ge ls
    have hkn : k ≤ n := by rw [← HNL.out]; exact htl
    have htk : l.take k = fl ls := by rw [hk]; exact hd_take hls
    have HLB : Hid (∀ x ∈ l, x < 256) := S0.out.byte
    obtain ⟨x, rest, hfl, hpx, hxl, hbad, hgood⟩ := nil_fly hls
    have HBAD := hide hbad
    have HGOOD := hide hgood
    clear hbad hgood
    have hfk : (fl ls).length = k := hk.symm
    have hxk : x.length + 2 ≤ k := by rw [← hfk, hfl]; simp
    have hxb : ∀ y ∈ x, y < 256 := fun y hy => HLB.out y (hxl y hy)
    have HRQ : Hid (reply l = match rep ls with
        | (q, .ok) => (q, k, .ok)
        | (_, e) => (((0, []), []), 0, e)) := by show _ = _; unfold reply; rw [hls, hk]; rfl
    obtain ⟨T, hT⟩ : ∃ T, T = strN (l.take k) := ⟨_, rfl⟩
    have hTb : byt T = fl ls := by rw [hT, htk]; exact byt_strN _ (fun y hy => HLB.out y (by rw [← htk] at hy; exact List.mem_of_mem_take hy))
    have hTs : T.size = k := by rw [← byt_length, hTb]; exact hfk
    have HRL : Hid (∀ W, Vars W → Calls Tryz.prog 50 #[.string (strN x)] W fun e w' => ∃ v, e = .returned (.tuple #[.agg (ryC (yline x).1 (.slice none 0 0)), v]) ∧ IsH w' (yline x).2 v ∧ Below W.heap.size W w') := fun W h1 => by
      have := yline_at (strN x) W (by rw [strN_size]; omega) h1
      rw [byt_strN x hxb] at this; exact this
    have HLS := hide hls
    have HLN := hide hLn
    have HTB := hide hTb
    have HTS := hide hTs
    have HTBB : Hid (∀ c ∈ fl ls, c < 256) := fun c hc => HLB.out c (by rw [← htk] at hc; exact List.mem_of_mem_take hc)
    have HFL := hide hfl
    have HPX := hide hpx
    have HTT : Hid (strN (l.take k) = T) := hT.symm
    clear hok htot hen hpre hk htk hls hLn hfl hpx hxl hfk hTb hTs hT hxb
    go_enter Tryz.func16, Tryz.ntmps16
    go_wp2_with fail
    rw [HW0.out]
    refine HEN.out.mono ?_
    rintro e w1 ⟨v1, rfl, hv1, hb1⟩
    obtain rfl : v1 = .nilIface := hv1
    have s1 := S0.out.below hb1
    obtain ⟨bb, oo, rfl, hbb, hcel⟩ := s1.lies (by omega)
    have hstr := run_str w1 bb oo k c (l.take k) (by rw [List.length_take, HNL.out]; omega) (fun i hi => by rw [hcel i (by omega)]; simp [List.getD, List.getElem?_take, hi])
    rw [HTT.out] at hstr
    have V1 := hide (V0.out.below hb1)
    have E1 := hide (E0.out.below hb1)
    have R1 := hide (keepB hb1 R0.out)
    have B1 := hide (B0.out.trans (hb1.mono B0.out.size))
    obtain ⟨G, hG⟩ : ∃ G, G = w1.heap.size := ⟨_, rfl⟩
    obtain ⟨W2, hW2⟩ : ∃ W2, W2 = w1.alloc (.cells (rdC T 0) 84) := ⟨_, rfl⟩
    have b2 : Below w1.heap.size w1 W2 := by rw [hW2]; exact (Below.refl _ _).alloc (Nat.le_refl _) _
    have g2 : W2.heap[G]? = some (.cells (rdC T 0) 84) := by rw [hW2, hG]; exact alloc_new _ _
    have hG0 : G ≠ 0 := by
      obtain ⟨m, hm⟩ := V1.out
      have := lt_of_cell hm
      rw [hG]; simp only at this; omega
    have HG1 : Hid (G ≠ 1) := by have := lt_of_cell E1.out; simp only at this; rw [hG]; show _ ≠ _; omega
    have HGW : Hid (w.heap.size < G) := by rw [hG]; exact lt_of_some R1.out
    have HNX := hide (next_at T 0 G x rest W2 (V1.out.below b2) g2 hG0 (by rw [HTS.out]; exact ht8) (by omega) (by rw [List.drop_zero, HTB.out]; exact HFL.out) HPX.out)
    have V2 := hide (V1.out.below b2)
    have E2 := hide (E1.out.below b2)
    have R2 := hide (keepB b2 R1.out)
    have B2 := hide (B1.out.trans (b2.mono B1.out.size))
    have HG0 := hide hG0
    have HGG := hide hG.symm
    have HW2 : Hid (w1.alloc (.cells #[.string T, .int .i64 0] 84) = W2) := hW2.symm
    obtain ⟨X, hX⟩ : ∃ X, X = strN x := ⟨_, rfl⟩
    rw [← hX] at HNX HRL
    clear s1 hbb hcel hG hW2 b2 g2 hG0 hX HEN S0 hb1
    go_wp2_with (first | rw [HW2.out])
    try (rw [HW2.out])
    try rw [HGG.out]
    refine HNX.out.mono ?_
    rintro e w3 ⟨rfl, h31, h32⟩
    have V3 := hide (V2.out.kept h32 HG0.out)
    have E3 : Hid (VarE w3) := (World.cell?_of_block (h32.block 1 (lt_of_cell (a := ⟨1, 0, none⟩) E2.out) (Ne.symm HG1.out) (Ne.symm HG1.out))).trans E2.out
    have R3 : Hid (w3.heap[w.heap.size]? = some (.cells z3 51)) := (h32.block _ (lt_of_some R2.out) (by have := HGW.out; omega) (by have := HGW.out; omega)).trans R2.out
    have B3 : Hid (Below w.heap.size w w3) := by
      have := HGW.out
      exact ⟨h32.os.trans B2.out.os, h32.tape.trans B2.out.tape, h32.output.trans B2.out.output, Nat.le_trans B2.out.size h32.size, fun i hi => (h32.block i (by have := B2.out.size; omega) (by omega) (by omega)).trans (B2.out.block i hi)⟩
    have G3 := hide h31
    clear h31 h32 HNX V2 E2 R2 B2 hstr
    go_wp2_with fail
    refine (HRL.out _ V3.out).mono ?_
    rintro e w4 ⟨v4, rfl, hi4, hb4⟩
    obtain ⟨qs, qr, hqe⟩ : ∃ a b, (yline x).1 = (a, b) := ⟨_, _, rfl⟩
    simp only [ryC]
    rw [hqe]
    simp only []
    obtain ⟨QM, hQM⟩ : ∃ S, S = strN qr := ⟨_, rfl⟩
    rw [← hQM]
    have HQ := hide hQM
    have HQE := hide hqe
    obtain ⟨GR, hGR⟩ : ∃ G, G = w4.heap.size := ⟨_, rfl⟩
    obtain ⟨W5, hW5⟩ : ∃ W, W = w4.alloc (.cells #[.int .i64 (qs : Nat), .string QM, .slice none 0 0] 51) := ⟨_, rfl⟩
    have b5 : Below w4.heap.size w4 W5 := by rw [hW5]; exact (Below.refl _ _).alloc (Nat.le_refl _) _
    have q5 : W5.heap[GR]? = some (.cells #[.int .i64 (qs : Nat), .string QM, .slice none 0 0] 51) := by rw [hW5, hGR]; exact alloc_new _ _
    have R5 := hide (keepB b5 (keepB hb4 R3.out))
    have bb4 : Below w.heap.size w w4 := B3.out.trans (hb4.mono B3.out.size)
    have B5 := hide (bb4.trans (b5.mono bb4.size))
    have V5 := hide ((V3.out.below hb4).below b5)
    have G5 := hide (keepB b5 (keepB hb4 G3.out))
    have I5 := hide (hi4.below b5)
    have HGR : Hid (GR ≠ G ∧ w.heap.size < GR) := by
      have g4 := lt_of_some (keepB hb4 G3.out)
      have r4 := lt_of_some (keepB hb4 R3.out)
      rw [hGR]; exact ⟨by omega, r4⟩
    have HW5 : Hid (w4.alloc (.cells #[.int .i64 (qs : Nat), .string QM, .slice none 0 0] 51) = W5) := hW5.symm
    have HGR2 := hide hGR.symm
    have Q5 := hide q5
    have HGRL : Hid (W5.heap.size = GR + 1) := by rw [hW5, hGR]; show (w4.alloc _).heap.size = _; simp
    clear hQM hqe hW5 b5 q5 bb4 hi4 hGR hb4 V3 E3 R3 B3 G3 HRL
    by_cases her : (yline x).2 = .ok
    · rw [her] at I5
      obtain rfl : v4 = .nilIface := I5.out
      obtain ⟨ls', hrest, hLn', hreq⟩ := HGOOD.out her
      obtain ⟨fs, fe, hfs⟩ : ∃ f e, flds (x.length + 2) ls' [] = (f, e) := ⟨_, _, rfl⟩
      have HFD := hide (fields_at T (0 + x.length + 2) G ls' W5 V5.out G5.out HG0.out (by rw [HTS.out]; exact ht8) (by rw [HTS.out]; omega) (by
        rw [HTB.out, HFL.out, Nat.zero_add, List.drop_append, List.drop_eq_nil_of_le (by omega), show x.length + 2 - x.length = 2 by omega, hrest]; rfl) hLn')
      rw [Nat.zero_add, hfs] at HFD
      have hokb : okB fs := by
        have := flds_byte ls' (x.length + 2) [] (fun y hy c hc => HTBB.out c (by rw [HFL.out, hrest]; simp [fl_mem hy hc])) (by intro f hf; simp at hf)
        rw [hfs] at this; exact this
      have HOKB := hide hokb
      rw [hfs] at hreq
      clear her hrest hLn' hfs hokb
      go_wp2_with (first | rw [HW5.out])
      try (rw [HW5.out])
      try rw [HGR2.out]
      try go_wp2_with fail
      refine HFD.out.mono ?_
      rintro e w6 ⟨v6, u6, rfl, o6, i6, k6⟩
      obtain ⟨ad, cap, rfl, s6, hown⟩ := o6.src HOKB.out
      have R6 : Hid (w6.heap[w.heap.size]? = some (.cells z3 51)) := (k6.block _ (lt_of_some R5.out) (by have := HGW.out; omega) (by have := HGW.out; omega)).trans R5.out
      have B6 : Hid (Below w.heap.size w w6) := by
        have := HGW.out
        exact ⟨k6.os.trans B5.out.os, k6.tape.trans B5.out.tape, k6.output.trans B5.out.output, Nat.le_trans B5.out.size k6.size, fun i hi => (k6.block i (by have := B5.out.size; omega) (by omega) (by omega)).trans (B5.out.block i hi)⟩
      have q6 : w6.heap[GR]? = some (.cells #[.int .i64 (qs : Nat), .string QM, .slice none 0 0] 51) := (k6.block GR (lt_of_some Q5.out) HGR.out.1 HGR.out.1).trans Q5.out
      have d2 : w6.cell? ⟨GR, 2, none⟩ = some (.slice none 0 0) := by simp [World.cell?, q6]
      have z2' : w6.frozen? ⟨GR, 2, none⟩ = false := by simp [World.frozen?, q6]
      have I6 := hide i6
      have S6 := hide s6
      have Q6 := hide q6
      have HOW := hide hown
      clear o6 i6 k6 s6 q6 hown HFD G5 V5 R5 B5 I5
      obtain ⟨W7, hW7⟩ : ∃ W, W = w6.setCell ⟨GR, 2, none⟩ (.slice ad fs.length cap) := ⟨_, rfl⟩
      have R7 : Hid (W7.heap[w.heap.size]? = some (.cells z3 51)) := by
        rw [hW7, Below.heap_setCell _ _ _ _ (by have := HGR.out.2; simp; omega)]; exact R6.out
      have B7 : Hid (Below w.heap.size w W7) := by rw [hW7]; exact B6.out.setCell (by have := HGR.out.2; simp; omega) _
      have q7 : W7.heap[GR]? = some (.cells #[.int .i64 (qs : Nat), .string QM, .slice ad fs.length cap] 51) := by rw [hW7, heap_setCell_same Q6.out 2 _]; rfl
      have I7 : Hid (IsH W7 fe u6) := by
        rw [hW7]
        refine I6.out.keep fun b C hb => Below.heap_setCell _ _ _ _ ?_
        intro e
        simp at e
        rw [e, Q6.out] at hb
        simp at hb
      have S7 : Hid (SrcF W7 ad fs.length cap fs) := by
        rw [hW7]
        refine S6.out.keep (fun h0 b o e => Below.heap_setCell _ _ _ _ ?_) (by simp [World.setCell])
        have h1 := HOW.out b o e
        have h2 := HGRL.out
        simp; omega
      have Q7 := hide q7
      have HW7 : Hid (w6.setCell ⟨GR, 2, none⟩ (.slice ad fs.length cap) = W7) := hW7.symm
      clear hW7 q7 R6 B6 I6 S6 Q6
      by_cases hfe : fe = .ok
      · subst hfe
        obtain rfl : u6 = .nilIface := I7.out
        have HR : Hid (reply l = (((yline x).1, fs), k, .ok)) := by show _ = _; rw [HRQ.out, hreq]
        obtain ⟨W9, hW9⟩ : ∃ W, W = W7.setRow w.heap.size #[.int .i64 (qs : Nat), .string QM, .slice ad fs.length cap] := ⟨_, rfl⟩
        have F2 : Hid (W9.heap[w.heap.size]? = some (.cells #[.int .i64 (qs : Nat), .string QM, .slice ad fs.length cap] 51)) := by rw [hW9]; exact setRow_heap _ _ _ _ _ R7.out
        have F5 : Hid (Below w.heap.size w W9) := by rw [hW9]; exact below_setRow B7.out (Nat.le_refl _) _
        have F4 : Hid (SrcF W9 ad fs.length cap fs) := by
          rw [hW9]
          refine S7.out.keep (fun h0 b o e => setRow_ne _ _ _ _ ?_) (by simp [World.setRow])
          have h1 := HOW.out b o e
          have h2 := HGRL.out
          have h3 := HGR.out.2
          omega
        have HW9 := hide hW9
        clear hW9 hreq S7 B7
        go_wp2_with (first | (rw [HW7.out]) | (refine wpList_load_rowG rfl 51 _ rfl GR rfl 51 #[.int .i64 (qs : Nat), .string QM, .slice ad fs.length cap] (0, 0) _ Q7.out Tryz.underlying51 rfl info51 ?_) | (refine wpList_store_rowW rfl 51 _ _ rfl w.heap.size #[.int .i64 (qs : Nat), .string QM, .slice ad fs.length cap] rfl rfl 51 z3 R7.out info51 rfl (by simp [Value.oneCell']) W9 HW9.out ?_))
        refine bodyPost_ret (res_ctt rfl _ _ w.heap.size 51 #[.int .i64 (qs : Nat), .string QM, .slice ad fs.length cap] (0, 0) _ rfl F2.out Tryz.underlying51 rfl info51) rfl ?_
        rw [HR.out]
        refine ⟨ad, cap, .nilIface, ?_, F4.out, rfl, F5.out, fun b o e => by have h1 := HOW.out b o e; have h2 := HGRL.out; have h3 := HGR.out.2; omega⟩
        rw [HQE.out, HQ.out]; rfl
      · have HR : Hid (reply l = (((0, []), []), 0, fe)) := by
          show _ = _
          rw [HRQ.out, hreq]
          cases fe with
          | ok => exact absurd rfl hfe
          | one a c => rfl
          | wr a e => rfl
        obtain ⟨bp, rfl⟩ := I7.out.ptr hfe
        clear hfe hreq
        obtain ⟨W9, hW9, f2, f5, f3⟩ := fin3 (cs := z3) R7.out B7.out I7.out
        have F2 := hide f2
        have F3 := hide f3
        have F5 := hide f5
        have HW9 := hide hW9
        clear hW9 f2 f5 f3
        go_wp2_with (first | (rw [HW7.out]) | (refine wpList_store_rowW rfl 51 _ _ rfl w.heap.size z3 rfl rfl 51 z3 R7.out info51 rfl z3_one W9 HW9.out ?_))
        refine bodyPost_ret (res_ctt rfl _ _ w.heap.size 51 z3 (0, 0) _ rfl F2.out Tryz.underlying51 rfl info51) rfl ?_
        rw [HR.out]
        exact ⟨none, 0, _, rfl, SrcF.nilS _, F3.out, F5.out, fun _ _ e => by cases e⟩
    · have HR : Hid (reply l = (((0, []), []), 0, (yline x).2)) := by
        show _ = _
        rw [HRQ.out, HBAD.out her]
        generalize (yline x).2 = ee at her
        cases ee with
        | ok => exact absurd rfl her
        | one a c => rfl
        | wr a e => rfl
      obtain ⟨bp, rfl⟩ := I5.out.ptr her
      clear her
      obtain ⟨W9, hW9, f2, f5, f3⟩ := fin3 (cs := z3) R5.out B5.out I5.out
      have F2 := hide f2
      have F3 := hide f3
      have F5 := hide f5
      have HW9 := hide hW9
      clear hW9 f2 f5 f3
      go_wp2_with (first | (rw [HW5.out, HGR2.out]) | (refine wpList_store_rowW rfl 51 _ _ rfl w.heap.size z3 rfl rfl 51 z3 R5.out info51 rfl z3_one W9 HW9.out ?_))
      refine bodyPost_ret (res_ctt rfl _ _ w.heap.size 51 z3 (0, 0) _ rfl F2.out Tryz.underlying51 rfl info51) rfl ?_
      rw [HR.out]
      exact ⟨none, 0, _, rfl, SrcF.nilS _, F3.out, F5.out, fun _ _ e => by cases e⟩
  · have hrq := reply_short hno
    rw [her] at hrq
    rw [show enE l = (0, .one ac cc) by rw [← hz, ← her]] at HEN
    rw [hrq]
    clear hno hz her hrq
    go_enter Tryz.func16, Tryz.ntmps16
    go_wp2_with fail
    rw [HW0.out]
    refine HEN.out.mono ?_
    rintro e w1 ⟨v1, rfl, hv1, hb1⟩
    obtain ⟨bp, rfl⟩ := hv1.ptr (by simp)
    obtain ⟨W9, hW9, f2, f5, f3⟩ := fin3 (cs := z3) (keepB hb1 R0.out) (B0.out.trans (hb1.mono B0.out.size)) hv1
    have R9 := hide (keepB hb1 R0.out)
    have F2 := hide f2
    have F3 := hide f3
    have F5 := hide f5
    have HW9 := hide hW9
    clear hv1 hb1 hW9 f2 f5 f3
    go_wp2_with (first | (refine wpList_store_rowW rfl 51 _ _ rfl w.heap.size z3 rfl rfl 51 z3 R9.out info51 rfl z3_one W9 HW9.out ?_))
    refine bodyPost_ret (res_ctt rfl _ _ w.heap.size 51 z3 (0, 0) _ rfl F2.out Tryz.underlying51 rfl info51) rfl ⟨none, 0, _, rfl, SrcF.nilS _, F3.out, F5.out, fun _ _ e => by cases e⟩
end Go.Proofs.YthbnbnfhbkekpaaGreatDoor

namespace Go.Proofs.YthbnbnfhbkekpaaGreatDoor
open Go.RowKit
set_option maxRecDepth 100000 in
set_option maxHeartbeats 16000000 in
theorem reads_walk (a : Option Addr) (n c : Nat) (b : List Nat) (w : World) (hT : Tabs w) (h : Src w a n c b) (hn : n ≤ 140737488351232) : Calls Tryz.prog 3 #[.slice a n c] w fun e w' => e = .returned (.bool true) ∧ Below w.heap.size w w' := by
  have HBY := hide (bytes_at a n c b w h (by omega))
  have S0 := hide h
  have T0 := hide hT
  have HLB := hide h.byte
  have HL := hide h.hlen
  have hcap := h.hcap
  have hmx := h.hmax
  unfold maxLen at hmx
  have HSRC : Hid (∀ W, Below w.heap.size w W → Src W a n c b) := fun W hW => h.keep (fun h0 i o ei => hW.block i (h.lt h0 ei)) hW.size
  clear h hT
  go_enter Tryz.func3, Tryz.ntmps3
  go_wp2_with fail
  refine HBY.out.mono ?_
  rintro e w1 ⟨v1, rfl, o1, hb1⟩
  obtain ⟨ao, co, rfl, so, _⟩ := own_src o1 HLB.out
  rw [HL.out] at so ⊢
  have SO := hide so
  have T1 := hide (T0.out.below hb1)
  have B1 := hide hb1
  have HEN := hide (end_at ao n co b w1 so T1.out.v)
  obtain ⟨EN, er, hen⟩ : ∃ k e, enE b = (k, e) := ⟨_, _, rfl⟩
  have HENB := hide hen
  rw [hen] at HEN
  clear so o1 hb1 hen HBY
  go_wp2_with fail
  refine HEN.out.mono ?_
  rintro e w2 ⟨v2, rfl, iv2, hb2⟩
  have B2 := hide (B1.out.trans (hb2.mono B1.out.size))
  have T2 := hide (T1.out.below hb2)
  have SO2 := hide (SO.out.below hb2)
  have HRE := hide (rend_at a n c b w2 (HSRC.out w2 B2.out))
  rw [HENB.out] at HRE
  have I2 := hide iv2
  clear iv2 hb2 HEN B1 T1 SO
  go_wp2_with fail
  refine HRE.out.mono ?_
  rintro e w3 ⟨rfl, hb3⟩
  obtain ⟨F, hF⟩ : ∃ F, F = w3.heap.size := ⟨_, rfl⟩
  obtain ⟨W4, hW4⟩ : ∃ W, W = (w3.alloc (.cells (badC .ok) 32)).setRow F (badG er) := ⟨_, rfl⟩
  have z4 : (w3.alloc (.cells (badC .ok) 32)).heap[F]? = some (.cells (badC .ok) 32) := by rw [hF]; exact alloc_new _ _
  have b4' : Below w3.heap.size w3 W4 := by rw [hW4]; exact below_setRow ((Below.refl _ _).alloc (Nat.le_refl _) _) (by omega) _
  have b4 : Below w2.heap.size w2 W4 := hb3.trans (b4'.mono hb3.size)
  have p4 : W4.heap[F]? = some (.cells (badG er) 32) := by rw [hW4]; exact setRow_heap _ _ _ _ _ z4
  have B4 := hide (B2.out.trans (b4.mono B2.out.size))
  have T4 := hide (T2.out.below b4)
  have SO4 := hide (SO2.out.below b4)
  have I4 := hide (I2.out.below b4)
  have P4 := hide p4
  have Z4 := hide z4
  have HW4 := hide hW4
  have HFF := hide hF.symm
  have HWF : Hid (w.heap.size ≤ F) := by rw [hF]; exact Nat.le_trans B2.out.size hb3.size
  have HSOF : Hid (∀ i o, 0 < n → ao = some ⟨i, o, none⟩ → i < F) := fun i o h0 e => by have h1 := SO2.out.lt h0 e; have h2 := hb3.size; omega
  have HIS := hide (is_at er v2 W4 I4.out)
  rw [badH_badG] at HIS
  clear hb3 hF hW4 z4 b4' b4 p4 I2 B2 T2 SO2 HRE
  go_wp2_with (first
    | (rw [HFF.out])
    | (refine wpList_store_rowW rfl 32 _ _ rfl F (badG er) rfl rfl 32 (badC .ok) Z4.out (badGI er) (by simp [badC_size, badG_size]) (badG_one _) W4 HW4.out ?_)
    | (refine wpList_load_rowG rfl 32 _ rfl F rfl 32 (badG er) (0, 0) _ P4.out Tryz.underlying32 rfl (badGI er) ?_))
  refine HIS.out.mono ?_
  rintro e w5 ⟨rfl, hb5⟩
  have B5 := hide (B4.out.trans (hb5.mono B4.out.size))
  have T5 := hide (T4.out.below hb5)
  have SO5 := hide (SO4.out.below hb5)
  have P5 := hide (keepB hb5 P4.out)
  obtain ⟨m, x0, x1, x2, x3, s, p, t, hrow⟩ := request_row b
  have HROW := hide hrow
  obtain ⟨fs, hfs⟩ : ∃ fs, fs = (request b).1.2 := ⟨_, rfl⟩
  obtain ⟨RN, hRN⟩ : ∃ I, I = (request b).2.1 := ⟨_, rfl⟩
  obtain ⟨re, hre⟩ : ∃ I, I = (request b).2.2 := ⟨_, rfl⟩
  obtain ⟨L, hL⟩ : ∃ L, L = fs.length := ⟨_, rfl⟩
  have HRQ := hide (request2_at ao n co b w5 SO5.out T5.out.v T5.out.e)
  have HRR : Hid (∀ W, Below w.heap.size w W → Calls Tryz.prog 14 #[.slice a n c] W fun e w' => ∃ ad cap, e = .returned (.tuple #[.agg #[.string m, .int .u8 (x0 : Nat), .int .u8 (x1 : Nat), .int .u8 (x2 : Nat), .int .u8 (x3 : Nat), .string s, .int .i64 (p : Nat), .string t, .slice ad L cap], .int .i64 (RN : Nat), .agg (badG re)]) ∧ SrcF w' ad L cap fs ∧ Below W.heap.size W w' ∧ (∀ b o, ad = some ⟨b, o, none⟩ → W.heap.size ≤ b)) := fun W hW => by
    have := rrequest_at a n c b W (HSRC.out W hW)
    simp only [hrow, ← hfs, ← hRN, ← hre, ← hL] at this
    exact this
  simp only [hrow, ← hfs, ← hRN, ← hre, ← hL] at HRQ
  clear hb5 hrow hfs hRN hre hL HIS B4 T4 SO4 P4
  go_wp2_with fail
  refine HRQ.out.mono ?_
  rintro e w6 ⟨ad6, cap6, v6, rfl, sf6, iv6, hb6, fr6⟩
  have FR6 : Hid (∀ b o, ad6 = some ⟨b, o, none⟩ → F < b) := fun b o e => by have h1 := fr6 b o e; have h2 := lt_of_some P5.out; omega
  clear fr6
  obtain ⟨G, hG⟩ : ∃ G, G = w6.heap.size := ⟨_, rfl⟩
  obtain ⟨W7, hW7⟩ : ∃ W, W = w6.alloc (.cells #[.string m, .int .u8 (x0 : Nat), .int .u8 (x1 : Nat), .int .u8 (x2 : Nat), .int .u8 (x3 : Nat), .string s, .int .i64 (p : Nat), .string t, .slice ad6 L cap6] 44) := ⟨_, rfl⟩
  have b7 : Below w6.heap.size w6 W7 := by rw [hW7]; exact (Below.refl _ _).alloc (Nat.le_refl _) _
  have hb7 : Below w5.heap.size w5 W7 := hb6.trans (b7.mono hb6.size)
  have g7 : W7.heap[G]? = some (.cells #[.string m, .int .u8 (x0 : Nat), .int .u8 (x1 : Nat), .int .u8 (x2 : Nat), .int .u8 (x3 : Nat), .string s, .int .i64 (p : Nat), .string t, .slice ad6 L cap6] 44) := by rw [hW7, hG]; exact alloc_new _ _
  have HW7 : Hid (w6.alloc (.cells #[.string m, .int .u8 (x0 : Nat), .int .u8 (x1 : Nat), .int .u8 (x2 : Nat), .int .u8 (x3 : Nat), .string s, .int .i64 (p : Nat), .string t, .slice ad6 L cap6] 44) = W7) := hW7.symm
  have HG := hide hG.symm
  have G7 := hide g7
  have B7 := hide (B5.out.trans (hb7.mono B5.out.size))
  have T7 := hide (T5.out.below hb7)
  have SO7 := hide (SO5.out.below hb7)
  have P7 := hide (keepB hb7 P5.out)
  have I7 := hide (iv6.below b7)
  have SF7 := hide (sf6.below b7)
  have HR7 := hide (HRR.out W7 B7.out)
  have HGF : Hid (F < G) := by rw [hG]; exact lt_of_some (keepB hb6 P5.out)
  clear hb6 hb7 b7 hW7 hG g7 iv6 sf6 HRQ B5 T5 SO5 P5
  go_wp2_with (first | (rw [HW7.out, HG.out]))
  try (rw [HW7.out, HG.out]; go_wp2_with fail)
  refine HR7.out.mono ?_
  rintro e w8 ⟨ad8, cap8, rfl, sf8, hb8, fr8⟩
  obtain ⟨G2, hG2⟩ : ∃ G, G = w8.heap.size := ⟨_, rfl⟩
  obtain ⟨W9, hW9⟩ : ∃ W, W = w8.alloc (.cells #[.string m, .int .u8 (x0 : Nat), .int .u8 (x1 : Nat), .int .u8 (x2 : Nat), .int .u8 (x3 : Nat), .string s, .int .i64 (p : Nat), .string t, .slice ad8 L cap8] 44) := ⟨_, rfl⟩
  have b9 : Below w8.heap.size w8 W9 := by rw [hW9]; exact (Below.refl _ _).alloc (Nat.le_refl _) _
  have hb9 : Below W7.heap.size W7 W9 := hb8.trans (b9.mono hb8.size)
  have g9 : W9.heap[G2]? = some (.cells #[.string m, .int .u8 (x0 : Nat), .int .u8 (x1 : Nat), .int .u8 (x2 : Nat), .int .u8 (x3 : Nat), .string s, .int .i64 (p : Nat), .string t, .slice ad8 L cap8] 44) := by rw [hW9, hG2]; exact alloc_new _ _
  have p9 := keepB hb9 P7.out
  have g9' := keepB hb9 G7.out
  obtain ⟨W10, hW10⟩ : ∃ W, W = W9.setRow F (badG re) := ⟨_, rfl⟩
  have hFl7 := lt_of_some P7.out
  have hGl7 := lt_of_some G7.out
  have hFG := HGF.out
  have hWF := HWF.out
  have h78 := hb8.size
  have p10 : W10.heap[F]? = some (.cells (badG re) 32) := by rw [hW10]; exact setRow_heap _ _ _ _ _ p9
  have k10 : ∀ g, g ≠ F → W10.heap[g]? = W9.heap[g]? := fun g hg => by rw [hW10]; exact setRow_ne _ _ _ _ (by omega)
  have s10 : W9.heap.size ≤ W10.heap.size := by rw [hW10]; simp [World.setRow]
  have b79 := B7.out.trans (hb9.mono B7.out.size)
  have B10 : Hid (Below w.heap.size w W10) := by rw [hW10]; exact below_setRow b79 hWF _
  have G10 : Hid (W10.heap[G]? = some (.cells #[.string m, .int .u8 (x0 : Nat), .int .u8 (x1 : Nat), .int .u8 (x2 : Nat), .int .u8 (x3 : Nat), .string s, .int .i64 (p : Nat), .string t, .slice ad6 L cap6] 44)) := (k10 G (by omega)).trans g9'
  have Y10 : Hid (W10.heap[G2]? = some (.cells #[.string m, .int .u8 (x0 : Nat), .int .u8 (x1 : Nat), .int .u8 (x2 : Nat), .int .u8 (x3 : Nat), .string s, .int .i64 (p : Nat), .string t, .slice ad8 L cap8] 44)) := (k10 G2 (by omega)).trans g9
  have SO10 : Hid (Src W10 ao n co b) := (SO7.out.below hb9).keep (fun h0 i o ei => k10 i (by have := HSOF.out i o h0 ei; omega)) s10
  have I10 : Hid (IsH W10 re v6) := (I7.out.below hb9).keep (fun i C hC => k10 i (fun e => by rw [e, p9] at hC; simp at hC))
  have SF10 : Hid (SrcF W10 ad6 L cap6 fs) := (SF7.out.below hb9).keep (fun h0 i o ei => k10 i (by have := FR6.out i o ei; omega)) s10
  have SG10 : Hid (SrcF W10 ad8 L cap8 fs) := (sf8.below b9).keep (fun h0 i o ei => k10 i (by have := fr8 i o ei; omega)) s10
  have P10 := hide p10
  have P9 := hide p9
  have HW9 : Hid (w8.alloc (.cells #[.string m, .int .u8 (x0 : Nat), .int .u8 (x1 : Nat), .int .u8 (x2 : Nat), .int .u8 (x3 : Nat), .string s, .int .i64 (p : Nat), .string t, .slice ad8 L cap8] 44) = W9) := hW9.symm
  have HG2 := hide hG2.symm
  have HW10 := hide hW10
  have HSR := hide (same_request W10 m x0 x1 x2 x3 s p t ad6 ad8 L cap6 L cap8 fs SF10.out SG10.out)
  have hrr : ((RN : Int) != (RN : Int)) = false := by simp
  clear hb8 hb9 b9 hW9 hG2 g9 p9 g9' hW10 p10 k10 s10 b79 sf8 fr8 HR7 B7 T7 SO7 P7 I7 SF7 G7 hFl7 hGl7 hFG hWF h78
  go_wp2_with (first
    | (rw [HW9.out, HG2.out])
    | (refine wpList_store_rowW rfl 32 _ _ rfl F (badG re) rfl rfl 32 (badG er) P9.out (badGI re) (by simp [badG_size]) (badG_one _) W10 HW10.out ?_)
    | (refine wpList_load_rowG rfl 44 _ rfl G rfl 44 #[.string m, .int .u8 (x0 : Nat), .int .u8 (x1 : Nat), .int .u8 (x2 : Nat), .int .u8 (x3 : Nat), .string s, .int .i64 (p : Nat), .string t, .slice ad6 L cap6] (0, 0) _ G10.out Tryz.underlying44 rfl info44 ?_)
    | (refine wpList_load_rowG rfl 44 _ rfl G2 rfl 44 #[.string m, .int .u8 (x0 : Nat), .int .u8 (x1 : Nat), .int .u8 (x2 : Nat), .int .u8 (x3 : Nat), .string s, .int .i64 (p : Nat), .string t, .slice ad8 L cap8] (0, 0) _ Y10.out Tryz.underlying44 rfl info44 ?_))
  refine HSR.out.mono ?_
  rintro e w11 ⟨rfl, hb11⟩
  have P11 := hide (keepB hb11 P10.out)
  have B11 := hide (B10.out.trans (hb11.mono B10.out.size))
  have SO11 := hide (SO10.out.below hb11)
  have HI11 := hide (is_at re v6 w11 (I10.out.below hb11))
  rw [badH_badG] at HI11
  clear hb11 HSR P10 B10 SO10 I10 SF10 SG10 G10 Y10
  go_wp2_with (first
    | (refine wpList_load_rowG rfl 32 _ rfl F rfl 32 (badG re) (0, 0) _ P11.out Tryz.underlying32 rfl (badGI re) ?_))
  refine HI11.out.mono ?_
  rintro e w12 ⟨rfl, hb12⟩
  have P12 := hide (keepB hb12 P11.out)
  have B12 := hide (B11.out.trans (hb12.mono B11.out.size))
  have SO12 := hide (SO11.out.below hb12)
  have T12 := hide (T0.out.below B12.out)
  obtain ⟨yc, hyc⟩ : ∃ y, y = (reply b).1.1.1 := ⟨_, rfl⟩
  obtain ⟨yr, hyr⟩ : ∃ y, y = strN (reply b).1.1.2 := ⟨_, rfl⟩
  obtain ⟨gs, hgs⟩ : ∃ fs, fs = (reply b).1.2 := ⟨_, rfl⟩
  obtain ⟨YN, hYN⟩ : ∃ I, I = (reply b).2.1 := ⟨_, rfl⟩
  obtain ⟨ye, hye⟩ : ∃ I, I = (reply b).2.2 := ⟨_, rfl⟩
  obtain ⟨YL, hYL⟩ : ∃ L, L = gs.length := ⟨_, rfl⟩
  have HRP := hide (reply2_at ao n co b w12 SO12.out T12.out.v T12.out.e)
  have HRS : Hid (∀ W, Below w.heap.size w W → Calls Tryz.prog 17 #[.slice a n c] W fun e w' => ∃ ad cap, e = .returned (.tuple #[.agg #[.int .i64 (yc : Nat), .string yr, .slice ad YL cap], .int .i64 (YN : Nat), .agg (badG ye)]) ∧ SrcF w' ad YL cap gs ∧ Below W.heap.size W w' ∧ (∀ b o, ad = some ⟨b, o, none⟩ → W.heap.size ≤ b)) := fun W hW => by
    have := rreply_at a n c b W (HSRC.out W hW)
    simp only [ryC, ← hyc, ← hyr, ← hgs, ← hYN, ← hye, ← hYL] at this
    exact this
  simp only [ryC, ← hyc, ← hyr, ← hgs, ← hYN, ← hye, ← hYL] at HRP
  clear hb12 hyc hyr hgs hYN hye hYL HI11 P11 B11 SO11
  go_wp2_with fail
  refine HRP.out.mono ?_
  rintro e w13 ⟨ad13, cap13, v13, rfl, sf13, iv13, hb13, fr13⟩
  obtain ⟨H, hH⟩ : ∃ G, G = w13.heap.size := ⟨_, rfl⟩
  obtain ⟨W14, hW14⟩ : ∃ W, W = w13.alloc (.cells #[.int .i64 (yc : Nat), .string yr, .slice ad13 YL cap13] 51) := ⟨_, rfl⟩
  have b14 : Below w13.heap.size w13 W14 := by rw [hW14]; exact (Below.refl _ _).alloc (Nat.le_refl _) _
  have hb14 : Below w12.heap.size w12 W14 := hb13.trans (b14.mono hb13.size)
  have g14 : W14.heap[H]? = some (.cells #[.int .i64 (yc : Nat), .string yr, .slice ad13 YL cap13] 51) := by rw [hW14, hH]; exact alloc_new _ _
  have HW14 : Hid (w13.alloc (.cells #[.int .i64 (yc : Nat), .string yr, .slice ad13 YL cap13] 51) = W14) := hW14.symm
  have HH := hide hH.symm
  have G14 := hide g14
  have B14 := hide (B12.out.trans (hb14.mono B12.out.size))
  have SO14 := hide (SO12.out.below hb14)
  have P14 := hide (keepB hb14 P12.out)
  have I14 := hide (iv13.below b14)
  have SF14 := hide (sf13.below b14)
  have FR13 : Hid (∀ b o, ad13 = some ⟨b, o, none⟩ → F < b) := fun b o e => by have h1 := fr13 b o e; have h2 := lt_of_some P12.out; omega
  have HR14 := hide (HRS.out W14 B14.out)
  have HHF : Hid (F < H) := by rw [hH]; exact lt_of_some (keepB hb13 P12.out)
  clear hb13 hb14 b14 hW14 hH g14 iv13 sf13 fr13 HRP B12 SO12 P12
  go_wp2_with (first | (rw [HW14.out, HH.out]))
  try (rw [HW14.out, HH.out]; go_wp2_with fail)
  refine HR14.out.mono ?_
  rintro e w15 ⟨ad15, cap15, rfl, sf15, hb15, fr15⟩
  obtain ⟨H2, hH2⟩ : ∃ G, G = w15.heap.size := ⟨_, rfl⟩
  obtain ⟨W16, hW16⟩ : ∃ W, W = w15.alloc (.cells #[.int .i64 (yc : Nat), .string yr, .slice ad15 YL cap15] 51) := ⟨_, rfl⟩
  have b16 : Below w15.heap.size w15 W16 := by rw [hW16]; exact (Below.refl _ _).alloc (Nat.le_refl _) _
  have hb16 : Below W14.heap.size W14 W16 := hb15.trans (b16.mono hb15.size)
  have g16 : W16.heap[H2]? = some (.cells #[.int .i64 (yc : Nat), .string yr, .slice ad15 YL cap15] 51) := by rw [hW16, hH2]; exact alloc_new _ _
  have p16 := keepB hb16 P14.out
  have g16' := keepB hb16 G14.out
  obtain ⟨W17, hW17⟩ : ∃ W, W = W16.setRow F (badG ye) := ⟨_, rfl⟩
  have hFl := lt_of_some P14.out
  have hGl := lt_of_some G14.out
  have hFG := HHF.out
  have hWF := HWF.out
  have h78 := hb15.size
  have p17 : W17.heap[F]? = some (.cells (badG ye) 32) := by rw [hW17]; exact setRow_heap _ _ _ _ _ p16
  have k17 : ∀ g, g ≠ F → W17.heap[g]? = W16.heap[g]? := fun g hg => by rw [hW17]; exact setRow_ne _ _ _ _ (by omega)
  have s17 : W16.heap.size ≤ W17.heap.size := by rw [hW17]; simp [World.setRow]
  have b79 := B14.out.trans (hb16.mono B14.out.size)
  have B17 : Hid (Below w.heap.size w W17) := by rw [hW17]; exact below_setRow b79 hWF _
  have G17 : Hid (W17.heap[H]? = some (.cells #[.int .i64 (yc : Nat), .string yr, .slice ad13 YL cap13] 51)) := (k17 H (by omega)).trans g16'
  have Y17 : Hid (W17.heap[H2]? = some (.cells #[.int .i64 (yc : Nat), .string yr, .slice ad15 YL cap15] 51)) := (k17 H2 (by omega)).trans g16
  have SO17 : Hid (Src W17 ao n co b) := (SO14.out.below hb16).keep (fun h0 i o ei => k17 i (by have := HSOF.out i o h0 ei; omega)) s17
  have I17 : Hid (IsH W17 ye v13) := (I14.out.below hb16).keep (fun i C hC => k17 i (fun e => by rw [e, p16] at hC; simp at hC))
  have SF17 : Hid (SrcF W17 ad13 YL cap13 gs) := (SF14.out.below hb16).keep (fun h0 i o ei => k17 i (by have := FR13.out i o ei; omega)) s17
  have SG17 : Hid (SrcF W17 ad15 YL cap15 gs) := (sf15.below b16).keep (fun h0 i o ei => k17 i (by have := fr15 i o ei; omega)) s17
  have P17 := hide p17
  have P16 := hide p16
  have HW16 : Hid (w15.alloc (.cells #[.int .i64 (yc : Nat), .string yr, .slice ad15 YL cap15] 51) = W16) := hW16.symm
  have HH2 := hide hH2.symm
  have HW17 := hide hW17
  have HSY := hide (same_reply W17 yc yr ad13 ad15 YL cap13 YL cap15 gs SF17.out SG17.out)
  have hyy : ((YN : Int) == (YN : Int)) = true := by simp
  clear hb15 hb16 b16 hW16 hH2 g16 p16 g16' hW17 p17 k17 s17 b79 sf15 fr15 HR14 B14 SO14 P14 I14 SF14 G14 hFl hGl hFG hWF h78
  go_wp2_with (first
    | (rw [HW16.out, HH2.out])
    | (refine wpList_store_rowW rfl 32 _ _ rfl F (badG ye) rfl rfl 32 (badG re) P16.out (badGI ye) (by simp [badG_size]) (badG_one _) W17 HW17.out ?_)
    | (refine wpList_load_rowG rfl 51 _ rfl H rfl 51 #[.int .i64 (yc : Nat), .string yr, .slice ad13 YL cap13] (0, 0) _ G17.out Tryz.underlying51 rfl info51 ?_)
    | (refine wpList_load_rowG rfl 51 _ rfl H2 rfl 51 #[.int .i64 (yc : Nat), .string yr, .slice ad15 YL cap15] (0, 0) _ Y17.out Tryz.underlying51 rfl info51 ?_))
  refine HSY.out.mono ?_
  rintro e w18 ⟨rfl, hb18⟩
  have P18 := hide (keepB hb18 P17.out)
  have B18 := hide (B17.out.trans (hb18.mono B17.out.size))
  have SO18 := hide (SO17.out.below hb18)
  have HI18 := hide (is_at ye v13 w18 (I17.out.below hb18))
  rw [badH_badG] at HI18
  clear hb18 HSY P17 B17 SO17 I17 SF17 SG17 G17 Y17
  go_wp2_with (first
    | (refine wpList_load_rowG rfl 32 _ rfl F rfl 32 (badG ye) (0, 0) _ P18.out Tryz.underlying32 rfl (badGI ye) ?_))
  refine HI18.out.mono ?_
  rintro e w19 ⟨rfl, hb19⟩
  have B19 := hide (B18.out.trans (hb19.mono B18.out.size))
  have HSB := hide (same_bytes w19 ao a n co n c b (SO18.out.below hb19) (HSRC.out w19 B19.out))
  have HWK := hide (works_at w19 (T0.out.below B19.out))
  clear hb19 HI18 P18 B18 SO18
  go_wp2_with fail
  refine HSB.out.mono ?_
  rintro e wq ⟨rfl, rfl⟩
  go_wp2_with fail
  refine HWK.out.mono ?_
  rintro e w20 ⟨rfl, hb20⟩
  have B20 := hide (B19.out.trans (hb20.mono B19.out.size))
  clear hb20 HWK HSB B19
  go_wp2_with fail
  go_ret
  exact ⟨rfl, B20.out⟩
end Go.Proofs.YthbnbnfhbkekpaaGreatDoor
