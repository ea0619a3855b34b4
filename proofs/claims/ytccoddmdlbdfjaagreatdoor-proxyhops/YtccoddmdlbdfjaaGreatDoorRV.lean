/-
  Request and Reply of package head, with where their fields lie; conditions as each theorem has them.
-/
import Derived.Test.YtccoddmdlbdfjaaGreatDoorHK
import Derived.Test.YtccoddmdlbdfjaaGreatDoorHL
import Derived.Test.YtccoddmdlbdfjaaGreatDoorV
set_option linter.unusedSimpArgs false
set_option linter.unusedVariables false
set_option maxRecDepth 100000
namespace Go.Proofs.YtccoddmdlbdfjaaGreatDoor
open Go.RowKit

theorem goTo_len (t : List Nat) : (goTo t).1.1.1.length = 4 := by
  unfold goTo
  split
  · exact dest_len t
  · have := host_len t
    split
    · rename_i h heq; rw [heq] at this; exact this
    · rfl
theorem rline_len (x : List Nat) : (rline x).1.2.1.1.1.length = 4 := by
  have key : ∀ m t, (targ m t).1.2.1.1.1.length = 4 := fun m t => by
    unfold targ
    split
    · have := dest_len t
      split
      · rename_i d heq; rw [heq] at this; exact this
      · rfl
    · split
      · rfl
      · have := goTo_len (cutT t).1
        split
        · rename_i d heq; rw [heq] at this; exact this
        · rfl
  unfold rline
  split
  · split
    · rfl
    · split
      · rfl
      · exact key _ _
  · rfl
theorem request_len (l : List Nat) : (request l).1.1.2.1.1.1.length = 4 := by
  unfold request
  split
  · rfl
  · rename_i ls _
    have : (req ls).1.1.2.1.1.1.length = 4 := by
      cases ls with
      | nil => rfl
      | cons x r =>
        unfold req
        have := rline_len x
        simp only
        split
        · rename_i q heq
          rw [heq] at this
          split
          · exact this
          · rfl
        · rfl
    split
    · rename_i q heq; rw [heq] at this; exact this
    · rfl
theorem request_row (l : List Nat) : ∃ (m : ByteArray) (x0 x1 x2 x3 : Nat) (s : ByteArray) (p : Nat) (t : ByteArray), ∀ v, rqC (request l).1.1 v = #[.string m, .int .u8 (x0 : Nat), .int .u8 (x1 : Nat), .int .u8 (x2 : Nat), .int .u8 (x3 : Nat), .string s, .int .i64 (p : Nat), .string t, v] := by
  obtain ⟨x0, x1, x2, x3, hA⟩ := four (request_len l)
  exact ⟨strN (request l).1.1.1, x0, x1, x2, x3, strN (request l).1.1.2.1.1.2, (request l).1.1.2.1.2, strN (request l).1.1.2.2, fun v => by unfold rqC; rw [hA]; rfl⟩
set_option maxRecDepth 100000 in
set_option maxHeartbeats 4000000 in
theorem request2_at (a : Option Addr) (n c : Nat) (l : List Nat) (w : World) (h : Src w a n c l) (hV : Vars w) (hE : VarE w) : Calls Tryz.prog 30 #[.slice a n c] w fun e w' => ∃ ad cap v, e = .returned (.tuple #[.agg (rqC (request l).1.1 (.slice ad (request l).1.2.length cap)), .int .i64 ((request l).2.1 : Nat), v]) ∧ SrcF w' ad (request l).1.2.length cap (request l).1.2 ∧ IsH w' (request l).2.2 v ∧ Below w.heap.size w w' ∧ (∀ b o, ad = some ⟨b, o, none⟩ → w.heap.size ≤ b) := by
  have b0 : Below w.heap.size w (w.alloc (.cells z9 34)) := (Below.refl _ _).alloc (Nat.le_refl _) _
  have v0 := hV.below b0
  have e0 := hE.below b0
  have s0 := h.below b0
  obtain ⟨W0, hW0⟩ : ∃ W0, W0 = w.alloc (.cells z9 34) := ⟨_, rfl⟩
  rw [← hW0] at b0 v0 e0 s0
  have R0 : Hid (W0.heap[w.heap.size]? = some (.cells z9 34)) := by rw [hW0]; exact alloc_new _ _
  have HW0 : Hid (w.alloc (.cells #[.string ⟨#[]⟩, .int .u8 0, .int .u8 0, .int .u8 0, .int .u8 0, .string ⟨#[]⟩, .int .i64 0, .string ⟨#[]⟩, .slice none 0 0] 34) = W0) := hW0.symm
  have HEN := hide (end_at a n c l W0 s0 v0)
  have B0 := hide b0
  have V0 := hide v0
  have E0 := hide e0
  have S0 := hide s0
  have hcl := h.hcap
  have hmx := h.hmax
  unfold maxLen at hmx
  have HNL := hide h.hlen
  clear b0 v0 e0 s0 hW0 h hV hE
  rcases enE_two l with ⟨hok, ls, hls, htot⟩ | ⟨hno, hz, ac, cc, her⟩
  · have hen : enE l = (tot ls, .ok) := by rw [← htot, ← hok]
    rw [hen] at HEN
    obtain ⟨k, hk⟩ : ∃ k, k = tot ls := ⟨_, rfl⟩
    rw [← hk] at HEN
    obtain ⟨hpre, hLn, ht8, htl⟩ := hd_some hls
    rw [← hk] at ht8 htl
    have hk2 : 2 ≤ k := by rw [hk]; exact tot_ge ls
    have hkn : k ≤ n := by rw [← HNL.out]; exact htl
    have htk : l.take k = fl ls := by rw [hk]; exact hd_take hls
    have HLB : Hid (∀ x ∈ l, x < 256) := S0.out.byte
    obtain ⟨x, rest, hfl, hpx, hxl, hbad, hgood⟩ := nil_fl hls
    have HBAD := hide hbad
    have HGOOD := hide hgood
    clear hbad hgood
    have hfk : (fl ls).length = k := hk.symm
    have hxk : x.length + 2 ≤ k := by rw [← hfk, hfl]; simp
    have hxb : ∀ y ∈ x, y < 256 := fun y hy => HLB.out y (hxl y hy)
    have HRQ : Hid (request l = match req ls with
        | (q, .ok) => (q, k, .ok)
        | (_, e) => ((noR, []), 0, e)) := by show _ = _; unfold request; rw [hls, hk]; rfl
    obtain ⟨T, hT⟩ : ∃ T, T = strN (l.take k) := ⟨_, rfl⟩
    have hTb : byt T = fl ls := by rw [hT, htk]; exact byt_strN _ (fun y hy => HLB.out y (by rw [← htk] at hy; exact List.mem_of_mem_take hy))
    have hTs : T.size = k := by rw [← byt_length, hTb]; exact hfk
    have HRL : Hid (∀ W, Vars W → VarE W → Calls Tryz.prog 55 #[.string (strN x)] W fun e w' => ∃ q v, e = .returned (.tuple #[.agg (rqC q (.slice none 0 0)), v]) ∧ q.2.1.1.1.length = 4 ∧ IsH w' (rline x).2 v ∧ ((rline x).2 = .ok → q = (rline x).1) ∧ Below W.heap.size W w') := fun W h1 h2 => by
      have := rline_at (strN x) W (by rw [strN_size]; omega) h1 h2
      rw [byt_strN x hxb] at this; exact this
    have HLS := hide hls
    have HLN := hide hLn
    have HTB := hide hTb
    have HTS := hide hTs
    have HTBB : Hid (∀ c ∈ fl ls, c < 256) := fun c hc => HLB.out c (by rw [← htk] at hc; exact List.mem_of_mem_take hc)
    have HFL := hide hfl
    have HPX := hide hpx
    have HTT : Hid (strN (l.take k) = T) := hT.symm
    clear hok htot hen hpre hk htk hls hLn hfl hpx hxl hfk hTb hTs hT hxb
    go_enter Tryz.func30, Tryz.ntmps30
    go_wp2_with fail
    rw [HW0.out]
    refine HEN.out.mono ?_
    rintro e w1 ⟨v1, rfl, hv1, hb1⟩
    obtain rfl : v1 = .nilIface := hv1
    have s1 := S0.out.below hb1
    obtain ⟨bb, oo, rfl, hbb, hcel⟩ := s1.lies (by omega)
    have hstr := run_str w1 bb oo k c (l.take k) (by rw [List.length_take, HNL.out]; omega) (fun i hi => by rw [hcel i (by omega)]; simp [List.getD, List.getElem?_take, hi])
    rw [HTT.out] at hstr
    have V1 := hide (V0.out.below hb1)
    have E1 := hide (E0.out.below hb1)
    have R1 := hide (keepB hb1 R0.out)
    have B1 := hide (B0.out.trans (hb1.mono B0.out.size))
    obtain ⟨G, hG⟩ : ∃ G, G = w1.heap.size := ⟨_, rfl⟩
    obtain ⟨W2, hW2⟩ : ∃ W2, W2 = w1.alloc (.cells (rdC T 0) 104) := ⟨_, rfl⟩
    have b2 : Below w1.heap.size w1 W2 := by rw [hW2]; exact (Below.refl _ _).alloc (Nat.le_refl _) _
    have g2 : W2.heap[G]? = some (.cells (rdC T 0) 104) := by rw [hW2, hG]; exact alloc_new _ _
    have hG0 : G ≠ 0 := by
      obtain ⟨m, hm⟩ := V1.out
      have := lt_of_cell hm
      rw [hG]; simp only at this; omega
    have HG1 : Hid (G ≠ 1) := by have := lt_of_cell E1.out; simp only at this; rw [hG]; show _ ≠ _; omega
    have HGW : Hid (w.heap.size < G) := by rw [hG]; exact lt_of_some R1.out
    have HNX := hide (next_at T 0 G x rest W2 (V1.out.below b2) g2 hG0 (by rw [HTS.out]; exact ht8) (by omega) (by rw [List.drop_zero, HTB.out]; exact HFL.out) HPX.out)
    have V2 := hide (V1.out.below b2)
    have E2 := hide (E1.out.below b2)
    have R2 := hide (keepB b2 R1.out)
    have B2 := hide (B1.out.trans (b2.mono B1.out.size))
    have HG0 := hide hG0
    have HGG := hide hG.symm
    have HW2 : Hid (w1.alloc (.cells #[.string T, .int .i64 0] 104) = W2) := hW2.symm
    obtain ⟨X, hX⟩ : ∃ X, X = strN x := ⟨_, rfl⟩
    rw [← hX] at HNX HRL
    clear s1 hbb hcel hG hW2 b2 g2 hG0 hX HEN S0 hb1
    go_wp2_with (first | rw [HW2.out])
    try (rw [HW2.out])
    try rw [HGG.out]
    refine HNX.out.mono ?_
    rintro e w3 ⟨rfl, h31, h32⟩
    have V3 := hide (V2.out.kept h32 HG0.out)
    have E3 : Hid (VarE w3) := (World.cell?_of_block (h32.block 1 (lt_of_cell (a := ⟨1, 0, none⟩) E2.out) (Ne.symm HG1.out) (Ne.symm HG1.out))).trans E2.out
    have R3 : Hid (w3.heap[w.heap.size]? = some (.cells z9 34)) := (h32.block _ (lt_of_some R2.out) (by have := HGW.out; omega) (by have := HGW.out; omega)).trans R2.out
    have B3 : Hid (Below w.heap.size w w3) := by
      have := HGW.out
      exact ⟨h32.os.trans B2.out.os, h32.tape.trans B2.out.tape, h32.output.trans B2.out.output, Nat.le_trans B2.out.size h32.size, fun i hi => (h32.block i (by have := B2.out.size; omega) (by omega) (by omega)).trans (B2.out.block i hi)⟩
    have G3 := hide h31
    clear h31 h32 HNX V2 E2 R2 B2 hstr
    go_wp2_with fail
    refine (HRL.out _ V3.out E3.out).mono ?_
    rintro e w4 ⟨q, v4, rfl, hq4, hi4, hqo, hb4⟩
    obtain ⟨qm, ⟨⟨qa, qn⟩, qp⟩, qt⟩ := q
    obtain ⟨x0, x1, x2, x3, rfl⟩ := four hq4
    simp only [rqC, nums, List.map_cons, List.map_nil, List.cons_append, List.nil_append]
    obtain ⟨QM, hQM⟩ : ∃ S, S = strN qm := ⟨_, rfl⟩
    obtain ⟨QN, hQN⟩ : ∃ S, S = strN qn := ⟨_, rfl⟩
    obtain ⟨QT, hQT⟩ : ∃ S, S = strN qt := ⟨_, rfl⟩
    rw [← hQM, ← hQN, ← hQT]
    have HQ : Hid (QM = strN qm ∧ QN = strN qn ∧ QT = strN qt) := ⟨hQM, hQN, hQT⟩
    obtain ⟨GR, hGR⟩ : ∃ G, G = w4.heap.size := ⟨_, rfl⟩
    obtain ⟨W5, hW5⟩ : ∃ W, W = w4.alloc (.cells #[.string QM, .int .u8 (x0 : Nat), .int .u8 (x1 : Nat), .int .u8 (x2 : Nat), .int .u8 (x3 : Nat), .string QN, .int .i64 (qp : Nat), .string QT, .slice none 0 0] 34) := ⟨_, rfl⟩
    have b5 : Below w4.heap.size w4 W5 := by rw [hW5]; exact (Below.refl _ _).alloc (Nat.le_refl _) _
    have q5 : W5.heap[GR]? = some (.cells #[.string QM, .int .u8 (x0 : Nat), .int .u8 (x1 : Nat), .int .u8 (x2 : Nat), .int .u8 (x3 : Nat), .string QN, .int .i64 (qp : Nat), .string QT, .slice none 0 0] 34) := by rw [hW5, hGR]; exact alloc_new _ _
    have R5 := hide (keepB b5 (keepB hb4 R3.out))
    have bb4 : Below w.heap.size w w4 := B3.out.trans (hb4.mono B3.out.size)
    have B5 := hide (bb4.trans (b5.mono bb4.size))
    have V5 := hide ((V3.out.below hb4).below b5)
    have G5 := hide (keepB b5 (keepB hb4 G3.out))
    have I5 := hide (hi4.below b5)
    have HGR : Hid (GR ≠ G ∧ w.heap.size < GR) := by
      have g4 := lt_of_some (keepB hb4 G3.out)
      have r4 := lt_of_some (keepB hb4 R3.out)
      rw [hGR]; exact ⟨by omega, r4⟩
    have HW5 : Hid (w4.alloc (.cells #[.string QM, .int .u8 (x0 : Nat), .int .u8 (x1 : Nat), .int .u8 (x2 : Nat), .int .u8 (x3 : Nat), .string QN, .int .i64 (qp : Nat), .string QT, .slice none 0 0] 34) = W5) := hW5.symm
    have HGR2 := hide hGR.symm
    have HQO := hide hqo
    have Q5 := hide q5
    have HGRL : Hid (W5.heap.size = GR + 1) := by rw [hW5, hGR]; show (w4.alloc _).heap.size = _; simp
    clear hq4 hQM hQN hQT hW5 b5 q5 bb4 hi4 hqo hGR hb4 V3 E3 R3 B3 G3 HRL
    by_cases her : (rline x).2 = .ok
    · rw [her] at I5
      obtain rfl : v4 = .nilIface := I5.out
      obtain ⟨ls', hrest, hLn', hreq⟩ := HGOOD.out her
      have HQE := hide (HQO.out her)
      obtain ⟨fs, fe, hfs⟩ : ∃ f e, flds (x.length + 2) ls' [] = (f, e) := ⟨_, _, rfl⟩
      have HFD := hide (fields_at T (0 + x.length + 2) G ls' W5 V5.out G5.out HG0.out (by rw [HTS.out]; exact ht8) (by rw [HTS.out]; omega) (by
        rw [HTB.out, HFL.out, Nat.zero_add, List.drop_append, List.drop_eq_nil_of_le (by omega), show x.length + 2 - x.length = 2 by omega, hrest]; rfl) hLn')
      rw [Nat.zero_add, hfs] at HFD
      have hokb : okB fs := by
        have := flds_byte ls' (x.length + 2) [] (fun y hy c hc => HTBB.out c (by rw [HFL.out, hrest]; simp [fl_mem hy hc])) (by intro f hf; simp at hf)
        rw [hfs] at this; exact this
      have HOKB := hide hokb
      rw [hfs] at hreq
      clear her hrest hLn' hfs hokb
      go_wp2_with (first | rw [HW5.out])
      try (rw [HW5.out])
      try rw [HGR2.out]
      try go_wp2_with fail
      refine HFD.out.mono ?_
      rintro e w6 ⟨v6, u6, rfl, o6, i6, k6⟩
      obtain ⟨ad, cap, rfl, s6, hown⟩ := o6.src HOKB.out
      have R6 : Hid (w6.heap[w.heap.size]? = some (.cells z9 34)) := (k6.block _ (lt_of_some R5.out) (by have := HGW.out; omega) (by have := HGW.out; omega)).trans R5.out
      have B6 : Hid (Below w.heap.size w w6) := by
        have := HGW.out
        exact ⟨k6.os.trans B5.out.os, k6.tape.trans B5.out.tape, k6.output.trans B5.out.output, Nat.le_trans B5.out.size k6.size, fun i hi => (k6.block i (by have := B5.out.size; omega) (by omega) (by omega)).trans (B5.out.block i hi)⟩
      have q6 : w6.heap[GR]? = some (.cells #[.string QM, .int .u8 (x0 : Nat), .int .u8 (x1 : Nat), .int .u8 (x2 : Nat), .int .u8 (x3 : Nat), .string QN, .int .i64 (qp : Nat), .string QT, .slice none 0 0] 34) := (k6.block GR (lt_of_some Q5.out) HGR.out.1 HGR.out.1).trans Q5.out
      have d8 : w6.cell? ⟨GR, 8, none⟩ = some (.slice none 0 0) := by simp [World.cell?, q6]
      have z8 : w6.frozen? ⟨GR, 8, none⟩ = false := by simp [World.frozen?, q6]
      have I6 := hide i6
      have S6 := hide s6
      have Q6 := hide q6
      have HOW := hide hown
      clear o6 i6 k6 s6 q6 hown HFD G5 V5 R5 B5 I5
      obtain ⟨W7, hW7⟩ : ∃ W, W = w6.setCell ⟨GR, 8, none⟩ (.slice ad fs.length cap) := ⟨_, rfl⟩
      have R7 : Hid (W7.heap[w.heap.size]? = some (.cells z9 34)) := by
        rw [hW7, Below.heap_setCell _ _ _ _ (by have := HGR.out.2; simp; omega)]; exact R6.out
      have B7 : Hid (Below w.heap.size w W7) := by rw [hW7]; exact B6.out.setCell (by have := HGR.out.2; simp; omega) _
      have q7 : W7.heap[GR]? = some (.cells #[.string QM, .int .u8 (x0 : Nat), .int .u8 (x1 : Nat), .int .u8 (x2 : Nat), .int .u8 (x3 : Nat), .string QN, .int .i64 (qp : Nat), .string QT, .slice ad fs.length cap] 34) := by rw [hW7, heap_setCell_same Q6.out 8 _]; rfl
      have I7 : Hid (IsH W7 fe u6) := by
        rw [hW7]
        refine I6.out.keep fun b C hb => Below.heap_setCell _ _ _ _ ?_
        intro e
        simp at e
        rw [e, Q6.out] at hb
        simp at hb
      have S7 : Hid (SrcF W7 ad fs.length cap fs) := by
        rw [hW7]
        refine S6.out.keep (fun h0 b o e => Below.heap_setCell _ _ _ _ ?_) (by simp [World.setCell])
        have h1 := HOW.out b o e
        have h2 := HGRL.out
        simp; omega
      have Q7 := hide q7
      have HW7 : Hid (w6.setCell ⟨GR, 8, none⟩ (.slice ad fs.length cap) = W7) := hW7.symm
      clear hW7 q7 R6 B6 I6 S6 Q6
      by_cases hfe : fe = .ok
      · subst hfe
        obtain rfl : u6 = .nilIface := I7.out
        have HR : Hid (request l = (((rline x).1, fs), k, .ok)) := by show _ = _; rw [HRQ.out, hreq]
        obtain ⟨W9, hW9⟩ : ∃ W, W = W7.setRow w.heap.size #[.string QM, .int .u8 (x0 : Nat), .int .u8 (x1 : Nat), .int .u8 (x2 : Nat), .int .u8 (x3 : Nat), .string QN, .int .i64 (qp : Nat), .string QT, .slice ad fs.length cap] := ⟨_, rfl⟩
        have F2 : Hid (W9.heap[w.heap.size]? = some (.cells #[.string QM, .int .u8 (x0 : Nat), .int .u8 (x1 : Nat), .int .u8 (x2 : Nat), .int .u8 (x3 : Nat), .string QN, .int .i64 (qp : Nat), .string QT, .slice ad fs.length cap] 34)) := by rw [hW9]; exact setRow_heap _ _ _ _ _ R7.out
        have F5 : Hid (Below w.heap.size w W9) := by rw [hW9]; exact below_setRow B7.out (Nat.le_refl _) _
        have F4 : Hid (SrcF W9 ad fs.length cap fs) := by
          rw [hW9]
          refine S7.out.keep (fun h0 b o e => setRow_ne _ _ _ _ ?_) (by simp [World.setRow])
          have h1 := HOW.out b o e
          have h2 := HGRL.out
          have h3 := HGR.out.2
          omega
        have HW9 := hide hW9
        clear hW9 hreq S7 B7
        go_wp2_with (first | (rw [HW7.out]) | (refine wpList_load_rowG rfl 34 _ rfl GR rfl 34 #[.string QM, .int .u8 (x0 : Nat), .int .u8 (x1 : Nat), .int .u8 (x2 : Nat), .int .u8 (x3 : Nat), .string QN, .int .i64 (qp : Nat), .string QT, .slice ad fs.length cap] (0, 0) _ Q7.out Tryz.underlying34 rfl info44 ?_) | (refine wpList_store_rowW rfl 34 _ _ rfl w.heap.size #[.string QM, .int .u8 (x0 : Nat), .int .u8 (x1 : Nat), .int .u8 (x2 : Nat), .int .u8 (x3 : Nat), .string QN, .int .i64 (qp : Nat), .string QT, .slice ad fs.length cap] rfl rfl 34 z9 R7.out info44 rfl (by simp [Value.oneCell']) W9 HW9.out ?_))
        refine bodyPost_ret (res_ctt rfl _ _ w.heap.size 34 #[.string QM, .int .u8 (x0 : Nat), .int .u8 (x1 : Nat), .int .u8 (x2 : Nat), .int .u8 (x3 : Nat), .string QN, .int .i64 (qp : Nat), .string QT, .slice ad fs.length cap] (0, 0) _ rfl F2.out Tryz.underlying34 rfl info44) rfl ?_
        rw [HR.out]
        refine ⟨ad, cap, .nilIface, ?_, F4.out, rfl, F5.out, fun b o e => by have h1 := HOW.out b o e; have h2 := HGRL.out; have h3 := HGR.out.2; omega⟩
        rw [← HQE.out, HQ.out.1, HQ.out.2.1, HQ.out.2.2]; rfl
      · have HR : Hid (request l = ((noR, []), 0, fe)) := by
          show _ = _
          rw [HRQ.out, hreq]
          cases fe with
          | ok => exact absurd rfl hfe
          | one a c => rfl
          | wr a e => rfl
        obtain ⟨bp, rfl⟩ := I7.out.ptr hfe
        clear hfe hreq
        obtain ⟨W9, hW9, f2, f5, f3⟩ := fin9 (cs := z9) R7.out B7.out I7.out
        have F2 := hide f2
        have F3 := hide f3
        have F5 := hide f5
        have HW9 := hide hW9
        clear hW9 f2 f5 f3
        go_wp2_with (first | (rw [HW7.out]) | (refine wpList_store_rowW rfl 34 _ _ rfl w.heap.size z9 rfl rfl 34 z9 R7.out info44 rfl z9_one W9 HW9.out ?_))
        refine bodyPost_ret (res_ctt rfl _ _ w.heap.size 34 z9 (0, 0) _ rfl F2.out Tryz.underlying34 rfl info44) rfl ?_
        rw [HR.out]
        exact ⟨none, 0, _, rfl, SrcF.nilS _, F3.out, F5.out, fun _ _ e => by cases e⟩
    · have HR : Hid (request l = ((noR, []), 0, (rline x).2)) := by
        show _ = _
        rw [HRQ.out, HBAD.out her]
        generalize (rline x).2 = ee at her
        cases ee with
        | ok => exact absurd rfl her
        | one a c => rfl
        | wr a e => rfl
      obtain ⟨bp, rfl⟩ := I5.out.ptr her
      clear her
      obtain ⟨W9, hW9, f2, f5, f3⟩ := fin9 (cs := z9) R5.out B5.out I5.out
      have F2 := hide f2
      have F3 := hide f3
      have F5 := hide f5
      have HW9 := hide hW9
      clear hW9 f2 f5 f3
      go_wp2_with (first | (rw [HW5.out, HGR2.out]) | (refine wpList_store_rowW rfl 34 _ _ rfl w.heap.size z9 rfl rfl 34 z9 R5.out info44 rfl z9_one W9 HW9.out ?_))
      refine bodyPost_ret (res_ctt rfl _ _ w.heap.size 34 z9 (0, 0) _ rfl F2.out Tryz.underlying34 rfl info44) rfl ?_
      rw [HR.out]
      exact ⟨none, 0, _, rfl, SrcF.nilS _, F3.out, F5.out, fun _ _ e => by cases e⟩
  · have hrq := request_short hno
    rw [her] at hrq
    rw [show enE l = (0, .one ac cc) by rw [← hz, ← her]] at HEN
    rw [hrq]
    clear hno hz her hrq
    go_enter Tryz.func30, Tryz.ntmps30
    go_wp2_with fail
    rw [HW0.out]
    refine HEN.out.mono ?_
    rintro e w1 ⟨v1, rfl, hv1, hb1⟩
    obtain ⟨bp, rfl⟩ := hv1.ptr (by simp)
    obtain ⟨W9, hW9, f2, f5, f3⟩ := fin9 (cs := z9) (keepB hb1 R0.out) (B0.out.trans (hb1.mono B0.out.size)) hv1
    have R9 := hide (keepB hb1 R0.out)
    have F2 := hide f2
    have F3 := hide f3
    have F5 := hide f5
    have HW9 := hide hW9
    clear hv1 hb1 hW9 f2 f5 f3
    go_wp2_with (first | (refine wpList_store_rowW rfl 34 _ _ rfl w.heap.size z9 rfl rfl 34 z9 R9.out info44 rfl z9_one W9 HW9.out ?_))
    refine bodyPost_ret (res_ctt rfl _ _ w.heap.size 34 z9 (0, 0) _ rfl F2.out Tryz.underlying34 rfl info44) rfl ⟨none, 0, _, rfl, SrcF.nilS _, F3.out, F5.out, fun _ _ e => by cases e⟩
set_option maxRecDepth 100000 in
set_option maxHeartbeats 4000000 in
theorem reply2_at (a : Option Addr) (n c : Nat) (l : List Nat) (w : World) (h : Src w a n c l) (hV : Vars w) (hE : VarE w) : Calls Tryz.prog 34 #[.slice a n c] w fun e w' => ∃ ad cap v, e = .returned (.tuple #[.agg (ryC (reply l).1.1 (.slice ad (reply l).1.2.length cap)), .int .i64 ((reply l).2.1 : Nat), v]) ∧ SrcF w' ad (reply l).1.2.length cap (reply l).1.2 ∧ IsH w' (reply l).2.2 v ∧ Below w.heap.size w w' ∧ (∀ b o, ad = some ⟨b, o, none⟩ → w.heap.size ≤ b) := by
  have b0 : Below w.heap.size w (w.alloc (.cells z3 73)) := (Below.refl _ _).alloc (Nat.le_refl _) _
  have v0 := hV.below b0
  have e0 := hE.below b0
  have s0 := h.below b0
  obtain ⟨W0, hW0⟩ : ∃ W0, W0 = w.alloc (.cells z3 73) := ⟨_, rfl⟩
  rw [← hW0] at b0 v0 e0 s0
  have R0 : Hid (W0.heap[w.heap.size]? = some (.cells z3 73)) := by rw [hW0]; exact alloc_new _ _
  have HW0 : Hid (w.alloc (.cells #[.int .i64 0, .string ⟨#[]⟩, .slice none 0 0] 73) = W0) := hW0.symm
  have HEN := hide (end_at a n c l W0 s0 v0)
  have B0 := hide b0
  have V0 := hide v0
  have E0 := hide e0
  have S0 := hide s0
  have hcl := h.hcap
  have hmx := h.hmax
  unfold maxLen at hmx
  have HNL := hide h.hlen
  clear b0 v0 e0 s0 hW0 h hV hE
  rcases enE_two l with ⟨hok, ls, hls, htot⟩ | ⟨hno, hz, ac, cc, her⟩
  · have hen : enE l = (tot ls, .ok) := by rw [← htot, ← hok]
    rw [hen] at HEN
    obtain ⟨k, hk⟩ : ∃ k, k = tot ls := ⟨_, rfl⟩
    rw [← hk] at HEN
    obtain ⟨hpre, hLn, ht8, htl⟩ := hd_some hls
    rw [← hk] at ht8 htl
    have hk2 : 2 ≤ k := by rw [hk]; exact tot_ge ls
    have hkn : k ≤ n := by rw [← HNL.out]; exact htl
    have htk : l.take k = fl ls := by rw [hk]; exact hd_take hls
    have HLB : Hid (∀ x ∈ l, x < 256) := S0.out.byte
    obtain ⟨x, rest, hfl, hpx, hxl, hbad, hgood⟩ := nil_fly hls
    have HBAD := hide hbad
    have HGOOD := hide hgood
    clear hbad hgood
    have hfk : (fl ls).length = k := hk.symm
    have hxk : x.length + 2 ≤ k := by rw [← hfk, hfl]; simp
    have hxb : ∀ y ∈ x, y < 256 := fun y hy => HLB.out y (hxl y hy)
    have HRQ : Hid (reply l = match rep ls with
        | (q, .ok) => (q, k, .ok)
        | (_, e) => (((0, []), []), 0, e)) := by show _ = _; unfold reply; rw [hls, hk]; rfl
    obtain ⟨T, hT⟩ : ∃ T, T = strN (l.take k) := ⟨_, rfl⟩
    have hTb : byt T = fl ls := by rw [hT, htk]; exact byt_strN _ (fun y hy => HLB.out y (by rw [← htk] at hy; exact List.mem_of_mem_take hy))
    have hTs : T.size = k := by rw [← byt_length, hTb]; exact hfk
    have HRL : Hid (∀ W, Vars W → Calls Tryz.prog 58 #[.string (strN x)] W fun e w' => ∃ v, e = .returned (.tuple #[.agg (ryC (yline x).1 (.slice none 0 0)), v]) ∧ IsH w' (yline x).2 v ∧ Below W.heap.size W w') := fun W h1 => by
      have := yline_at (strN x) W (by rw [strN_size]; omega) h1
      rw [byt_strN x hxb] at this; exact this
    have HLS := hide hls
    have HLN := hide hLn
    have HTB := hide hTb
    have HTS := hide hTs
    have HTBB : Hid (∀ c ∈ fl ls, c < 256) := fun c hc => HLB.out c (by rw [← htk] at hc; exact List.mem_of_mem_take hc)
    have HFL := hide hfl
    have HPX := hide hpx
    have HTT : Hid (strN (l.take k) = T) := hT.symm
    clear hok htot hen hpre hk htk hls hLn hfl hpx hxl hfk hTb hTs hT hxb
    go_enter Tryz.func34, Tryz.ntmps34
    go_wp2_with fail
    rw [HW0.out]
    refine HEN.out.mono ?_
    rintro e w1 ⟨v1, rfl, hv1, hb1⟩
    obtain rfl : v1 = .nilIface := hv1
    have s1 := S0.out.below hb1
    obtain ⟨bb, oo, rfl, hbb, hcel⟩ := s1.lies (by omega)
    have hstr := run_str w1 bb oo k c (l.take k) (by rw [List.length_take, HNL.out]; omega) (fun i hi => by rw [hcel i (by omega)]; simp [List.getD, List.getElem?_take, hi])
    rw [HTT.out] at hstr
    have V1 := hide (V0.out.below hb1)
    have E1 := hide (E0.out.below hb1)
    have R1 := hide (keepB hb1 R0.out)
    have B1 := hide (B0.out.trans (hb1.mono B0.out.size))
    obtain ⟨G, hG⟩ : ∃ G, G = w1.heap.size := ⟨_, rfl⟩
    obtain ⟨W2, hW2⟩ : ∃ W2, W2 = w1.alloc (.cells (rdC T 0) 104) := ⟨_, rfl⟩
    have b2 : Below w1.heap.size w1 W2 := by rw [hW2]; exact (Below.refl _ _).alloc (Nat.le_refl _) _
    have g2 : W2.heap[G]? = some (.cells (rdC T 0) 104) := by rw [hW2, hG]; exact alloc_new _ _
    have hG0 : G ≠ 0 := by
      obtain ⟨m, hm⟩ := V1.out
      have := lt_of_cell hm
      rw [hG]; simp only at this; omega
    have HG1 : Hid (G ≠ 1) := by have := lt_of_cell E1.out; simp only at this; rw [hG]; show _ ≠ _; omega
    have HGW : Hid (w.heap.size < G) := by rw [hG]; exact lt_of_some R1.out
    have HNX := hide (next_at T 0 G x rest W2 (V1.out.below b2) g2 hG0 (by rw [HTS.out]; exact ht8) (by omega) (by rw [List.drop_zero, HTB.out]; exact HFL.out) HPX.out)
    have V2 := hide (V1.out.below b2)
    have E2 := hide (E1.out.below b2)
    have R2 := hide (keepB b2 R1.out)
    have B2 := hide (B1.out.trans (b2.mono B1.out.size))
    have HG0 := hide hG0
    have HGG := hide hG.symm
    have HW2 : Hid (w1.alloc (.cells #[.string T, .int .i64 0] 104) = W2) := hW2.symm
    obtain ⟨X, hX⟩ : ∃ X, X = strN x := ⟨_, rfl⟩
    rw [← hX] at HNX HRL
    clear s1 hbb hcel hG hW2 b2 g2 hG0 hX HEN S0 hb1
    go_wp2_with (first | rw [HW2.out])
    try (rw [HW2.out])
    try rw [HGG.out]
    refine HNX.out.mono ?_
    rintro e w3 ⟨rfl, h31, h32⟩
    have V3 := hide (V2.out.kept h32 HG0.out)
    have E3 : Hid (VarE w3) := (World.cell?_of_block (h32.block 1 (lt_of_cell (a := ⟨1, 0, none⟩) E2.out) (Ne.symm HG1.out) (Ne.symm HG1.out))).trans E2.out
    have R3 : Hid (w3.heap[w.heap.size]? = some (.cells z3 73)) := (h32.block _ (lt_of_some R2.out) (by have := HGW.out; omega) (by have := HGW.out; omega)).trans R2.out
    have B3 : Hid (Below w.heap.size w w3) := by
      have := HGW.out
      exact ⟨h32.os.trans B2.out.os, h32.tape.trans B2.out.tape, h32.output.trans B2.out.output, Nat.le_trans B2.out.size h32.size, fun i hi => (h32.block i (by have := B2.out.size; omega) (by omega) (by omega)).trans (B2.out.block i hi)⟩
    have G3 := hide h31
    clear h31 h32 HNX V2 E2 R2 B2 hstr
    go_wp2_with fail
    refine (HRL.out _ V3.out).mono ?_
    rintro e w4 ⟨v4, rfl, hi4, hb4⟩
    obtain ⟨qs, qr, hqe⟩ : ∃ a b, (yline x).1 = (a, b) := ⟨_, _, rfl⟩
    simp only [ryC]
    rw [hqe]
    simp only []
    obtain ⟨QM, hQM⟩ : ∃ S, S = strN qr := ⟨_, rfl⟩
    rw [← hQM]
    have HQ := hide hQM
    have HQE := hide hqe
    obtain ⟨GR, hGR⟩ : ∃ G, G = w4.heap.size := ⟨_, rfl⟩
    obtain ⟨W5, hW5⟩ : ∃ W, W = w4.alloc (.cells #[.int .i64 (qs : Nat), .string QM, .slice none 0 0] 73) := ⟨_, rfl⟩
    have b5 : Below w4.heap.size w4 W5 := by rw [hW5]; exact (Below.refl _ _).alloc (Nat.le_refl _) _
    have q5 : W5.heap[GR]? = some (.cells #[.int .i64 (qs : Nat), .string QM, .slice none 0 0] 73) := by rw [hW5, hGR]; exact alloc_new _ _
    have R5 := hide (keepB b5 (keepB hb4 R3.out))
    have bb4 : Below w.heap.size w w4 := B3.out.trans (hb4.mono B3.out.size)
    have B5 := hide (bb4.trans (b5.mono bb4.size))
    have V5 := hide ((V3.out.below hb4).below b5)
    have G5 := hide (keepB b5 (keepB hb4 G3.out))
    have I5 := hide (hi4.below b5)
    have HGR : Hid (GR ≠ G ∧ w.heap.size < GR) := by
      have g4 := lt_of_some (keepB hb4 G3.out)
      have r4 := lt_of_some (keepB hb4 R3.out)
      rw [hGR]; exact ⟨by omega, r4⟩
    have HW5 : Hid (w4.alloc (.cells #[.int .i64 (qs : Nat), .string QM, .slice none 0 0] 73) = W5) := hW5.symm
    have HGR2 := hide hGR.symm
    have Q5 := hide q5
    have HGRL : Hid (W5.heap.size = GR + 1) := by rw [hW5, hGR]; show (w4.alloc _).heap.size = _; simp
    clear hQM hqe hW5 b5 q5 bb4 hi4 hGR hb4 V3 E3 R3 B3 G3 HRL
    by_cases her : (yline x).2 = .ok
    · rw [her] at I5
      obtain rfl : v4 = .nilIface := I5.out
      obtain ⟨ls', hrest, hLn', hreq⟩ := HGOOD.out her
      obtain ⟨fs, fe, hfs⟩ : ∃ f e, flds (x.length + 2) ls' [] = (f, e) := ⟨_, _, rfl⟩
      have HFD := hide (fields_at T (0 + x.length + 2) G ls' W5 V5.out G5.out HG0.out (by rw [HTS.out]; exact ht8) (by rw [HTS.out]; omega) (by
        rw [HTB.out, HFL.out, Nat.zero_add, List.drop_append, List.drop_eq_nil_of_le (by omega), show x.length + 2 - x.length = 2 by omega, hrest]; rfl) hLn')
      rw [Nat.zero_add, hfs] at HFD
      have hokb : okB fs := by
        have := flds_byte ls' (x.length + 2) [] (fun y hy c hc => HTBB.out c (by rw [HFL.out, hrest]; simp [fl_mem hy hc])) (by intro f hf; simp at hf)
        rw [hfs] at this; exact this
      have HOKB := hide hokb
      rw [hfs] at hreq
      clear her hrest hLn' hfs hokb
      go_wp2_with (first | rw [HW5.out])
      try (rw [HW5.out])
      try rw [HGR2.out]
      try go_wp2_with fail
      refine HFD.out.mono ?_
      rintro e w6 ⟨v6, u6, rfl, o6, i6, k6⟩
      obtain ⟨ad, cap, rfl, s6, hown⟩ := o6.src HOKB.out
      have R6 : Hid (w6.heap[w.heap.size]? = some (.cells z3 73)) := (k6.block _ (lt_of_some R5.out) (by have := HGW.out; omega) (by have := HGW.out; omega)).trans R5.out
      have B6 : Hid (Below w.heap.size w w6) := by
        have := HGW.out
        exact ⟨k6.os.trans B5.out.os, k6.tape.trans B5.out.tape, k6.output.trans B5.out.output, Nat.le_trans B5.out.size k6.size, fun i hi => (k6.block i (by have := B5.out.size; omega) (by omega) (by omega)).trans (B5.out.block i hi)⟩
      have q6 : w6.heap[GR]? = some (.cells #[.int .i64 (qs : Nat), .string QM, .slice none 0 0] 73) := (k6.block GR (lt_of_some Q5.out) HGR.out.1 HGR.out.1).trans Q5.out
      have d2 : w6.cell? ⟨GR, 2, none⟩ = some (.slice none 0 0) := by simp [World.cell?, q6]
      have z2' : w6.frozen? ⟨GR, 2, none⟩ = false := by simp [World.frozen?, q6]
      have I6 := hide i6
      have S6 := hide s6
      have Q6 := hide q6
      have HOW := hide hown
      clear o6 i6 k6 s6 q6 hown HFD G5 V5 R5 B5 I5
      obtain ⟨W7, hW7⟩ : ∃ W, W = w6.setCell ⟨GR, 2, none⟩ (.slice ad fs.length cap) := ⟨_, rfl⟩
      have R7 : Hid (W7.heap[w.heap.size]? = some (.cells z3 73)) := by
        rw [hW7, Below.heap_setCell _ _ _ _ (by have := HGR.out.2; simp; omega)]; exact R6.out
      have B7 : Hid (Below w.heap.size w W7) := by rw [hW7]; exact B6.out.setCell (by have := HGR.out.2; simp; omega) _
      have q7 : W7.heap[GR]? = some (.cells #[.int .i64 (qs : Nat), .string QM, .slice ad fs.length cap] 73) := by rw [hW7, heap_setCell_same Q6.out 2 _]; rfl
      have I7 : Hid (IsH W7 fe u6) := by
        rw [hW7]
        refine I6.out.keep fun b C hb => Below.heap_setCell _ _ _ _ ?_
        intro e
        simp at e
        rw [e, Q6.out] at hb
        simp at hb
      have S7 : Hid (SrcF W7 ad fs.length cap fs) := by
        rw [hW7]
        refine S6.out.keep (fun h0 b o e => Below.heap_setCell _ _ _ _ ?_) (by simp [World.setCell])
        have h1 := HOW.out b o e
        have h2 := HGRL.out
        simp; omega
      have Q7 := hide q7
      have HW7 : Hid (w6.setCell ⟨GR, 2, none⟩ (.slice ad fs.length cap) = W7) := hW7.symm
      clear hW7 q7 R6 B6 I6 S6 Q6
      by_cases hfe : fe = .ok
      · subst hfe
        obtain rfl : u6 = .nilIface := I7.out
        have HR : Hid (reply l = (((yline x).1, fs), k, .ok)) := by show _ = _; rw [HRQ.out, hreq]
        obtain ⟨W9, hW9⟩ : ∃ W, W = W7.setRow w.heap.size #[.int .i64 (qs : Nat), .string QM, .slice ad fs.length cap] := ⟨_, rfl⟩
        have F2 : Hid (W9.heap[w.heap.size]? = some (.cells #[.int .i64 (qs : Nat), .string QM, .slice ad fs.length cap] 73)) := by rw [hW9]; exact setRow_heap _ _ _ _ _ R7.out
        have F5 : Hid (Below w.heap.size w W9) := by rw [hW9]; exact below_setRow B7.out (Nat.le_refl _) _
        have F4 : Hid (SrcF W9 ad fs.length cap fs) := by
          rw [hW9]
          refine S7.out.keep (fun h0 b o e => setRow_ne _ _ _ _ ?_) (by simp [World.setRow])
          have h1 := HOW.out b o e
          have h2 := HGRL.out
          have h3 := HGR.out.2
          omega
        have HW9 := hide hW9
        clear hW9 hreq S7 B7
        go_wp2_with (first | (rw [HW7.out]) | (refine wpList_load_rowG rfl 73 _ rfl GR rfl 73 #[.int .i64 (qs : Nat), .string QM, .slice ad fs.length cap] (0, 0) _ Q7.out Tryz.underlying73 rfl info51 ?_) | (refine wpList_store_rowW rfl 73 _ _ rfl w.heap.size #[.int .i64 (qs : Nat), .string QM, .slice ad fs.length cap] rfl rfl 73 z3 R7.out info51 rfl (by simp [Value.oneCell']) W9 HW9.out ?_))
        refine bodyPost_ret (res_ctt rfl _ _ w.heap.size 73 #[.int .i64 (qs : Nat), .string QM, .slice ad fs.length cap] (0, 0) _ rfl F2.out Tryz.underlying73 rfl info51) rfl ?_
        rw [HR.out]
        refine ⟨ad, cap, .nilIface, ?_, F4.out, rfl, F5.out, fun b o e => by have h1 := HOW.out b o e; have h2 := HGRL.out; have h3 := HGR.out.2; omega⟩
        rw [HQE.out, HQ.out]; rfl
      · have HR : Hid (reply l = (((0, []), []), 0, fe)) := by
          show _ = _
          rw [HRQ.out, hreq]
          cases fe with
          | ok => exact absurd rfl hfe
          | one a c => rfl
          | wr a e => rfl
        obtain ⟨bp, rfl⟩ := I7.out.ptr hfe
        clear hfe hreq
        obtain ⟨W9, hW9, f2, f5, f3⟩ := fin3 (cs := z3) R7.out B7.out I7.out
        have F2 := hide f2
        have F3 := hide f3
        have F5 := hide f5
        have HW9 := hide hW9
        clear hW9 f2 f5 f3
        go_wp2_with (first | (rw [HW7.out]) | (refine wpList_store_rowW rfl 73 _ _ rfl w.heap.size z3 rfl rfl 73 z3 R7.out info51 rfl z3_one W9 HW9.out ?_))
        refine bodyPost_ret (res_ctt rfl _ _ w.heap.size 73 z3 (0, 0) _ rfl F2.out Tryz.underlying73 rfl info51) rfl ?_
        rw [HR.out]
        exact ⟨none, 0, _, rfl, SrcF.nilS _, F3.out, F5.out, fun _ _ e => by cases e⟩
    · have HR : Hid (reply l = (((0, []), []), 0, (yline x).2)) := by
        show _ = _
        rw [HRQ.out, HBAD.out her]
        generalize (yline x).2 = ee at her
        cases ee with
        | ok => exact absurd rfl her
        | one a c => rfl
        | wr a e => rfl
      obtain ⟨bp, rfl⟩ := I5.out.ptr her
      clear her
      obtain ⟨W9, hW9, f2, f5, f3⟩ := fin3 (cs := z3) R5.out B5.out I5.out
      have F2 := hide f2
      have F3 := hide f3
      have F5 := hide f5
      have HW9 := hide hW9
      clear hW9 f2 f5 f3
      go_wp2_with (first | (rw [HW5.out, HGR2.out]) | (refine wpList_store_rowW rfl 73 _ _ rfl w.heap.size z3 rfl rfl 73 z3 R5.out info51 rfl z3_one W9 HW9.out ?_))
      refine bodyPost_ret (res_ctt rfl _ _ w.heap.size 73 z3 (0, 0) _ rfl F2.out Tryz.underlying73 rfl info51) rfl ?_
      rw [HR.out]
      exact ⟨none, 0, _, rfl, SrcF.nilS _, F3.out, F5.out, fun _ _ e => by cases e⟩
  · have hrq := reply_short hno
    rw [her] at hrq
    rw [show enE l = (0, .one ac cc) by rw [← hz, ← her]] at HEN
    rw [hrq]
    clear hno hz her hrq
    go_enter Tryz.func34, Tryz.ntmps34
    go_wp2_with fail
    rw [HW0.out]
    refine HEN.out.mono ?_
    rintro e w1 ⟨v1, rfl, hv1, hb1⟩
    obtain ⟨bp, rfl⟩ := hv1.ptr (by simp)
    obtain ⟨W9, hW9, f2, f5, f3⟩ := fin3 (cs := z3) (keepB hb1 R0.out) (B0.out.trans (hb1.mono B0.out.size)) hv1
    have R9 := hide (keepB hb1 R0.out)
    have F2 := hide f2
    have F3 := hide f3
    have F5 := hide f5
    have HW9 := hide hW9
    clear hv1 hb1 hW9 f2 f5 f3
    go_wp2_with (first | (refine wpList_store_rowW rfl 73 _ _ rfl w.heap.size z3 rfl rfl 73 z3 R9.out info51 rfl z3_one W9 HW9.out ?_))
    refine bodyPost_ret (res_ctt rfl _ _ w.heap.size 73 z3 (0, 0) _ rfl F2.out Tryz.underlying73 rfl info51) rfl ⟨none, 0, _, rfl, SrcF.nilS _, F3.out, F5.out, fun _ _ e => by cases e⟩
end Go.Proofs.YtccoddmdlbdfjaaGreatDoor
