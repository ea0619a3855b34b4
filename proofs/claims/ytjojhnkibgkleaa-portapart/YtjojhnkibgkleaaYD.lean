/-
  What the reference's port lets out; a client that it accepts; how many bytes it has; conditions as each theorem has them.
-/
import Derived.Test.YtjojhnkibgkleaaYC
set_option linter.unusedSimpArgs false
set_option linter.unusedVariables false
set_option maxRecDepth 8000
namespace Go.Proofs.Ytjojhnkibgkleaa
open Go.RowKit Go.Lib

variable {w : World} {S : Nat → Prop} {y eb ec : Nat} {ea : Option Addr} {bv ov : Value} {Y : Nat → Nat} {V : Nat → Value} {E : Nat → Nat} {P : Pt}
theorem rout_step (h : IsRP w S y eb ec ea bv ov Y V E P) (o : Ot) (hlen : P.ou.length ≤ 1900000000000) (w1 : World) (k : Below w.heap.size w w1) :
    ∃ av cv w3, apOk Try.prog 52 ov (.slice (some ⟨w1.heap.size, 0, none⟩) 1 1) (w1.alloc (.cells (otC o).toArray 68)) = true ∧ apV Try.prog 52 ov (.slice (some ⟨w1.heap.size, 0, none⟩) 1 1) (w1.alloc (.cells (otC o).toArray 68)) = .slice av (P.ou.length + 1) cv ∧ apW Try.prog 52 ov (.slice (some ⟨w1.heap.size, 0, none⟩) 1 1) (w1.alloc (.cells (otC o).toArray 68)) = w3 ∧
      w3.cell? ⟨y, 4, none⟩ = some ov ∧ w3.frozen? ⟨y, 4, none⟩ = false ∧
      IsRP (w3.setCell ⟨y, 4, none⟩ (.slice av (P.ou.length + 1) cv)) (grow S w (w3.setCell ⟨y, 4, none⟩ (.slice av (P.ou.length + 1) cv))) y eb ec ea bv (.slice av (P.ou.length + 1) cv) Y V E { P with ou := P.ou ++ [o] } ∧ KeptS S w (w3.setCell ⟨y, 4, none⟩ (.slice av (P.ou.length + 1) cv)) := by
  obtain ⟨h0, h1, h2, h3, h4⟩ := h.cells
  have f4 := h.frozen 4
  have hyl := lt_of_some h.head
  have b2 : Below w.heap.size w (w1.alloc (.cells (otC o).toArray 68)) := k.alloc k.size _
  have hown : OwnO (w1.alloc (.cells (otC o).toArray 68)) ov P.ou := own_keep h.ou (fun g hg => b2.block g (h.lt g (h.so g hg)))
  obtain ⟨ov', w3, hr, ho3, hg3, hn3⟩ := run_appO hown ⟨w1.heap.size, 0, none⟩ 1 o (fun j u hu => by
    have := mid_new w1 o j u hu
    rw [add_none]
    exact this) hlen
  obtain ⟨av, cv, rfl⟩ := own_shape ho3
  obtain ⟨q1, q2, q3⟩ := ap_of hr
  have hb3 : w3.heap[y]? = w.heap[y]? := (hg3.block y (Nat.lt_of_lt_of_le hyl b2.size) (fun e => by
    obtain ⟨cur, hc⟩ := own_block h.ou e.symm
    rw [h.head] at hc
    simp at hc)).trans (b2.block y hyl)
  obtain ⟨hT, hK⟩ := h.ouTurn (w3 := w3) (.slice av (P.ou ++ [o]).length cv) (P.ou ++ [o]) ho3 (fun k hk e => (hg3.block k (Nat.lt_of_lt_of_le hk b2.size) (Ne.symm e)).trans (b2.block k hk)) (Nat.le_trans b2.size hg3.size) (hg3.os.trans b2.os) (hg3.tape.trans b2.tape) (hg3.output.trans b2.output) (fun g e => by
    rcases hn3 g e with h1 | h1
    · exact Or.inl (h.so g h1)
    · have := b2.size; right; omega)
  rw [List.length_append] at hT hK q2
  exact ⟨av, cv, w3, q1, q2, q3, by rw [World.cell?_of_block hb3, h4], by rw [World.frozen?_of_block hb3]; exact f4, hT, hK⟩
theorem rgrow_from {a b' c : World} (hB : a.heap.size ≤ b'.heap.size) (h : IsRP c (grow S b' c) y eb ec ea bv ov Y V E P) : IsRP c (grow S a c) y eb ec ea bv ov Y V E P :=
  h.wide (fun j hj => by
    rcases hj with hj | hj
    · exact Or.inl hj
    · exact Or.inr ⟨Nat.le_trans hB hj.1, hj.2⟩) (fun j hj => by
    rcases hj with hj | hj
    · exact h.lt j (Or.inl hj)
    · exact hj.2)
attribute [local go_sem ↓] run_apO Go.wp_at_zero Go.wp_at_succ
set_option maxRecDepth 100000 in
set_option maxHeartbeats 1000000 in
theorem fin_r (h : IsRP w S y eb ec ea bv ov Y V E P) (e : Int) (hlen : P.ou.length ≤ 1900000000000) : Calls Try.prog 60 #[.pointer (some ⟨y, 0, none⟩), .int .i64 e] w fun x w' => x = .returned (.int .i64 (finC P e)) ∧ RPort w' (grow S w w') y (finP P e) ∧ KeptS S w w' := by
  have HS := hide (stream_r h e)
  have H0 := hide h
  cases hs : str_ P e
  · have h1 : finC P e = 2 := by simp [finC, hs]
    have h2 : finP P e = P := by simp [finP, h1]
    rw [h1, h2]
    rw [hs] at HS
    clear hs h h1 h2
    go_enter Try.func60, Try.ntmps60
    go_wp2_with fail
    refine HS.out.mono ?_
    rintro x w1 ⟨rfl, rfl⟩
    go_wp2_with fail
    go_ret
    exact ⟨rfl, H0.out.stay (Below.refl _ _)⟩
  · obtain ⟨i, rfl, hi⟩ := str_nat hs
    rw [hs] at HS
    have ho := h.ok.e i
    obtain ⟨q2, ⟨c0, c1, c2, c3, c4, c5⟩, fr, hc1, hc2, hn⟩ := h.end_ hi
    by_cases hst : (at0 P.L i).st = 1
    · rw [hst] at c0
      cases ht : (at0 P.L i).ths
      · rw [ht] at c4
        have hsn : sendE (at0 P.L i) = true := by simp [sendE, hst, ht]
        have h1 : finC P i = 0 := by simp [finC, hs, hsn]
        have h2 : finP P i = { P with L := P.L.set i { at0 P.L i with ths := true }, ou := P.ou ++ [ot 3 i emp] } := by simp [finP, h1]
        rw [h1, h2]
        have f4 := fr (i * 6 + 4)
        have hT := h.cellTurn hi (j := 4) (by omega) (.bool true) { at0 P.L i with ths := true } rfl rfl ⟨ho.q, ho.s0, ho.s3, ho.r0, ho.r1⟩
        have HK := hide ((KeptS.refl S w).setCell (p := ⟨eb, i * 6 + 4, none⟩) (h.row (by omega)).2.2 (.bool true))
        have hcy := hT.cells.2.2.2.2
        have HST := hide (fun w1 k => rout_step hT (ot 3 i emp) hlen w1 k)
        obtain ⟨av, cv, w3, a1, a2, a3, a4, a5, hP, hK⟩ := HST.out _ (Below.refl _ _)
        have HPP := hide hP
        have HKK := hide hK
        clear hs h h1 h2 hst ht hsn fr hT hP hK HST
        have hrun := ap_run a1
        rw [a2, a3] at hrun
        simp only [otC, ot, emp] at hrun
        have hzz : (w.setCell ⟨eb, i * 6 + 4, none⟩ (.bool true)).heap.size = w.heap.size := by simp [World.setCell]
        rw [hzz] at hrun
        have HRUN := hide hrun
        clear a1 a2 a3 hrun hzz
        go_enter Try.func60, Try.ntmps60
        go_wp2_with fail
        refine HS.out.mono ?_
        rintro x w1 ⟨rfl, rfl⟩
        go_wp2_with (at_builtin; refine wpList_app_run _ rfl _ _ 52 52 rfl _ _ rfl rfl HRUN.out ?_)
        go_ret
        exact ⟨rfl, RPort.of (rgrow_from HK.out.size HPP.out), HK.out.trans HKK.out (fun _ => Or.inl)⟩
      · rw [ht] at c4
        have hsn : sendE (at0 P.L i) = false := by simp [sendE, ht]
        have h1 : finC P i = 150 := by simp [finC, hs, hsn]
        have h2 : finP P i = P := by simp [finP, h1]
        rw [h1, h2]
        clear hs h h1 h2 hst ht hsn fr
        go_enter Try.func60, Try.ntmps60
        go_wp2_with fail
        refine HS.out.mono ?_
        rintro x w1 ⟨rfl, rfl⟩
        go_wp2_with fail
        go_ret
        exact ⟨rfl, H0.out.stay (Below.refl _ _)⟩
    · have hsn : sendE (at0 P.L i) = false := by simp [sendE, hst]
      have h1 : finC P i = 150 := by simp [finC, hs, hsn]
      have h2 : finP P i = P := by simp [finP, h1]
      rw [h1, h2]
      obtain ⟨s0, hs0⟩ : ∃ s0, s0 = (at0 P.L i).st := ⟨_, rfl⟩
      rw [← hs0] at c0 hst
      have h3 : (s0 == 1) = false := by simp [hst]
      have h4 : (s0 != 1) = true := by simp [hst]
      clear hs h h1 h2 hsn fr hs0
      go_enter Try.func60, Try.ntmps60
      go_wp2_with fail
      refine HS.out.mono ?_
      rintro x w1 ⟨rfl, rfl⟩
      go_wp2_with fail
      go_ret
      exact ⟨rfl, H0.out.stay (Below.refl _ _)⟩
set_option maxRecDepth 100000 in
set_option maxHeartbeats 1000000 in
theorem send_r (h : IsRP w S y eb ec ea bv ov Y V E P) (e : Int) (hlen : P.ou.length ≤ 1900000000000) (a : Option Addr) (n cp : Nat) (l : List Int) (hsrc : Src w a n cp l) (hoff : ∀ g o, a = some ⟨g, o, none⟩ → 0 < n → g ≠ eb) : Calls Try.prog 59 #[.pointer (some ⟨y, 0, none⟩), .int .i64 e, .slice a n cp] w fun x w' => x = .returned (.int .i64 (sendT P e n : Nat)) ∧ RPort w' (grow S w w') y (sendP P e l) ∧ KeptS S w w' := by
  have HR := hide (room_r h e)
  have H0 := hide h
  have hll := hsrc.hlen
  have hn63 : n ≤ 9223372036854775807 := by have := hsrc.hcap; have := hsrc.hmax; unfold maxLen at this; omega
  have hroom : 0 ≤ roomN P e := by
    unfold roomN
    split
    · unfold mayE
      split
      · exact (h.ok.e _).r0
      · omega
    · omega
  have HRE : Hid (0 < roomN P e → str_ P e = true ∧ roomN P e = (at0 P.L e.toNat).room) := roomN_of
  obtain ⟨r, hr⟩ : ∃ r, r = roomN P e := ⟨_, rfl⟩
  obtain ⟨t, ht⟩ : ∃ t, t = sendT P e n := ⟨_, rfl⟩
  have htt : t = min n r.toNat := by rw [ht, hr]; rfl
  have hP : sendP P e l = if t = 0 then P else { P with L := P.L.set e.toNat { at0 P.L e.toNat with room := (at0 P.L e.toNat).room - t }, ou := P.ou ++ [ot 2 e (strOfNums (l.take t))] } := by
    unfold sendP
    rw [hll, ← ht]
  rw [hP, ← ht]
  rw [← hr] at HR hroom HRE
  have hmin : min r (n : Int) = (t : Int) := by omega
  have htn : t ≤ n := by omega
  by_cases t0 : t = 0
  · subst t0
    rw [if_pos rfl]
    clear h hsrc ht htt hP hr hoff hll
    go_enter Try.func59, Try.ntmps59
    go_wp2_with fail
    refine HR.out.mono ?_
    rintro x w1 ⟨rfl, rfl⟩
    go_wp2_with fail
    go_ret
    exact ⟨rfl, H0.out.stay (Below.refl _ _)⟩
  · rw [if_neg t0]
    obtain ⟨hs, hre⟩ := HRE.out (by omega)
    obtain ⟨i, rfl, hi⟩ := str_nat hs
    rw [Int.toNat_natCast] at hre ⊢
    have ho := h.ok.e i
    have r1 := ho.r1
    obtain ⟨q2, ⟨c0, c1, c2, c3, c4, c5⟩, fr, hc1, hc2, hn⟩ := h.end_ hi
    rw [← hre] at c1 r1 ⊢
    have htr : (t : Int) ≤ r := by omega
    have ht0 : (0 : Int) < (t : Int) := by omega
    have f1 := fr (i * 6 + 1)
    have hT := h.cellTurn hi (j := 1) (by omega) (.int .i64 (r - t)) { at0 P.L i with room := r - t } rfl rfl ⟨ho.q, ho.s0, ho.s3, by show 0 ≤ r - t; omega, by show r - t ≤ _; omega⟩
    have HK := hide ((KeptS.refl S w).setCell (p := ⟨eb, i * 6 + 1, none⟩) (h.row (by omega)).2.2 (.int .i64 (r - t)))
    have hcy := hT.cells.2.2.2.2
    have hsc : Src (w.setCell ⟨eb, i * 6 + 1, none⟩ (.int .i64 (r - t))) a t cp (l.take t) := (hsrc.cut htn).keep (fun g o e0 h0 => Below.heap_setCell _ _ _ _ (hoff g o e0 (by omega)))
    have hcv2 : (convert 45 9 (.slice a t cp)).run Try.prog (w.setCell ⟨eb, i * 6 + 1, none⟩ (.int .i64 (r - t))).drew = .ok (.string (strOfNums (l.take t))) (w.setCell ⟨eb, i * 6 + 1, none⟩ (.int .i64 (r - t))).drew := run_str (hsc.keep (fun _ _ _ _ => rfl))
    obtain ⟨av, cv, w3, a1, a2, a3, a4, a5, hPP, hKK⟩ := rout_step hT (ot 2 i (strOfNums (l.take t))) hlen (w.setCell ⟨eb, i * 6 + 1, none⟩ (.int .i64 (r - t))).drew ((Below.refl _ _).drew)
    have HPP := hide hPP
    have HKK := hide hKK
    have hcap := hsrc.hcap
    have hmaxc := hsrc.hmax
    unfold maxLen at hmaxc
    have HRE2 := hide hre
    simp only [otC, ot, emp] at a1 a2 a3
    obtain ⟨T, hTT⟩ : ∃ T, T = strOfNums (l.take t) := ⟨_, rfl⟩
    rw [← hTT] at a1 a2 a3 hcv2 HPP ⊢
    clear h hsrc ht htt hP hr hoff hll hs fr hT hPP hKK hsc hre hTT
    have hzz : (w.setCell ⟨eb, i * 6 + 1, none⟩ (.int .i64 (r - t))).drew.heap.size = w.heap.size := by simp [World.setCell]
    have hyl : y < (w.setCell ⟨eb, i * 6 + 1, none⟩ (.int .i64 (r - t))).heap.size := by simpa using cell_lt hcy
    have hcy2 : ((w.setCell ⟨eb, i * 6 + 1, none⟩ (.int .i64 (r - t))).alloc (.cells #[.int .i64 0, .int .i64 2, .int .i64 i, .string T, .int .u8 0, .int .u8 0, .int .u8 0, .int .u8 0, .string ⟨#[]⟩, .int .i64 0] 68)).cell? ⟨y, 4, none⟩ = some ov := (World.cell?_of_block (Below.heap_alloc _ _ _ hyl)).trans hcy
    have b1 : apOk Try.prog 52 ov (.slice (some ⟨w.heap.size, 0, none⟩) 1 1) (((w.setCell ⟨eb, i * 6 + 1, none⟩ (.int .i64 (r - t))).alloc (.cells #[.int .i64 0, .int .i64 2, .int .i64 i, .string T, .int .u8 0, .int .u8 0, .int .u8 0, .int .u8 0, .string ⟨#[]⟩, .int .i64 0] 68)).drew) = true := by rw [hzz] at a1; exact a1
    have b2 : apV Try.prog 52 ov (.slice (some ⟨w.heap.size, 0, none⟩) 1 1) (((w.setCell ⟨eb, i * 6 + 1, none⟩ (.int .i64 (r - t))).alloc (.cells #[.int .i64 0, .int .i64 2, .int .i64 i, .string T, .int .u8 0, .int .u8 0, .int .u8 0, .int .u8 0, .string ⟨#[]⟩, .int .i64 0] 68)).drew) = .slice av (P.ou.length + 1) cv := by rw [hzz] at a2; exact a2
    have b3 : apW Try.prog 52 ov (.slice (some ⟨w.heap.size, 0, none⟩) 1 1) (((w.setCell ⟨eb, i * 6 + 1, none⟩ (.int .i64 (r - t))).alloc (.cells #[.int .i64 0, .int .i64 2, .int .i64 i, .string T, .int .u8 0, .int .u8 0, .int .u8 0, .int .u8 0, .string ⟨#[]⟩, .int .i64 0] 68)).drew) = w3 := by rw [hzz] at a3; exact a3
    clear a1 a2 a3
    go_enter Try.func59, Try.ntmps59
    go_wp2_with fail
    refine HR.out.mono ?_
    rintro x w1 ⟨rfl, rfl⟩
    go_wp2_with fail
    go_region
    go_wp2_with fail
    go_ret
    exact ⟨rfl, RPort.of (rgrow_from HK.out.size HPP.out), HK.out.trans HKK.out (fun _ => Or.inl)⟩

set_option maxRecDepth 100000 in
set_option maxHeartbeats 1000000 in
theorem post_r (h : IsRP w S y eb ec ea bv ov Y V E P) (hlen : P.ou.length ≤ 1900000000000) (a : Option Addr) (n cp : Nat) (l : List Int) (hsrc : Src w a n cp l) : Calls Try.prog 64 #[.pointer (some ⟨y, 0, none⟩), .slice a n cp] w fun x w' => x = .returned (.int .i64 (postC n)) ∧ RPort w' (grow S w w') y (postP P l) ∧ KeptS S w w' := by
  obtain ⟨k0, k1, k2, k3, k4⟩ := h.cells
  have H0 := hide h
  have hll := hsrc.hlen
  have hn := h.ok.n
  have hcp := h.cap
  unfold maxLen at hcp
  have hn63 : n ≤ 9223372036854775807 := by have := hsrc.hcap; have := hsrc.hmax; unfold maxLen at this; omega
  unfold postC postP
  rw [hll]
  by_cases h5 : 512 < n
  · rw [if_pos h5, if_pos h5]
    clear h hsrc hll
    go_enter Try.func64, Try.ntmps64
    go_wp2_with fail
    go_ret
    exact ⟨rfl, H0.out.stay (Below.refl _ _)⟩
  · rw [if_neg h5, if_neg h5]
    have hcv2 : (convert 45 9 (.slice a n cp)).run Try.prog w.drew = .ok (.string (strOfNums l)) w.drew := run_str (hsrc.keep (fun _ _ _ _ => rfl))
    obtain ⟨av, cv, w3, a1, a2, a3, a4, a5, hPP, hKK⟩ := rout_step h (ot 5 P.L.length (strOfNums l)) hlen w.drew ((Below.refl _ _).drew)
    have HPP := hide hPP
    have HKK := hide hKK
    simp only [otC, ot, emp] at a1 a2 a3
    obtain ⟨T, hTT⟩ : ∃ T, T = strOfNums l := ⟨_, rfl⟩
    rw [← hTT] at a1 a2 a3 hcv2 HPP ⊢
    have hyl : y < w.heap.size := cell_lt k4
    have hcy2 : (w.alloc (.cells #[.int .i64 0, .int .i64 5, .int .i64 P.L.length, .string T, .int .u8 0, .int .u8 0, .int .u8 0, .int .u8 0, .string ⟨#[]⟩, .int .i64 0] 68)).cell? ⟨y, 4, none⟩ = some ov := (World.cell?_of_block (Below.heap_alloc _ _ _ hyl)).trans k4
    have hcy3 : (w.alloc (.cells #[.int .i64 0, .int .i64 5, .int .i64 P.L.length, .string T, .int .u8 0, .int .u8 0, .int .u8 0, .int .u8 0, .string ⟨#[]⟩, .int .i64 0] 68)).cell? ⟨y, 2, none⟩ = some (.slice ea P.L.length ec) := (World.cell?_of_block (Below.heap_alloc _ _ _ hyl)).trans k2
    have b1 : apOk Try.prog 52 ov (.slice (some ⟨w.heap.size, 0, none⟩) 1 1) ((w.alloc (.cells #[.int .i64 0, .int .i64 5, .int .i64 P.L.length, .string T, .int .u8 0, .int .u8 0, .int .u8 0, .int .u8 0, .string ⟨#[]⟩, .int .i64 0] 68)).drew) = true := a1
    have b2 : apV Try.prog 52 ov (.slice (some ⟨w.heap.size, 0, none⟩) 1 1) ((w.alloc (.cells #[.int .i64 0, .int .i64 5, .int .i64 P.L.length, .string T, .int .u8 0, .int .u8 0, .int .u8 0, .int .u8 0, .string ⟨#[]⟩, .int .i64 0] 68)).drew) = .slice av (P.ou.length + 1) cv := a2
    have b3 : apW Try.prog 52 ov (.slice (some ⟨w.heap.size, 0, none⟩) 1 1) ((w.alloc (.cells #[.int .i64 0, .int .i64 5, .int .i64 P.L.length, .string T, .int .u8 0, .int .u8 0, .int .u8 0, .int .u8 0, .string ⟨#[]⟩, .int .i64 0] 68)).drew) = w3 := a3
    clear a1 a2 a3 h hsrc hll hPP hKK hTT
    go_enter Try.func64, Try.ntmps64
    go_wp2_with fail
    go_region
    go_wp2_with fail
    go_ret
    exact ⟨rfl, RPort.of HPP.out, HKK.out⟩
theorem outs_r (h : IsRP w S y eb ec ea bv ov Y V E P) : Calls Try.prog 23 #[.pointer (some ⟨y, 0, none⟩)] w fun x w' => ∃ a c, x = .returned (.slice a P.ou.length c) ∧ SrcO w' a P.ou.length c P.ou ∧ RPort w' (grow S w w') y (outsP P) ∧ KeptS S w w' := by
  obtain ⟨k0, k1, k2, k3, k4⟩ := h.cells
  have f4 := h.frozen 4
  have HT := hide (h.ouTurn (w3 := w) (.slice none 0 0) [] setHead_nil (fun _ _ _ => rfl) (Nat.le_refl _) rfl rfl rfl (fun g e => by cases e))
  have HO : Hid (OwnO (w.setCell ⟨y, 4, none⟩ (.slice none 0 0)) ov P.ou) := own_keep h.ou (fun g hg => by
    obtain ⟨cur, hc⟩ := own_block h.ou hg
    exact Below.heap_setCell _ _ _ _ (ty_ne hc h.head (by decide)))
  obtain ⟨a, c, hov, hs⟩ := own_srcO HO.out
  have HS := hide hs
  subst hov
  clear h hs HO
  go_enter Try.func23, Try.ntmps23
  go_wp2_with fail
  go_ret
  exact ⟨a, c, rfl, HS.out, RPort.of HT.out.1, HT.out.2⟩
set_option maxRecDepth 100000 in
set_option maxHeartbeats 1000000 in
theorem accept_r (h : IsRP w S y eb ec ea bv ov Y V E P) : Calls Try.prog 56 #[.pointer (some ⟨y, 0, none⟩)] w fun x w' => x = .returned (.tuple #[.int .i64 (accN P), .int .i64 (accC P)]) ∧ RPort w' (grow S w w') y (accP P) ∧ KeptS S w w' := by
  obtain ⟨k0, k1, k2, k3, k4⟩ := h.cells
  have hn := h.ok.n
  have H0 := hide h
  have HE := hide (fun i (hi : i < P.L.length) => h.end_ hi)
  have hcp := h.cap
  unfold maxLen at hcp
  clear h
  go_enter Try.func56, Try.ntmps56
  go_wp2_with fail
  go_loop [4] (fun i => ∃ k : Nat, k ≤ P.L.length ∧ i = .int .i64 k ∧ Hid (∀ j, 0 ≤ j → j < k → (at0 P.L j).nw = false)) (fun i => P.L.length - (Go.RowKit.intOf i).toNat)
  case atStart => exact ⟨0, Nat.zero_le _, rfl, fun j _ hj => by omega⟩
  case round =>
    obtain ⟨k, hk, rfl, HJ⟩ := hrel
    by_cases hlt : k < P.L.length
    · obtain ⟨q2, ⟨c0, c1, c2, c3, c4, c5⟩, fr, hc1, hc2, _⟩ := HE.out k hlt
      have f2 := fr (k * 6 + 2)
      clear fr k2
      cases hw : (at0 P.L k).nw
      · rw [hw] at c2
        have HW := hide hw
        clear hw
        go_wp2_with fail
        go_round
        case rel => exact ⟨k + 1, by omega, by go_num, fun j h0 hj => by
          by_cases e : j = k
          · subst e; exact HW.out
          · exact HJ.out j h0 (by omega)⟩
        case measure => simp [Go.RowKit.intOf]; omega
      · rw [hw] at c2
        have hN : nextA P = k := fnd_eq (by omega) (by omega) HJ.out (fun _ => hw)
        have HN := hide hN
        clear hw hN
        go_wp2_with fail
        go_ret2
        unfold accN accC accP
        rw [HN.out, if_pos hlt, if_pos hlt, if_pos hlt]
        have ho := H0.out.ok.e k
        have ht := H0.out.cellTurn hlt (j := 2) (by omega) (.bool false) { at0 P.L k with nw := false } rfl rfl ⟨ho.q, ho.s0, ho.s3, ho.r0, ho.r1⟩
        exact ⟨rfl, RPort.of (IsRP.grow ht), (KeptS.refl S w).setCell (H0.out.row (by omega)).2.2 _⟩
    · have hN : nextA P = P.L.length := fnd_eq (by omega) (by omega) (fun j h0 hj => HJ.out j h0 (by omega)) (fun hh => by omega)
      have HN := hide hN
      clear hN
      go_wp2_with fail
      go_ret2
      unfold accN accC accP
      rw [HN.out, if_neg (by omega), if_neg (by omega), if_neg (by omega)]
      exact ⟨rfl, H0.out.stay (Below.refl _ _)⟩
set_option maxRecDepth 100000 in
set_option maxHeartbeats 1000000 in
theorem used_r (h : IsRP w S y eb ec ea bv ov Y V E P) : Calls Try.prog 20 #[.pointer (some ⟨y, 0, none⟩)] w fun x w' => x = .returned (.int .i64 (usedN P : Nat)) ∧ w = w' := by
  obtain ⟨k0, k1, k2, k3, k4⟩ := h.cells
  have hn := h.ok.n
  have hz := h.ok.z1
  have H0 := hide h
  have HE := hide (fun i (hi : i < P.L.length) => h.end_ hi)
  have hcp := h.cap
  unfold maxLen at hcp
  have hU : ∀ k, k ≤ P.L.length → ((P.L.take k).map fun x => x.q.length).sum ≤ k * 65536 := fun k => by
    induction k with
    | zero => intro _; simp
    | succ k ih =>
      intro hk
      have := ih (by omega)
      rw [List.take_succ_eq_append_getElem (by omega), List.map_append, List.sum_append]
      have e : P.L[k] = at0 P.L k := by simp [at0, show k < P.L.length by omega]
      have hq := (h.ok.e k).q
      rw [e, List.map_cons, List.map_nil, List.sum_cons, List.sum_nil]
      omega
  have hS : ∀ k, k < P.L.length → ((P.L.take (k + 1)).map fun x => x.q.length).sum = ((P.L.take k).map fun x => x.q.length).sum + (at0 P.L k).q.length := fun k hk => by
    rw [List.take_succ_eq_append_getElem hk, List.map_append, List.sum_append]
    simp [at0, hk]
  have HU := hide hU
  have HSS := hide hS
  clear h hU hS
  go_enter Try.func20, Try.ntmps20
  go_wp2_with fail
  go_loop [3, 4] (fun u i => ∃ k : Nat, k ≤ P.L.length ∧ i = .int .i64 k ∧ u = .int .i64 (((P.L.take k).map fun x => x.q.length).sum : Nat)) (fun _ i => P.L.length - (Go.RowKit.intOf i).toNat)
  case atStart => exact ⟨0, Nat.zero_le _, rfl, by simp⟩
  case round =>
    obtain ⟨k, hk, rfl, rfl⟩ := hrel
    by_cases hlt : k < P.L.length
    · obtain ⟨q2, ⟨c0, c1, c2, c3, c4, c5⟩, fr, hc1, hc2, _⟩ := HE.out k hlt
      clear fr k2
      unfold rp at c5
      obtain ⟨r1, ⟨a, c, hv⟩, r3, r4⟩ := (H0.out.ring k hlt).cellV
      rw [hv] at r1
      have hu := HU.out k hk
      have hs := HSS.out k hlt
      obtain ⟨U, hUU⟩ : ∃ U, U = ((P.L.take k).map fun x => x.q.length).sum := ⟨_, rfl⟩
      obtain ⟨q, hqq⟩ : ∃ q, q = (at0 P.L k).q.length := ⟨_, rfl⟩
      obtain ⟨U2, hU2⟩ : ∃ U2, U2 = ((P.L.take (k + 1)).map fun x => x.q.length).sum := ⟨_, rfl⟩
      rw [← hUU] at hu hs ⊢
      rw [← hqq] at hs r1 r3
      rw [← hU2] at hs
      have HU2 := hide hU2
      have hUq : (U : Int) + (q : Int) = (U2 : Int) := by omega
      have hu2 : U2 ≤ 8454144 := by omega
      clear hUU hqq hU2 hs hv
      go_wp2_with fail
      go_round
      case rel => exact ⟨k + 1, by omega, by go_num, by rw [← HU2.out]⟩
      case measure => simp [Go.RowKit.intOf]; omega
    · have hkN : k = P.L.length := by omega
      subst hkN
      have hfin : usedN P = ((P.L.take P.L.length).map fun x => x.q.length).sum := by rw [List.take_length]; rfl
      go_wp2_with fail
      go_ret
      exact ⟨rfl, rfl⟩

end Go.Proofs.Ytjojhnkibgkleaa
