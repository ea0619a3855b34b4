/-
  What an event is for; a datagram that comes in; conditions as each theorem has them.
-/
import Derived.Test.YtjojhnkibgkleaaF
import Derived.Test.YtjojhnkibgkleaaShelf
set_option linter.unusedSimpArgs false
set_option linter.unusedVariables false
set_option maxRecDepth 8000
namespace Go.Proofs.Ytjojhnkibgkleaa
open Go.RowKit Go.Lib

theorem ev_below (w : World) (v1 v2 v3 v4 v5 : Value) : Below w.heap.size w (w.alloc (.cells #[v1, v2, v3, v4, v5] 33)) := (Below.refl _ _).alloc (Nat.le_refl _) _
/-- The event that was handed in lies in a new block: the port's cells are as they were. -/
theorem ev_cells {w : World} {S : Nat → Prop} {b eb : Nat} {gv ov : Value} {R G : Nat → Nat} {P : Pt} (h : IsPort w S b eb gv ov R G P) (o : Obj) : (w.alloc o).cell? ⟨b, 1, none⟩ = some (.int .i64 P.c) ∧ (w.alloc o).cell? ⟨b, 2, none⟩ = some (.slice (some ⟨eb, 0, none⟩) P.L.length P.L.length) := by
  obtain ⟨h0, h1, h2, h3, h4⟩ := h.cells
  have k : Below w.heap.size w (w.alloc o) := (Below.refl _ _).alloc (Nat.le_refl _) _
  exact ⟨(k.cell (p := ⟨b, 1, none⟩) (lt_of_some h.head)).trans h1, (k.cell (p := ⟨b, 2, none⟩) (lt_of_some h.head)).trans h2⟩
set_option maxRecDepth 100000 in
set_option maxHeartbeats 1000000 in
theorem isFor_at {w : World} {S : Nat → Prop} {b eb : Nat} {gv ov : Value} {R G : Nat → Nat} {P : Pt} (h : IsPort w S b eb gv ov R G P) (k e N : Int) (d : ByteArray) (hd : d.size ≤ maxLen) (ra : Option Addr) (rn rc : Nat) :
    Calls Try.prog 45 #[.pointer (some ⟨b, 0, none⟩), .agg #[.int .i64 k, .int .i64 e, .int .i64 N, .string d, .slice ra rn rc]] w fun x w' => x = .returned (.bool (isF P k e N d)) ∧ Below w.heap.size w w' := by
  obtain ⟨g1, g2⟩ := ev_cells h (.cells #[.int .i64 k, .int .i64 e, .int .i64 N, .string d, .slice ra rn rc] 33)
  have hE := ev_below w (.int .i64 k) (.int .i64 e) (.int .i64 N) (.string d) (.slice ra rn rc)
  have HE := hide hE
  have hso := str_or h.ok e
  have HSO := hide hso
  have HC := hide (isClient_at b P.c e _ g1)
  have HV := hide (isServer_at b P.c P.L.length _ _ e _ g1 g2)
  have HX := hide (box_at b P.L.length _ _ _ g2)
  have hn := h.ok.n
  have G2 := hide g2
  unfold maxLen at hd
  clear h hE hso g1 g2
  unfold isF
  by_cases k1 : k = 1
  · subst k1
    go_enter Try.func45, Try.ntmps45
    go_wp2_with fail
    refine HC.out.mono ?_
    rintro x w1 ⟨rfl, rfl⟩
    go_wp2_with fail
    go_ret
    exact ⟨rfl, HE.out⟩
  by_cases k5 : k = 5
  · subst k5
    by_cases hN : 0 ≤ N
    · have dN : decide (0 ≤ N) = true := decide_eq_true hN
      cases hc : cli P e
      · have HCC := hide hc
        go_enter Try.func45, Try.ntmps45
        go_wp2_with fail
        refine HC.out.mono ?_
        rintro x w1 ⟨rfl, rfl⟩
        rw [show inr_ 0 P.c e = false from HCC.out]
        go_wp2_with fail
        refine HV.out.mono ?_
        rintro x w1 ⟨rfl, rfl⟩
        go_wp2_with fail
        go_ret
        refine ⟨?_, HE.out⟩
        simp [HSO.out, HCC.out, hN, srv]
      · have HCC := hide hc
        go_enter Try.func45, Try.ntmps45
        go_wp2_with fail
        refine HC.out.mono ?_
        rintro x w1 ⟨rfl, rfl⟩
        rw [show inr_ 0 P.c e = true from HCC.out]
        go_wp2_with fail
        go_ret
        refine ⟨?_, HE.out⟩
        simp [HSO.out, HCC.out, hN]
    · have hv : (if (5 : Int) = 1 then cli P e else if (5 : Int) = 2 ∨ (5 : Int) = 3 ∨ (5 : Int) = 4 then str_ P e else if (5 : Int) = 5 then decide (0 ≤ N) && str_ P e else if (5 : Int) = 6 ∨ (5 : Int) = 7 then srv P e else if (5 : Int) = 8 then decide (e = P.L.length) && decide (d.size ≤ 512) else false) = false := by
        rw [if_neg (by decide), if_neg (by decide), if_pos rfl, decide_eq_false hN]
        rfl
      rw [hv]
      clear hv
      go_enter Try.func45, Try.ntmps45
      go_wp2_with fail
      go_ret
      exact ⟨rfl, HE.out⟩
  by_cases k2 : k = 2 ∨ k = 3 ∨ k = 4
  · have hsk : (if k = 1 then cli P e else if k = 2 ∨ k = 3 ∨ k = 4 then str_ P e else if k = 5 then decide (0 ≤ N) && str_ P e else if k = 6 ∨ k = 7 then srv P e else if k = 8 then decide (e = P.L.length) && decide (d.size ≤ 512) else false) = (cli P e || srv P e) := by
      rw [if_neg k1, if_pos k2, HSO.out]
    rw [hsk]
    clear hsk
    cases hc : cli P e
    · have HCC := hide hc
      rcases k2 with k2 | k2 | k2
      all_goals
        subst k2
        go_enter Try.func45, Try.ntmps45
        go_wp2_with fail
        refine HC.out.mono ?_
        rintro x w1 ⟨rfl, rfl⟩
        rw [show inr_ 0 P.c e = false from HCC.out]
        go_wp2_with fail
        refine HV.out.mono ?_
        rintro x w1 ⟨rfl, rfl⟩
        go_wp2_with fail
        go_ret
        exact ⟨rfl, HE.out⟩
    · have HCC := hide hc
      rcases k2 with k2 | k2 | k2
      all_goals
        subst k2
        go_enter Try.func45, Try.ntmps45
        go_wp2_with fail
        refine HC.out.mono ?_
        rintro x w1 ⟨rfl, rfl⟩
        rw [show inr_ 0 P.c e = true from HCC.out]
        go_wp2_with fail
        go_ret
        exact ⟨rfl, HE.out⟩
  have n2 : ¬ k = 2 := by omega
  have n3 : ¬ k = 3 := by omega
  have n4 : ¬ k = 4 := by omega
  by_cases k6 : k = 6 ∨ k = 7
  · rcases k6 with k6 | k6
    all_goals
      subst k6
      go_enter Try.func45, Try.ntmps45
      go_wp2_with fail
      refine HV.out.mono ?_
      rintro x w1 ⟨rfl, rfl⟩
      go_wp2_with fail
      go_ret
      exact ⟨rfl, HE.out⟩
  have n6 : ¬ k = 6 := by omega
  have n7 : ¬ k = 7 := by omega
  by_cases k8 : k = 8
  · subst k8
    by_cases he : e = P.L.length
    · have he2 : (e == (P.L.length : Int)) = true := by simp [he]
      have HEQ := hide he
      clear he
      go_enter Try.func45, Try.ntmps45
      go_wp2_with fail
      go_region_with (go_at_call 54; refine (box_at b P.L.length (some ⟨eb, 0, none⟩) P.L.length _ ?_).mono ?_; exact G2.out; rintro x w1 ⟨rfl, rfl⟩)
      all_goals
        go_wp2_with fail
        go_ret
        refine ⟨?_, HE.out.drew⟩
        simp [HEQ.out]
        omega
    · have he2 : (e == (P.L.length : Int)) = false := by simp [he]
      have he3 : decide (e = (P.L.length : Int)) = false := decide_eq_false he
      have he4 : ¬ (e = (P.L.length : Int)) := he
      have HEQ := hide he
      clear he
      go_enter Try.func45, Try.ntmps45
      go_wp2_with fail
      go_quiet ((go_at_call 54; refine quietS (box_at b P.L.length (some ⟨eb, 0, none⟩) P.L.length _ ?_); exact G2.out))
      all_goals
        go_wp2_with fail
        go_ret
        refine ⟨?_, below_drewN HE.out _⟩
        simp [HEQ.out]
  · go_enter Try.func45, Try.ntmps45
    go_wp2_with fail
    go_ret
    refine ⟨?_, HE.out⟩
    simp [k1, k2, k5, k6, k8]

theorem strClone_at (s : ByteArray) (w : World) (hs : s.size ≤ 281474976710656) : Calls Try.prog 78 #[.string s] w fun e w' => e = .returned (.string s) ∧ Below w.heap.size w w' := by
  go_enter Try.func78, Try.ntmps78
  go_wp2_with fail
  refine (Try.stringslite_Clone s _ hs).mono ?_
  rintro e w1 ⟨rfl, hb⟩
  go_wp2_with fail
  go_ret
  exact ⟨rfl, hb⟩
theorem gram_step {w : World} {S : Nat → Prop} {b eb : Nat} {gv ov : Value} {R G : Nat → Nat} {P : Pt} (h : IsPort w S b eb gv ov R G P) (d : ByteArray) (h8 : P.gr.length < 8) (w1 : World) (k : Below w.heap.size w w1) :
    w1.cell? ⟨b, 3, none⟩ = some gv ∧ (w1.alloc (.cells #[.string d] 9)).cell? ⟨b, 3, none⟩ = some gv ∧ ∃ av cv w3, apOk Try.prog 61 gv (.slice (some ⟨w1.heap.size, 0, none⟩) 1 1) (w1.alloc (.cells #[.string d] 9)) = true ∧ apV Try.prog 61 gv (.slice (some ⟨w1.heap.size, 0, none⟩) 1 1) (w1.alloc (.cells #[.string d] 9)) = .slice av (P.gr.length + 1) cv ∧ apW Try.prog 61 gv (.slice (some ⟨w1.heap.size, 0, none⟩) 1 1) (w1.alloc (.cells #[.string d] 9)) = w3 ∧
      w3.cell? ⟨b, 3, none⟩ = some gv ∧ w3.frozen? ⟨b, 3, none⟩ = false ∧
      IsPort (w3.setCell ⟨b, 3, none⟩ (.slice av (P.gr.length + 1) cv)) (grow S w (w3.setCell ⟨b, 3, none⟩ (.slice av (P.gr.length + 1) cv))) b eb (.slice av (P.gr.length + 1) cv) ov R G { P with gr := P.gr ++ [d] } ∧ KeptS S w (w3.setCell ⟨b, 3, none⟩ (.slice av (P.gr.length + 1) cv)) := by
  obtain ⟨h0, h1, h2, h3, h4⟩ := h.cells
  have f3 := h.frozen 3
  have hbl := lt_of_some h.head
  have b2 : Below w.heap.size w (w1.alloc (.cells #[.string d] 9)) := k.alloc k.size _
  have hown : OwnG (w1.alloc (.cells #[.string d] 9)) gv P.gr := own_keep h.gr (fun g hg => b2.block g (h.lt g (h.sg g hg)))
  obtain ⟨ov', w3, hr, ho3, hg3, hn3⟩ := run_appG hown ⟨w1.heap.size, 0, none⟩ 1 d (by
    rw [show (w1.alloc (.cells #[.string d] 9)).cell? ⟨w1.heap.size, 0, none⟩ = _ from World.cell?_alloc_new w1 _ _ 0]
    simp) (by omega)
  obtain ⟨av, cv, rfl⟩ := own_shape ho3
  obtain ⟨q1, q2, q3⟩ := ap_of hr
  have hb3 : w3.heap[b]? = w.heap[b]? := (hg3.block b (Nat.lt_of_lt_of_le hbl b2.size) (fun e => by
    obtain ⟨cur, hc⟩ := own_block h.gr e.symm
    rw [h.head] at hc
    simp at hc)).trans (b2.block b hbl)
  obtain ⟨hT, hK⟩ := h.grTurn (w3 := w3) (.slice av (P.gr ++ [d]).length cv) (P.gr ++ [d]) (by simp; omega) ho3 (fun k hk e => (hg3.block k (Nat.lt_of_lt_of_le hk b2.size) (Ne.symm e)).trans (b2.block k hk)) (Nat.le_trans b2.size hg3.size) (hg3.os.trans b2.os) (hg3.tape.trans b2.tape) (hg3.output.trans b2.output) (fun g e => by
    rcases hn3 g e with h1 | h1
    · exact Or.inl (h.sg g h1)
    · have := b2.size; right; omega)
  rw [List.length_append] at hT hK q2
  exact ⟨(k.cell (p := ⟨b, 3, none⟩) hbl).trans h3, (b2.cell (p := ⟨b, 3, none⟩) hbl).trans h3, av, cv, w3, q1, q2, q3, by rw [World.cell?_of_block hb3, h3], by rw [World.frozen?_of_block hb3]; exact f3, hT, hK⟩
attribute [local go_sem ↓] run_apG Go.wp_at_zero Go.wp_at_succ
set_option maxRecDepth 100000 in
set_option maxHeartbeats 1000000 in
theorem addGram_at {w : World} {S : Nat → Prop} {b eb : Nat} {gv ov : Value} {R G : Nat → Nat} {P : Pt} (h : IsPort w S b eb gv ov R G P) (d : ByteArray) (hd : d.size ≤ 512) :
    Calls Try.prog 46 #[.pointer (some ⟨b, 0, none⟩), .string d] w fun e w' => e = .returned (.int .i64 (if P.gr.length = 8 then 4 else 0)) ∧ (∃ gv', IsPort w' (grow S w w') b eb gv' ov R G (if P.gr.length = 8 then P else { P with gr := P.gr ++ [d] })) ∧ KeptS S w w' := by
  obtain ⟨h0, h1, h2, h3, h4⟩ := h.cells
  have f3 := h.frozen 3
  have hg8 := h.ok.g
  obtain ⟨ga, gc, hgv⟩ := own_shape h.gr
  obtain ⟨n, hn⟩ : ∃ n, n = P.gr.length := ⟨_, rfl⟩
  rw [← hn] at hgv hg8 ⊢
  by_cases h8 : n = 8
  · rw [if_pos h8, if_pos h8]
    have HT := hide h
    subst hgv
    clear h hn
    go_enter Try.func46, Try.ntmps46
    go_wp2_with fail
    go_ret
    exact ⟨rfl, ⟨_, HT.out.wide (fun k hk => Or.inl hk) (fun k hk => hk.elim (HT.out.lt k) (fun x => x.2))⟩, KeptS.refl _ _⟩
  · rw [if_neg h8, if_neg h8]
    have HST := hide (fun w1 k => gram_step h d (by omega) w1 k)
    rw [← hn] at HST
    subst hgv
    have d8 : ((n : Int) == 8) = false := by simp; omega
    have hd2 : d.size ≤ 281474976710656 := by omega
    clear h hn hd
    go_enter Try.func46, Try.ntmps46
    go_wp2_with fail
    go_region_with (first | (go_at_call 78; refine (strClone_at d _ hd2).mono ?_; rintro e w1 ⟨rfl, k1⟩; obtain ⟨c3, c3', av, cv, w3, q1, q2, q3, q4, q5, hT, hK⟩ := HST.out w1 ((Below.refl _ _).drew.trans k1); have HT := hide hT; have HK := hide hK; clear k1 hT hK))
    all_goals
      go_wp2_with fail
      go_ret
      exact ⟨rfl, ⟨_, HT.out⟩, HK.out⟩

end Go.Proofs.Ytjojhnkibgkleaa
