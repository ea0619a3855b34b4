/-
  Gram of package port, of a box that has datagrams too; conditions as each theorem has them.
-/
import Derived.Test.YtjojhnkibgkleaaX
import Derived.Test.YtjojhnkibgkleaaO
set_option linter.unusedSimpArgs false
set_option linter.unusedVariables false
set_option maxRecDepth 8000
namespace Go.Proofs.Ytjojhnkibgkleaa
open Go.RowKit Go.Lib

theorem heap_setCells_row {g : Nat} {t : TypeId} : ∀ (vs : List Value) (o : Nat) (w : World) (cur : List Value), w.heap[g]? = some (.cells cur.toArray t) → o + vs.length ≤ cur.length → (w.setCells g o vs).heap[g]? = some (.cells (cur.take o ++ vs ++ cur.drop (o + vs.length)).toArray t)
  | [], o, w, cur, h, ho => by
    simp only [List.append_nil, List.length_nil, Nat.add_zero, List.take_append_drop]
    exact h
  | v :: vs, o, w, cur, h, ho => by
    simp only [List.length_cons] at ho
    show ((w.setCell ⟨g, o, none⟩ v).setCells g (o + 1) vs).heap[g]? = _
    rw [heap_setCells_row (t := t) vs (o + 1) _ (cur.set o v) (by rw [heap_setCell_same h]; simp) (by rw [List.length_set]; omega)]
    have e1 : (cur.set o v).take (o + 1) = cur.take o ++ [v] := by
      rw [List.take_succ_eq_append_getElem (by rw [List.length_set]; omega), List.take_set_of_le (Nat.le_refl _)]
      simp
    have e2 : (cur.set o v).drop (o + 1 + vs.length) = cur.drop (o + (v :: vs).length) := by
      rw [List.drop_set_of_lt (by omega), List.length_cons]
      congr 1
      omega
    rw [e1, e2]
    simp
theorem setCells_kept {g : Nat} : ∀ (vs : List Value) (o : Nat) (w : World), (w.setCells g o vs).heap.size = w.heap.size ∧ (w.setCells g o vs).os = w.os ∧ (w.setCells g o vs).tape = w.tape ∧ (w.setCells g o vs).output = w.output ∧ ∀ k, k ≠ g → (w.setCells g o vs).heap[k]? = w.heap[k]?
  | [], o, w => ⟨rfl, rfl, rfl, rfl, fun _ _ => rfl⟩
  | v :: vs, o, w => by
    obtain ⟨e1, e2, e3, e4, e5⟩ := setCells_kept (g := g) vs (o + 1) (w.setCell ⟨g, o, none⟩ v)
    exact ⟨e1.trans (by simp [World.setCell]), e2.trans rfl, e3.trans rfl, e4.trans rfl, fun k hk => (e5 k hk).trans (Below.heap_setCell _ _ _ _ hk)⟩
theorem strs_drop (l : List ByteArray) (n : Nat) (hn : n = l.length) (h0 : 0 < n) : (((Lib.strsOf (fun i => l.getD i emp) n).take 0 ++ (Lib.strsOf (fun i => l.getD i emp) n).drop 1 ++ List.replicate (1 - 0) []).map Go.Proofs.encStr) = (l.drop 1).map Value.string ++ [.string emp] := by
  subst hn
  have e : (Lib.strsOf (fun i => l.getD i emp) l.length) = l.map (·.data.toList) := by
    apply List.ext_getElem
    · simp [Lib.strsOf]
    · intro i h1 h2
      simp [Lib.strsOf] at h1 ⊢
      rw [List.getElem?_eq_getElem h1]
      rfl
  rw [e]
  have e2 : (Go.Proofs.encStr ∘ fun x : ByteArray => x.data.toList) = Value.string := by
    funext x
    rfl
  rw [List.take_zero, List.nil_append, List.map_append, ← List.map_drop, List.map_map, e2, List.map_drop]
  rfl
set_option maxRecDepth 100000 in
set_option maxHeartbeats 1000000 in
theorem gram_at {w : World} {S : Nat → Prop} {b eb : Nat} {gv ov : Value} {R G : Nat → Nat} {P : Pt} (h : IsPort w S b eb gv ov R G P) (hd : (gramL P).size ≤ maxLen) :
    Calls Try.prog 34 #[.pointer (some ⟨b, 0, none⟩)] w fun x w' => ∃ a c, x = .returned (.tuple #[.slice a (gramL P).size c, .int .i64 (gramC P)]) ∧ Src w' a (gramL P).size c (bi (gramL P)) ∧ (∀ bl o, a = some ⟨bl, o, none⟩ → w.heap.size ≤ bl) ∧ Port w' (grow S w w') b (gramP P) ∧ KeptS S w w' := by
  obtain ⟨h0, h1, h2, h3, h4⟩ := h.cells
  have HM := hide (pMade_at b true w h0)
  have H0 := hide h
  obtain ⟨ga, gc, hgv⟩ := own_shape h.gr
  by_cases l0 : P.gr.length = 0
  · have hnil : P.gr = [] := List.length_eq_zero_iff.1 l0
    have e1 : gramL P = emp := by unfold gramL; rw [hnil]; rfl
    have e2 : gramC P = 5 := by unfold gramC; rw [if_pos l0]
    have e3 : gramP P = P := by unfold gramP; rw [hnil]; obtain ⟨a, b, c, d, e⟩ := P; simp at hnil; subst hnil; rfl
    rw [e1, e2, e3]
    rw [l0] at hgv
    rw [hgv] at h3
    clear h e1 e2 e3 hd hgv hnil l0
    go_enter Try.func34, Try.ntmps34
    go_wp2_with fail
    refine HM.out.mono ?_
    rintro x w1 ⟨rfl, rfl⟩
    go_wp2_with fail
    go_ret2
    exact ⟨none, 0, rfl, ⟨rfl, Nat.le_refl _, Nat.zero_le _, fun _ => rfl, fun hh => absurd hh (by decide), by intro x hx; cases hx⟩, (fun bl o e => by cases e), H0.out.stay (Below.refl _ _)⟩
  · rcases h.gr.2 with ⟨_, l1⟩ | ⟨g, cap, cur, e, hg0, hh, hnc, hcm, hcs, htake⟩
    · exact absurd l1 l0
    have e2 : gramC P = 0 := by unfold gramC; rw [if_neg l0]
    have hbl := lt_of_some h.head
    have hgl := lt_of_some hh
    have hgb : g ≠ b := ty_ne hh h.head (by decide)
    rw [Nat.mul_one] at htake hcs
    obtain ⟨n, hn⟩ : ∃ n, n = P.gr.length := ⟨_, rfl⟩
    rw [← hn] at e hnc htake l0
    have hcell : ∀ j, j < n → w.cell? ⟨g, j, none⟩ = some (.string (P.gr.getD j emp)) := fun j hj => by
      have e1 : (cur.toList.take n)[j]? = some (.string (P.gr.getD j emp)) := by
        rw [htake, List.getElem?_map, List.getD_eq_getElem?_getD, List.getElem?_eq_getElem (by omega)]
        rfl
      rw [List.getElem?_take, if_pos hj] at e1
      simp only [World.cell?, hh]
      simpa using e1
    have hfz : ∀ o, w.frozen? ⟨g, o, none⟩ = false := fun o => by simp [World.frozen?, hh]
    obtain ⟨d, hdd⟩ : ∃ d, d = gramL P := ⟨_, rfl⟩
    have hd0 : P.gr.getD 0 emp = d := by
      rw [hdd]
      unfold gramL
      cases P.gr <;> rfl
    obtain ⟨w1, hw1⟩ : ∃ w1, w1 = Lib.bytesWorld w 5 d := ⟨_, rfl⟩
    obtain ⟨cp, hcp⟩ : ∃ cp, cp = grownCap w d.size 0 5 := ⟨_, rfl⟩
    have hcv := run_conv d w
    have hsrc := conv_src d w (by rw [hdd]; exact hd)
    have hb1 := bytesW_below w d
    rw [← hw1, ← hcp] at hcv hsrc
    rw [← hw1] at hb1
    obtain ⟨m, hm⟩ : ∃ m, m = n - 1 := ⟨_, rfl⟩
    have HDEL : Hid (Calls Try.prog 73 #[.slice (some ⟨g, 0, none⟩) n cap, .int .i64 0, .int .i64 1] w1 fun x w3 => x = .returned (.slice (some ⟨g, 0, none⟩) m cap) ∧ OwnG w3 (.slice (some ⟨g, 0, none⟩) m cap) (P.gr.drop 1) ∧ (∀ k, k ≠ g → w3.heap[k]? = w1.heap[k]?) ∧ w3.heap.size = w1.heap.size ∧ w3.os = w1.os ∧ w3.tape = w1.tape ∧ w3.output = w1.output) := by
      refine (Try.slices_Delete_string_cells g 0 n cap 0 1 (fun j => P.gr.getD j emp) w1 hnc (by unfold maxLen at hcm; omega) (by omega) (by omega) (fun j hj => by rw [Nat.zero_add]; exact (hb1.cell (p := ⟨g, j, none⟩) hgl).trans (hcell j hj)) (fun j hj => by rw [hb1.frozen (p := ⟨g, 0 + j, none⟩) hgl]; exact hfz _)).mono ?_
      rintro x w3 ⟨rfl, q, rfl⟩
      rw [strs_drop P.gr n hn (by omega)]
      have hh1 : (w1.drewN q).heap[g]? = some (.cells cur.toList.toArray 9) := (hb1.block g hgl).trans (by simpa using hh)
      have hl : ((P.gr.drop 1).map Value.string ++ [Value.string emp]).length = n := by simp; omega
      have hr := heap_setCells_row ((P.gr.drop 1).map Value.string ++ [Value.string emp]) 0 (w1.drewN q) cur.toList hh1 (by rw [hl]; simp; omega)
      obtain ⟨f1, f2, f3, f4, f5⟩ := setCells_kept (g := g) ((P.gr.drop 1).map Value.string ++ [Value.string emp]) 0 (w1.drewN q)
      refine ⟨by rw [hm], ⟨by simp, Or.inr ⟨g, cap, _, by rw [hm]; simp; omega, Nat.zero_le _, hr, by simp; omega, hcm, ?_, ?_⟩⟩, f5, f1, f2, f3, f4⟩
      · simp; omega
      · simp
    have HG : Hid (∀ w3, OwnG w3 (.slice (some ⟨g, 0, none⟩) m cap) (P.gr.drop 1) → (∀ k, k ≠ g → w3.heap[k]? = w1.heap[k]?) → w3.heap.size = w1.heap.size → w3.os = w1.os → w3.tape = w1.tape → w3.output = w1.output → w3.cell? ⟨b, 3, none⟩ = some gv ∧ w3.frozen? ⟨b, 3, none⟩ = false ∧ Src (w3.setCell ⟨b, 3, none⟩ (.slice (some ⟨g, 0, none⟩) m cap)) (some ⟨w.heap.size, 0, none⟩) d.size cp (bi d) ∧ Port (w3.setCell ⟨b, 3, none⟩ (.slice (some ⟨g, 0, none⟩) m cap)) (grow S w (w3.setCell ⟨b, 3, none⟩ (.slice (some ⟨g, 0, none⟩) m cap))) b (gramP P) ∧ KeptS S w (w3.setCell ⟨b, 3, none⟩ (.slice (some ⟨g, 0, none⟩) m cap))) := fun w3 g1 g2 g3 g4 g5 g6 => by
      have hb3 : w3.heap[b]? = w.heap[b]? := (g2 b (Ne.symm hgb)).trans (hb1.block b hbl)
      obtain ⟨t1, t2⟩ := h.grTurn (w3 := w3) (.slice (some ⟨g, 0, none⟩) m cap) (P.gr.drop 1) (by have := h.ok.g; simp; omega) g1 (fun k hk hne => (g2 k (fun e1 => hne (by rw [e, e1]; rfl))).trans (hb1.block k hk)) (by rw [g3]; exact hb1.size) (g4.trans hb1.os) (g5.trans hb1.tape) (g6.trans hb1.output) (fun k hk => by
        simp [Value.ownBlock] at hk
        subst hk
        exact Or.inl (h.sg g (by rw [e]; rfl)))
      refine ⟨by rw [World.cell?_of_block hb3]; exact h3, by rw [World.frozen?_of_block hb3]; exact h.frozen 3, hsrc.keep (fun b' o' e' _ => ?_), Port.of t1, t2⟩
      simp at e'
      rw [← e'.1, Below.heap_setCell _ _ _ _ (by show w.heap.size ≠ b; omega)]
      exact g2 _ (by omega)
    have c0 := hcell 0 (by omega)
    rw [hd0] at c0
    rw [e2, ← hdd]
    have hc1 : w1.cell? ⟨b, 3, none⟩ = some gv := (hb1.cell (p := ⟨b, 3, none⟩) hbl).trans h3
    rw [e] at h3 hc1
    have nz : ((n : Int) == 0) = false := by simp; omega
    have n0 : decide ((0 : Int) < (n : Int)) = true := decide_eq_true (by omega)
    have n1 : 0 < n := by omega
    have hn8 : n ≤ 8 := by have := h.ok.g; omega
    have HN := hide hn
    clear h H0 hh hnc hcm hcs htake hcell hfz hdd hd0 hw1 hcp hsrc hb1 e hgv hn hm l0 hd
    go_enter Try.func34, Try.ntmps34
    go_wp2_with fail
    refine HM.out.mono ?_
    rintro x w1' ⟨rfl, rfl⟩
    go_wp2_with fail
    refine HDEL.out.mono ?_
    rintro x w3 ⟨rfl, q1, q2, q3, q4, q5, q6⟩
    obtain ⟨r1, r2, r3, r4, r5⟩ := HG.out w3 q1 q2 q3 q4 q5 q6
    have R3 := hide r3
    have R4 := hide r4
    have R5 := hide r5
    clear q1 q2 q3 q4 q5 q6 r3 r4 r5
    go_wp2_with fail
    go_ret2
    exact ⟨_, _, rfl, R3.out, (fun bl o e => by simp at e; omega), R4.out, R5.out⟩

end Go.Proofs.Ytjojhnkibgkleaa
