/-
  What is dialled, posted, told of datagrams and of outputs, and how many bytes are in use; conditions as each theorem has them.
-/
import Derived.Test.YtjojhnkibgkleaaU
import Derived.Deep.LoopGhost
set_option linter.unusedSimpArgs false
set_option linter.unusedVariables false
set_option maxRecDepth 8000
namespace Go.Proofs.Ytjojhnkibgkleaa
open Go.RowKit Go.Lib

theorem emp_of {t : ByteArray} (h : t.size = 0) : t = emp := by
  apply ByteArray.ext
  exact Array.eq_empty_of_size_eq_zero h
theorem de_below (w : World) (v1 v2 v3 v4 v5 v6 : Value) : Below w.heap.size w (w.alloc (.cells #[v1, v2, v3, v4, v5, v6] 39)) := (Below.refl _ _).alloc (Nat.le_refl _) _
theorem dial_un (v : Value) (d : De) (w : World) (h : NoPort w v) : Calls Try.prog 36 #[v, .agg #[.int .u8 d.a1, .int .u8 d.a2, .int .u8 d.a3, .int .u8 d.a4, .string d.nm, .int .i64 d.po]] w fun x w' => x = .returned (.tuple #[.int .i64 0, .int .i64 1]) ∧ Below w.heap.size w w' := by
  have hbx := de_below w (.int .u8 d.a1) (.int .u8 d.a2) (.int .u8 d.a3) (.int .u8 d.a4) (.string d.nm) (.int .i64 d.po)
  have HN : Hid (NoPort (w.alloc (.cells #[.int .u8 d.a1, .int .u8 d.a2, .int .u8 d.a3, .int .u8 d.a4, .string d.nm, .int .i64 d.po] 39)) v) := by
    rcases h with rfl | ⟨r, rfl, h⟩
    · exact Or.inl rfl
    · refine Or.inr ⟨r, rfl, (hbx.cell (p := ⟨r, 0, none⟩) (cell_lt h)).trans h⟩
  have HBX := hide hbx
  clear h hbx
  go_enter Try.func36, Try.ntmps36
  go_wp2_with fail
  refine (pMade_un v _ HN.out).mono ?_
  rintro x w1 ⟨rfl, rfl⟩
  go_wp2_with fail
  go_ret2
  exact ⟨rfl, HBX.out⟩
theorem setHead_nil {w : World} : OwnO w (.slice none 0 0) [] := ⟨rfl, Or.inl ⟨rfl, rfl⟩⟩
theorem outs_at {w : World} {S : Nat → Prop} {b eb : Nat} {gv ov : Value} {R G : Nat → Nat} {P : Pt} (h : IsPort w S b eb gv ov R G P) :
    Calls Try.prog 22 #[.pointer (some ⟨b, 0, none⟩)] w fun x w' => x = .returned ov ∧ OwnO w' ov P.ou ∧ Port w' (grow S w w') b (outsP P) ∧ KeptS S w w' := by
  obtain ⟨h0, h1, h2, h3, h4⟩ := h.cells
  have f4 := h.frozen 4
  have HM := hide (pMade_at b true w h0)
  have HT := hide (h.ouTurn (w3 := w) (.slice none 0 0) [] setHead_nil (fun _ _ _ => rfl) (Nat.le_refl _) rfl rfl rfl (fun g e => by cases e))
  have HO : Hid (OwnO (w.setCell ⟨b, 4, none⟩ (.slice none 0 0)) ov P.ou) := own_keep h.ou (fun g hg => by
    obtain ⟨cur, hc⟩ := own_block h.ou hg
    exact Below.heap_setCell _ _ _ _ (ty_ne hc h.head (by decide)))
  clear h
  go_enter Try.func22, Try.ntmps22
  go_wp2_with fail
  refine HM.out.mono ?_
  rintro x w1 ⟨rfl, rfl⟩
  go_wp2_with fail
  go_ret
  exact ⟨rfl, HO.out, Port.of HT.out.1, HT.out.2⟩
theorem outs_un (v : Value) (w : World) (h : NoPort w v) : Calls Try.prog 22 #[v] w fun x w' => x = .returned (.slice none 0 0) ∧ w = w' := by
  go_enter Try.func22, Try.ntmps22
  go_wp2_with fail
  refine (pMade_un v _ h).mono ?_
  rintro x w1 ⟨rfl, rfl⟩
  go_wp2_with fail
  go_ret
  exact ⟨rfl, rfl⟩
theorem accept_un (v : Value) (w : World) (h : NoPort w v) : Calls Try.prog 33 #[v] w fun x w' => x = .returned (.tuple #[.int .i64 0, .int .i64 1]) ∧ w = w' := by
  go_enter Try.func33, Try.ntmps33
  go_wp2_with fail
  refine (pMade_un v _ h).mono ?_
  rintro x w1 ⟨rfl, rfl⟩
  go_wp2_with fail
  go_ret2
  exact ⟨rfl, rfl⟩
theorem gram_un (v : Value) (w : World) (h : NoPort w v) : Calls Try.prog 34 #[v] w fun x w' => x = .returned (.tuple #[.slice none 0 0, .int .i64 1]) ∧ w = w' := by
  go_enter Try.func34, Try.ntmps34
  go_wp2_with fail
  refine (pMade_un v _ h).mono ?_
  rintro x w1 ⟨rfl, rfl⟩
  go_wp2_with fail
  go_ret2
  exact ⟨rfl, rfl⟩
theorem post_un (v : Value) (a : Option Addr) (n c : Nat) (w : World) (h : NoPort w v) : Calls Try.prog 16 #[v, .slice a n c] w fun x w' => x = .returned (.int .i64 1) ∧ w = w' := by
  go_enter Try.func16, Try.ntmps16
  go_wp2_with fail
  refine (pMade_un v _ h).mono ?_
  rintro x w1 ⟨rfl, rfl⟩
  go_wp2_with fail
  go_ret
  exact ⟨rfl, rfl⟩
theorem used_un (v : Value) (w : World) (h : NoPort w v) : Calls Try.prog 19 #[v] w fun x w' => x = .returned (.int .i64 0) ∧ w = w' := by
  go_enter Try.func19, Try.ntmps19
  go_wp2_with fail
  refine (pMade_un v _ h).mono ?_
  rintro x w1 ⟨rfl, rfl⟩
  go_wp2_with fail
  go_ret
  exact ⟨rfl, rfl⟩
theorem clone_un' (v : Value) (w : World) (h : NoPort w v) : Calls Try.prog 12 #[v] w fun x w' => x = .returned (.pointer none) ∧ w = w' := by
  go_enter Try.func12, Try.ntmps12
  go_wp2_with fail
  refine (pMade_un v _ h).mono ?_
  rintro x w1 ⟨rfl, rfl⟩
  go_wp2_with fail
  go_ret
  exact ⟨rfl, rfl⟩
set_option maxRecDepth 100000 in
set_option maxHeartbeats 1000000 in
theorem post_at {w : World} {S : Nat → Prop} {b eb : Nat} {gv ov : Value} {R G : Nat → Nat} {P : Pt} (h : IsPort w S b eb gv ov R G P) (hlen : P.ou.length ≤ 1900000000000) (a : Option Addr) (n cp : Nat) (l : List Int) (hsrc : Src w a n cp l) :
    Calls Try.prog 16 #[.pointer (some ⟨b, 0, none⟩), .slice a n cp] w fun x w' => x = .returned (.int .i64 (postC n)) ∧ Port w' (grow S w w') b (postP P l) ∧ KeptS S w w' := by
  obtain ⟨h0, h1, h2, h3, h4⟩ := h.cells
  have hll := hsrc.hlen
  have hn := h.ok.n
  have HM := hide (pMade_at b true w h0)
  have H0 := hide h
  have hn63 : n ≤ 9223372036854775807 := by have := hsrc.hcap; have := hsrc.hmax; unfold maxLen at this; omega
  unfold postC postP
  rw [hll]
  by_cases h5 : 512 < n
  · rw [if_pos h5, if_pos h5]
    clear h hsrc hll
    go_enter Try.func16, Try.ntmps16
    go_wp2_with fail
    refine HM.out.mono ?_
    rintro x w1 ⟨rfl, rfl⟩
    go_wp2_with fail
    go_ret
    exact ⟨rfl, H0.out.stay (Below.refl _ _)⟩
  · rw [if_neg h5, if_neg h5]
    have hcv := run_str hsrc
    have hcv2 : (convert 45 9 (.slice a n cp)).run Try.prog w.drew = .ok (.string (strOfNums l)) w.drew := run_str (hsrc.keep (fun _ _ _ _ => rfl))
    have H1 : Hid (IsPort w.drew S b eb gv ov R G P) := h.keep (fun _ _ => rfl) (Nat.le_refl _)
    have HX := hide (box_at b P.L.length _ _ w h2)
    have HXD := hide (box_at b P.L.length _ _ w.drew h2)
    clear h hsrc hll
    go_enter Try.func16, Try.ntmps16
    go_wp2_with fail
    refine HM.out.mono ?_
    rintro x w1 ⟨rfl, rfl⟩
    go_wp2_with fail
    go_region_with (first
      | (go_at_call 54; refine HXD.out.mono ?_; rintro x w1 ⟨rfl, rfl⟩)
      | (go_at_call 52; refine (goOut_to H1.out ((KeptS.refl S w).drewN 1) (ot 5 P.L.length (strOfNums l)) hlen).mono ?_; rintro x w3 ⟨rfl, ⟨ov', h3'⟩, k3⟩; have H3 := hide h3'; have K3 := hide k3; clear h3' k3))
    all_goals
      go_wp2_with fail
      go_ret
      exact ⟨rfl, Port.of H3.out, K3.out⟩
set_option maxRecDepth 100000 in
set_option maxHeartbeats 1000000 in
theorem dial_at {w : World} {S : Nat → Prop} {b eb : Nat} {gv ov : Value} {R G : Nat → Nat} {P : Pt} (h : IsPort w S b eb gv ov R G P) (hlen : P.ou.length ≤ 1900000000000) (d : De) (hnm : d.nm.size ≤ maxLen) :
    Calls Try.prog 36 #[.pointer (some ⟨b, 0, none⟩), .agg #[.int .u8 d.a1, .int .u8 d.a2, .int .u8 d.a3, .int .u8 d.a4, .string d.nm, .int .i64 d.po]] w fun x w' => x = .returned (.tuple #[.int .i64 (dialN P d), .int .i64 (dialC P d)]) ∧ Port w' (grow S w w') b (dialP P d) ∧ KeptS S w w' := by
  have hbx := de_below w (.int .u8 d.a1) (.int .u8 d.a2) (.int .u8 d.a3) (.int .u8 d.a4) (.string d.nm) (.int .i64 d.po)
  have hp := h.below hbx
  have HBX := hide hbx
  obtain ⟨h0, h1, h2, h3, h4⟩ := hp.cells
  have HM := hide (pMade_at b true _ h0)
  have H0 := hide h
  have HP := hide hp
  have hn := h.ok.n
  have hc := h.ok.c
  have HROW := hide (fun i (hi : i < P.L.length) => hp.row.at_ hi)
  by_cases hb : badD d = true
  · have e1 : dialC P d = 2 := by simp [dialC, hb]
    have e2 : dialN P d = 0 := by simp [dialN, e1]
    have e3 : dialP P d = P := by simp [dialP, e1]
    rw [e1, e2, e3]
    unfold badD at hb
    clear e1 e2 e3 h hbx hp
    by_cases p1 : d.po < 1
    · go_enter Try.func36, Try.ntmps36
      go_wp2_with fail
      refine HM.out.mono ?_
      rintro x w1 ⟨rfl, rfl⟩
      go_wp2_with fail
      go_ret2
      exact ⟨rfl, H0.out.stay HBX.out⟩
    · by_cases p2 : 65535 < d.po
      · go_enter Try.func36, Try.ntmps36
        go_wp2_with fail
        refine HM.out.mono ?_
        rintro x w1 ⟨rfl, rfl⟩
        go_wp2_with fail
        go_ret2
        exact ⟨rfl, H0.out.stay HBX.out⟩
      · have hz : d.nm.size ≠ 0 := by
          intro e0
          simp [p1, p2, e0] at hb
        have hne : ¬ d.nm.toList = [] := fun e => hz (by rw [Lib.toList_data] at e; have := congrArg List.length e; simpa using this)
        have hne2 : (d.nm.toList == []) = false := by simp [hne]
        clear hz
        clear hb
        go_enter Try.func36, Try.ntmps36
        go_wp2_with fail
        refine HM.out.mono ?_
        rintro x w1 ⟨rfl, rfl⟩
        go_wp2_with fail
        go_ret2
        exact ⟨rfl, H0.out.stay HBX.out⟩
  · have hb' : badD d = false := by simpa using hb
    unfold badD at hb'
    simp only [Bool.or_eq_false_iff, decide_eq_false_iff_not, Nat.not_lt, Int.not_lt] at hb'
    obtain ⟨⟨p1, p2⟩, p3⟩ := hb'
    have hnm0 : d.nm.toList = [] := by rw [emp_of (t := d.nm) (by omega), Lib.toList_data]; rfl
    have hnm2 : (d.nm.toList == []) = true := by rw [hnm0]; rfl
    have HD : Hid (∀ k : Nat, nextD P = k → (k < P.L.length → dialC P d = 0 ∧ dialN P d = k ∧ dialP P d = { P with L := P.L.set k (z 2), ou := P.ou ++ [otD k d] }) ∧ (P.L.length ≤ k → dialC P d = 4 ∧ dialN P d = 0 ∧ dialP P d = P)) := fun k hk => by
      unfold dialN dialP dialC
      rw [if_neg hb, hk]
      refine ⟨fun h => ?_, fun h => ?_⟩
      · rw [if_pos h]; exact ⟨rfl, rfl, rfl⟩
      · rw [if_neg (by omega)]; exact ⟨rfl, rfl, rfl⟩
    have hnd : Hid (nextD P = fnd (fun j => decide ((at0 P.L j).st = 0)) P.c (P.L.length - P.c)) := rfl
    clear h hbx hp hb p3 hnm
    go_enter Try.func36, Try.ntmps36
    go_wp2_with fail
    refine HM.out.mono ?_
    rintro x w1 ⟨rfl, rfl⟩
    go_wp2_with fail
    go_loop [6] (fun i => ∃ k : Nat, P.c ≤ k ∧ k ≤ P.L.length ∧ i = .int .i64 k ∧ Hid (∀ j, P.c ≤ j → j < k → decide ((at0 P.L j).st = 0) = false)) (fun i => P.L.length - (Go.RowKit.intOf i).toNat)
    case atStart => exact ⟨P.c, Nat.le_refl _, hc, rfl, fun j h0 hj => by omega⟩
    case round =>
      obtain ⟨k, hk0, hk, rfl, HJ⟩ := hrel
      by_cases hlt : k < P.L.length
      · obtain ⟨c0, c1, c2, c3, c4, c5⟩ := HROW.out k hlt
        by_cases hs : (at0 P.L k).st = 0
        · rw [hs] at c1
          have hNk := hide ((HD.out k (by rw [hnd.out]; exact fnd_eq hk0 (by omega) HJ.out (fun _ => by simp [hs]))).1 hlt)
          clear hs
          go_wp2_with fail
          refine (become_at HP.out k hlt 2 (by omega)).mono ?_
          rintro x w4 ⟨rfl, h4', k4⟩
          have H4 := hide h4'
          have K4 := hide k4
          have K04 := hide ((KeptS.of_below HBX.out (S := S)).trans k4 (fun _ => Or.inl))
          have q0 : w4.cell? ⟨w.heap.size, 0, none⟩ = some (.int .u8 d.a1) := (World.cell?_of_block (k4.block w.heap.size (by simp) (fun hh => by have := H0.out.lt _ hh; omega))).trans (World.cell?_alloc_new w _ _ 0)
          have q1 : w4.cell? ⟨w.heap.size, 1, none⟩ = some (.int .u8 d.a2) := (World.cell?_of_block (k4.block w.heap.size (by simp) (fun hh => by have := H0.out.lt _ hh; omega))).trans (World.cell?_alloc_new w _ _ 1)
          have q2 : w4.cell? ⟨w.heap.size, 2, none⟩ = some (.int .u8 d.a3) := (World.cell?_of_block (k4.block w.heap.size (by simp) (fun hh => by have := H0.out.lt _ hh; omega))).trans (World.cell?_alloc_new w _ _ 2)
          have q3 : w4.cell? ⟨w.heap.size, 3, none⟩ = some (.int .u8 d.a4) := (World.cell?_of_block (k4.block w.heap.size (by simp) (fun hh => by have := H0.out.lt _ hh; omega))).trans (World.cell?_alloc_new w _ _ 3)
          have q4 : w4.cell? ⟨w.heap.size, 4, none⟩ = some (.string d.nm) := (World.cell?_of_block (k4.block w.heap.size (by simp) (fun hh => by have := H0.out.lt _ hh; omega))).trans (World.cell?_alloc_new w _ _ 4)
          have q5 : w4.cell? ⟨w.heap.size, 5, none⟩ = some (.int .i64 d.po) := (World.cell?_of_block (k4.block w.heap.size (by simp) (fun hh => by have := H0.out.lt _ hh; omega))).trans (World.cell?_alloc_new w _ _ 5)
          clear h4' k4
          go_wp2_with fail
          refine (goOut_to H4.out K04.out (otD k d) hlen).mono ?_
          rintro x w5 ⟨rfl, ⟨ov', h5⟩, k5⟩
          have H5 := hide h5
          have K5 := hide k5
          clear h5 k5
          go_wp2_with fail
          go_ret2
          obtain ⟨e1, e2, e3⟩ := hNk.out
          rw [e1, e2, e3]
          exact ⟨rfl, Port.of H5.out, K5.out⟩
        · have hs2 : ((at0 P.L k).st == 0) = false := by simp [hs]
          have hs3 := hide hs
          go_wp2_with fail
          go_round
          case rel => exact ⟨k + 1, by omega, by omega, by go_num, fun j h0 hj => by
            by_cases e : j = k
            · subst e; simp [hs3.out]
            · exact HJ.out j h0 (by omega)⟩
          case measure => simp [Go.RowKit.intOf]; omega
      · have hNk := hide ((HD.out P.L.length (by rw [hnd.out]; exact fnd_eq (by omega) (by omega) (fun j h0 hj => HJ.out j h0 (by omega)) (fun hh => by omega))).2 (Nat.le_refl _))
        go_wp2_with fail
        go_ret2
        obtain ⟨e1, e2, e3⟩ := hNk.out
        rw [e1, e2, e3]
        exact ⟨rfl, H0.out.stay HBX.out⟩

end Go.Proofs.Ytjojhnkibgkleaa
