/-
  What an event makes of an endpoint; conditions as each theorem has them.
-/
import Derived.Test.YtjojhnkibgkleaaG
import Derived.Test.YtjojhnkibgkleaaO
import Derived.Test.YtjojhnkibgkleaaL
set_option linter.unusedSimpArgs false
set_option linter.unusedVariables false
set_option maxRecDepth 8000
namespace Go.Proofs.Ytjojhnkibgkleaa
open Go.RowKit Go.Lib

set_option maxRecDepth 100000 in
set_option maxHeartbeats 400000 in
theorem happen_data {w : World} {S : Nat → Prop} {b eb : Nat} {gv ov : Value} {R G : Nat → Nat} {P : Pt} (h : IsPort w S b eb gv ov R G P) (i : Nat) (hi : i < P.L.length) (e N : Int) (d : ByteArray) (hd : d.size ≤ maxLen) (ra : Option Addr) (rn rc : Nat) :
    Calls Try.prog 48 #[.pointer (some ⟨eb, i * 6, none⟩), .agg #[.int .i64 2, .int .i64 e, .int .i64 N, .string d, .slice ra rn rc]] w fun x w' => x = .returned (.int .i64 (fits P.sz (at0 P.L i) d : Nat)) ∧ IsPort w' S b eb gv ov R G { P with L := P.L.set i { at0 P.L i with q := (at0 P.L i).q ++ (bi d).take (fits P.sz (at0 P.L i) d) } } ∧ KeptS S w w' := by
  obtain ⟨c0, c1, c2, c3, c4, c5⟩ := h.row.at_ hi
  obtain ⟨ic, oc, hr⟩ := h.ring i hi
  unfold rp at c0
  have heb : eb < w.heap.size := h.row.lt
  have HR := hide hr
  have hq := (h.ok.e i).q
  have hz1 := h.ok.z1
  unfold fits
  obtain ⟨F, hF⟩ : ∃ F : Nat, F = P.sz - (at0 P.L i).q.length := ⟨_, rfl⟩
  rw [← hF]
  have hFF : (P.sz : Int) - ((at0 P.L i).q.length : Int) = (F : Int) := by omega
  obtain ⟨t, ht⟩ : ∃ t : Nat, t = min d.size F := ⟨_, rfl⟩
  rw [← ht]
  have hmin : min (d.size : Int) (F : Int) = (t : Int) := by omega
  have HFF := hide hFF
  have HF := hide hF
  have htd : t ≤ d.size := by omega
  have htF : t ≤ F := by omega
  have hbx := ev_below w (.int .i64 2) (.int .i64 e) (.int .i64 N) (.string d) (.slice ra rn rc)
  obtain ⟨T, hTe⟩ : ∃ T, d.extract 0 t = T := ⟨_, rfl⟩
  have hTs : T.size = t := by rw [← hTe]; exact size_extract d t htd
  have HTB : Hid (bi T = (bi d).take t) := by rw [← hTe]; exact bi_extract d t
  have HSRC : Hid (∀ (W : World) (g : Nat), W.heap.size = g → Src (Lib.bytesWorld W 5 T) (some ⟨g, 0, none⟩) t (grownCap W t 0 5) ((bi d).take t)) := fun W g hg => by
    subst hg
    have := conv_src T W (by rw [hTs]; omega)
    rw [hTs, HTB.out] at this
    exact this
  have hcv : ∀ W : World, (convert 9 45 (.string T)).run Try.prog W = .ok (.slice (some ⟨W.heap.size, 0, none⟩) t (grownCap W t 0 5)) (Lib.bytesWorld W 5 T) := fun W => by
    have := run_conv T W
    rw [hTs] at this
    exact this
  have c0' : (w.alloc (.cells #[.int .i64 2, .int .i64 e, .int .i64 N, .string d, .slice ra rn rc] 33)).cell? ⟨eb, i * 6, none⟩ = some (.pointer (some ⟨R i, 0, none⟩)) := (hbx.cell (p := ⟨eb, i * 6, none⟩) heb).trans c0
  have c3' : (w.alloc (.cells #[.int .i64 2, .int .i64 e, .int .i64 N, .string d, .slice ra rn rc] 33)).cell? ⟨w.heap.size, 3, none⟩ = some (.string d) := by
    rw [show (w.alloc (.cells #[.int .i64 2, .int .i64 e, .int .i64 N, .string d, .slice ra rn rc] 33)).cell? ⟨w.heap.size, 3, none⟩ = _ from World.cell?_alloc_new w _ _ 3]
    rfl
  have heb2 : eb < (w.alloc (.cells #[.int .i64 2, .int .i64 e, .int .i64 N, .string d, .slice ra rn rc] 33)).heap.size := by simp; omega
  have hwb2 : w.heap.size < (w.alloc (.cells #[.int .i64 2, .int .i64 e, .int .i64 N, .string d, .slice ra rn rc] 33)).heap.size := by simp
  obtain ⟨⟨rc1, re1⟩, ⟨rc2, re2⟩⟩ := HR.out.at_
  obtain ⟨er1, er2, _⟩ := h.row
  have n1 : eb ≠ R i := ty_ne er2 re1 (by decide)
  have n2 : eb ≠ G i := ty_ne er2 re2 (by decide)
  have hrl := lt_of_some re1
  have hgl := lt_of_some re2
  have n3 : w.heap.size ≠ R i := by omega
  have n4 : w.heap.size ≠ G i := by omega
  have HC3 : Hid (∀ n, (Lib.bytesWorld ((w.alloc (.cells #[.int .i64 2, .int .i64 e, .int .i64 N, .string d, .slice ra rn rc] 33)).drewN n) 5 T).cell? ⟨w.heap.size, 3, none⟩ = some (.string d)) := fun n => by
    rw [bytesW_cell (by exact hwb2)]
    exact c3'
  have HLT : Hid (∀ n, w.heap.size < (Lib.bytesWorld ((w.alloc (.cells #[.int .i64 2, .int .i64 e, .int .i64 N, .string d, .slice ra rn rc] 33)).drewN n) 5 T).heap.size) := fun n => by
    rw [Lib.bytesWorld_size]
    exact Nat.lt_succ_of_lt hwb2
  have HKB : Hid (∀ n, Below w.heap.size w (Lib.bytesWorld ((w.alloc (.cells #[.int .i64 2, .int .i64 e, .int .i64 N, .string d, .slice ra rn rc] 33)).drewN n) 5 T)) := fun n => (below_drewN hbx n).trans ((bytesW_below _ T).mono (Nat.le_of_lt hwb2))
  have HBX := hide hbx
  have HC0 := hide c0
  have HS := hide h
  have HM : Hid (t = min t (P.sz - (at0 P.L i).q.length)) := by show t = _; omega
  have HMX : Hid (∀ W : World, Below w.heap.size w W → IsRing W (R i) (G i) P.sz ic oc (at0 P.L i).q) := fun W k => HR.out.keep (k.block _ hrl) (k.block _ hgl)
  have hmx := hd
  clear hr hFF ht hF hbx h c0 c1 c2 c3 c4 c5 re1 re2 er2
  go_enter Try.func48, Try.ntmps48
  go_wp2_with fail
  go_region_held (fun w' => w'.cell? ⟨eb, i * 6, none⟩ = some (.pointer (some ⟨R i, 0, none⟩)) ∧ w'.cell? ⟨w.heap.size, 3, none⟩ = some (.string d)) (first | assumption | exact ⟨by assumption, by assumption⟩ | (constructor <;> rw [bytesW_cell (by first | exact heb2 | exact hwb2)] <;> first | exact c0' | exact c3') | go_keep) (first
    | (go_at_call 80; refine (free_ring (R i) (G i) P.sz ic oc (at0 P.L i).q _ ?_).mono ?_; exact HR.out.keep (Below.heap_alloc _ _ _ HR.out.size_lt.1) (Below.heap_alloc _ _ _ HR.out.size_lt.2); rintro x w1 ⟨rfl, k1, rfl⟩; rw [HFF.out])
    | (go_at_call 79; refine (put_t (R i) (G i) P.sz ic oc (at0 P.L i).q _ t _ ((bi d).take t) t HM.out _ ?_ ?_ ?_).mono ?_; exact HMX.out _ (HKB.out (1 + k1)); exact HSRC.out _ _ (by simp); exact (fun b o e0 h0 => by simp at e0; omega); rintro x w3 ⟨rfl, hr3, hk3⟩; rw [List.take_take, Nat.min_self] at hr3; have kk : Kept (R i) (G i) w w3 := (Kept.of_below (HKB.out (1 + k1))).trans hk3; have f1 : w3.cell? ⟨eb, i * 6, none⟩ = some (.pointer (some ⟨R i, 0, none⟩)) := (World.cell?_of_block (w := w) (kk.block eb heb n1 n2)).trans HC0.out; have f2 : w3.cell? ⟨w.heap.size, 3, none⟩ = some (.string d) := (World.cell?_of_block (hk3.block w.heap.size (HLT.out (1 + k1)) n3 n4)).trans (HC3.out (1 + k1)); have HR3 := hide hr3; have HK3 := hide kk; clear hr3 hk3 kk))
  all_goals
    go_wp2_with fail
    go_ret
    have hF' := HF.out
    have hlen : ((at0 P.L i).q ++ (bi d).take t).length ≤ P.sz := by
      rw [List.length_append, List.length_take, bi_length]
      omega
    exact ⟨rfl, HS.out.ringTurn hi HK3.out HR3.out hlen, KeptS.of_kept HK3.out (HS.out.sr i hi).1 (HS.out.sr i hi).2⟩

theorem at0_eta (L : List En) (i : Nat) : L.set i (at0 L i) = L := by
  apply List.ext_getElem?
  intro j
  rw [List.getElem?_set]
  by_cases h : i = j
  · subst h
    by_cases h2 : i < L.length
    · rw [if_pos rfl, if_pos h2]
      simp [at0, h2]
    · rw [if_pos rfl, if_neg h2, List.getElem?_eq_none (by omega)]
  · rw [if_neg h]
set_option maxRecDepth 100000 in
set_option maxHeartbeats 1000000 in
theorem happen_else {w : World} {S : Nat → Prop} {b eb : Nat} {gv ov : Value} {R G : Nat → Nat} {P : Pt} (h : IsPort w S b eb gv ov R G P) (i : Nat) (hi : i < P.L.length) (k e N : Int) (hk : k = 1 ∨ k = 3 ∨ k = 4 ∨ k = 5 ∨ k = 6 ∨ k = 7) (hN : k = 5 → 0 ≤ N) (hNm : N ≤ 9223372036854775807) (d : ByteArray) (ra : Option Addr) (rn rc : Nat) :
    Calls Try.prog 48 #[.pointer (some ⟨eb, i * 6, none⟩), .agg #[.int .i64 k, .int .i64 e, .int .i64 N, .string d, .slice ra rn rc]] w fun x w' => x = .returned (.int .i64 0) ∧ IsPort w' S b eb gv ov R G { P with L := P.L.set i (hap P.sz (at0 P.L i) k N d) } ∧ KeptS S w w' := by
  have ho := h.ok.e i
  have hbx := fun k' => ev_below w (.int .i64 k') (.int .i64 e) (.int .i64 N) (.string d) (.slice ra rn rc)
  have HP : Hid (∀ k', IsPort (w.alloc (.cells #[.int .i64 k', .int .i64 e, .int .i64 N, .string d, .slice ra rn rc] 33)) S b eb gv ov R G P) := fun k' => h.below (hbx k')
  have HKB : Hid (∀ k', KeptS S w (w.alloc (.cells #[.int .i64 k', .int .i64 e, .int .i64 N, .string d, .slice ra rn rc] 33))) := fun k' => KeptS.of_below (hbx k')
  have HSE := hide h.se
  have HBC : Hid (∀ k' s, 0 ≤ s ∧ s ≤ 3 → Calls Try.prog 53 #[.pointer (some ⟨eb, i * 6, none⟩), .int .i64 s] (w.alloc (.cells #[.int .i64 k', .int .i64 e, .int .i64 N, .string d, .slice ra rn rc] 33)) fun x w' => x = .returned (.tuple #[]) ∧ IsPort w' S b eb gv ov R G { P with L := P.L.set i (z s) } ∧ KeptS S w w') := fun k' s hs => (become_at (HP.out k') i hi s hs).mono fun x w' ⟨e1, e2, e3⟩ => ⟨e1, e2, (HKB.out k').trans e3 (fun _ => Or.inl)⟩
  have HCE : Hid (∀ k', EnAt (w.alloc (.cells #[.int .i64 k', .int .i64 e, .int .i64 N, .string d, .slice ra rn rc] 33)) eb (i * 6) (rp R i) (at0 P.L i) ∧ ∀ o, (w.alloc (.cells #[.int .i64 k', .int .i64 e, .int .i64 N, .string d, .slice ra rn rc] 33)).frozen? ⟨eb, o, none⟩ = false) := fun k' => ⟨(HP.out k').row.at_ hi, (HP.out k').row.frozen⟩
  have heb : eb < w.heap.size := h.row.lt
  have H0 := hide h
  clear h hbx
  rcases hk with rfl | rfl | rfl | rfl | rfl | rfl
  · go_enter Try.func48, Try.ntmps48
    go_wp2_with fail
    refine (HBC.out _ 1 (by omega)).mono ?_
    rintro x w1 ⟨rfl, h1, k1⟩
    have H1 := hide h1
    have K1 := hide k1
    obtain ⟨c0, c1, c2, c3, c4, c5⟩ := h1.row.at_ (i := i) (by simpa using hi)
    have f3 := h1.row.frozen (i * 6 + 3)
    clear h1 k1
    go_wp2_with fail
    go_ret
    refine ⟨rfl, H1.out.cellAt hi (j := 3) (by omega) (.bool true) { z 1 with nw := true } rfl rfl ⟨by simp [z], by simp [z], by simp [z], by simp [z], by simp [z]⟩, K1.out.setCell HSE.out _⟩
  · obtain ⟨⟨c0, c1, c2, c3, c4, c5⟩, ff⟩ := HCE.out 3
    have f4 := ff (i * 6 + 4)
    clear ff
    go_enter Try.func48, Try.ntmps48
    go_wp2_with fail
    go_ret
    exact ⟨rfl, (H0.out.cellTurn hi (j := 4) (by omega) (.bool true) { at0 P.L i with oth := true } rfl rfl ⟨ho.q, ho.s0, ho.s3, ho.r0, ho.r1⟩).below ((Below.refl _ _).alloc (Nat.le_refl _) _), ((KeptS.refl S w).setCell HSE.out _).alloc _⟩
  · obtain ⟨⟨c0, c1, c2, c3, c4, c5⟩, ff⟩ := HCE.out 4
    unfold hap
    cases hw : (at0 P.L i).nw
    · rw [hw] at c3
      clear hw ff
      go_enter Try.func48, Try.ntmps48
      go_wp2_with fail
      refine (HBC.out _ 3 (by omega)).mono ?_
      rintro x w1 ⟨rfl, h1, k1⟩
      have H1 := hide h1
      have K1 := hide k1
      clear h1 k1
      go_wp2_with fail
      go_ret
      exact ⟨rfl, H1.out, K1.out⟩
    · rw [hw] at c3
      clear hw ff
      go_enter Try.func48, Try.ntmps48
      go_wp2_with fail
      refine (HBC.out _ 0 (by omega)).mono ?_
      rintro x w1 ⟨rfl, h1, k1⟩
      have H1 := hide h1
      have K1 := hide k1
      clear h1 k1
      go_wp2_with fail
      go_ret
      exact ⟨rfl, H1.out, K1.out⟩
  · obtain ⟨⟨c0, c1, c2, c3, c4, c5⟩, ff⟩ := HCE.out 5
    have f2 := ff (i * 6 + 2)
    have r0 := ho.r0
    have r1 := ho.r1
    have hN0 := hN rfl
    obtain ⟨rm, hrm⟩ : ∃ rm, rm = (at0 P.L i).room := ⟨_, rfl⟩
    obtain ⟨M, hM⟩ : ∃ M : Int, M = min N (1099511627776 - rm) := ⟨_, rfl⟩
    have hap5 : hap P.sz (at0 P.L i) 5 N d = { at0 P.L i with room := rm + M } := by
      rw [hM, hrm]; rfl
    rw [hap5]
    rw [← hrm] at c2 r0 r1
    have hm : min N (1099511627776 - rm) = M := hM.symm
    have m0 : 0 ≤ M := by omega
    have m1 : rm + M ≤ 1099511627776 := by omega
    clear ff hap5 hM hN
    have HRM := hide hrm
    clear hrm
    go_enter Try.func48, Try.ntmps48
    go_wp2_with fail
    go_region
    all_goals
      go_wp2_with fail
      go_ret
      exact ⟨rfl, (H0.out.cellTurn hi (j := 2) (by omega) (.int .i64 (rm + M)) { at0 P.L i with room := rm + M } rfl rfl ⟨ho.q, ho.s0, ho.s3, by show 0 ≤ rm + M; omega, m1⟩).below (((Below.refl _ _).alloc (Nat.le_refl _) _).drew), (((KeptS.refl S w).setCell HSE.out _).alloc _).drewN 1⟩
  · go_enter Try.func48, Try.ntmps48
    go_wp2_with fail
    refine (HBC.out _ 1 (by omega)).mono ?_
    rintro x w1 ⟨rfl, h1, k1⟩
    have H1 := hide h1
    have K1 := hide k1
    clear h1 k1
    go_wp2_with fail
    go_ret
    exact ⟨rfl, H1.out, K1.out⟩
  · go_enter Try.func48, Try.ntmps48
    go_wp2_with fail
    refine (HBC.out _ 3 (by omega)).mono ?_
    rintro x w1 ⟨rfl, h1, k1⟩
    have H1 := hide h1
    have K1 := hide k1
    clear h1 k1
    go_wp2_with fail
    go_ret
    exact ⟨rfl, H1.out, K1.out⟩

end Go.Proofs.Ytjojhnkibgkleaa
