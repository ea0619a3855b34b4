/-
  What makes an endpoint begin anew, what lets outputs and datagrams in; conditions as each theorem has them.
-/
import Derived.Test.YtjojhnkibgkleaaJoinedA
set_option linter.unusedSimpArgs false
set_option linter.unusedVariables false
set_option maxRecDepth 8000
namespace Go.Proofs.Ytjojhnkibgkleaa
open Go.RowKit Go.Lib

/-- One cell of an endpoint has turned. -/
theorem IsPort.cellTurn {w : World} {S : Nat → Prop} {b eb : Nat} {gv ov : Value} {R G : Nat → Nat} {P : Pt} (h : IsPort w S b eb gv ov R G P) {i : Nat} (hi : i < P.L.length) {j : Nat} (hj : j < 6) (u : Value) (x : En) (hu : (enC (rp R i) (at0 P.L i)).set j u = enC (rp R i) x) (hq : x.q = (at0 P.L i).q) (hx : En.Ok P.sz x) :
    IsPort (w.setCell ⟨eb, i * 6 + j, none⟩ u) S b eb gv ov R G { P with L := P.L.set i x } := by
  refine h.rowTurn hi ((Kept.refl eb eb w).setCell (Or.inl rfl) u) ?_ hq hx
  have := h.row.set hi hj u (rp R i) x hu
  rwa [upd_same] at this
theorem at0_same {L : List En} {i : Nat} (hi : i < L.length) (x : En) : at0 (L.set i x) i = x := by rw [at0_set x hi, if_pos rfl]
theorem IsPort.cellAt {w : World} {S : Nat → Prop} {b eb : Nat} {gv ov : Value} {R G : Nat → Nat} {P : Pt} {i : Nat} {x : En} (h : IsPort w S b eb gv ov R G { P with L := P.L.set i x }) (hi : i < P.L.length) {j : Nat} (hj : j < 6) (u : Value) (y : En) (hu : (enC (rp R i) x).set j u = enC (rp R i) y) (hq : y.q = x.q) (hy : En.Ok P.sz y) :
    IsPort (w.setCell ⟨eb, i * 6 + j, none⟩ u) S b eb gv ov R G { P with L := P.L.set i y } := by
  have := h.cellTurn (i := i) (by simpa using hi) hj u y (by rw [at0_same hi]; exact hu) (by rw [at0_same hi]; exact hq) hy
  simpa only [List.set_set] using this
theorem become_at {w : World} {S : Nat → Prop} {b eb : Nat} {gv ov : Value} {R G : Nat → Nat} {P : Pt} (h : IsPort w S b eb gv ov R G P) (i : Nat) (hi : i < P.L.length) (s : Int) (hs : 0 ≤ s ∧ s ≤ 3) :
    Calls Try.prog 53 #[.pointer (some ⟨eb, i * 6, none⟩), .int .i64 s] w fun e w' => e = .returned (.tuple #[]) ∧ IsPort w' S b eb gv ov R G { P with L := P.L.set i (z s) } ∧ KeptS S w w' := by
  obtain ⟨c0, c1, c2, c3, c4, c5⟩ := h.row.at_ hi
  obtain ⟨ic, oc, hr⟩ := h.ring i hi
  have H := hide h
  have HR := hide hr
  clear hr
  unfold rp at c0
  go_enter Try.func53, Try.ntmps53
  go_wp2_with fail
  refine (clear_ring (R i) (G i) P.sz ic oc _ _ HR.out).mono ?_
  rintro e w1 ⟨rfl, hr1, hk1⟩
  have H1 := hide (H.out.ringTurn hi hk1 hr1 (by simp))
  have HK := hide (KeptS.of_kept hk1 (H.out.sr i hi).1 (H.out.sr i hi).2)
  clear h hr1 hk1 c0 c1 c2 c3 c4 c5
  have hi1 : i < (P.L.set i { at0 P.L i with q := [] }).length := by simpa using hi
  obtain ⟨c0, c1, c2, c3, c4, c5⟩ := H1.out.row.at_ hi1
  have f1 := H1.out.row.frozen (i * 6 + 1)
  have f2 := H1.out.row.frozen (i * 6 + 2)
  have f3 := H1.out.row.frozen (i * 6 + 3)
  have f4 := H1.out.row.frozen (i * 6 + 4)
  have f5 := H1.out.row.frozen (i * 6 + 5)
  go_wp2
  go_end0
  have k0 := H1.out.ok.e i
  have hz : En.Ok P.sz (z s) := z_ok _ _ hs.1 hs.2
  have e0 : at0 (P.L.set i { at0 P.L i with q := [] }) i = { at0 P.L i with q := [] } := at0_same hi _
  obtain ⟨x0, hx0⟩ : ∃ x0 : En, x0 = { at0 P.L i with q := [] } := ⟨_, rfl⟩
  rw [e0] at k0
  have t0 := H1.out
  rw [← hx0] at t0 k0 e0
  have t1 := t0.cellAt hi (j := 1) (by omega) (.int .i64 s) { x0 with st := s } rfl rfl ⟨k0.q, hs.1, hs.2, k0.r0, k0.r1⟩
  have t2 := t1.cellAt hi (j := 2) (by omega) (.int .i64 0) { x0 with st := s, room := 0 } rfl rfl ⟨k0.q, hs.1, hs.2, by simp, by simp⟩
  have t3 := t2.cellAt hi (j := 3) (by omega) (.bool false) { x0 with st := s, room := 0, nw := false } rfl rfl ⟨k0.q, hs.1, hs.2, by simp, by simp⟩
  have t4 := t3.cellAt hi (j := 4) (by omega) (.bool false) { x0 with st := s, room := 0, nw := false, oth := false } rfl rfl ⟨k0.q, hs.1, hs.2, by simp, by simp⟩
  have t5 := t4.cellAt hi (j := 5) (by omega) (.bool false) (z s) rfl (by rw [hx0]; rfl) hz
  have hse := H.out.se
  exact ⟨rfl, t5, ((((HK.out.setCell hse _).setCell hse _).setCell hse _).setCell hse _).setCell hse _⟩

end Go.Proofs.Ytjojhnkibgkleaa
