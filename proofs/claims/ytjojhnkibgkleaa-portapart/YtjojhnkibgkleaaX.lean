/-
  The chapter's example, as the statements ask it first: it answers true and turns nothing that was there.
-/
import Derived.Test.YtjojhnkibgkleaaQ
set_option linter.unusedSimpArgs false
set_option linter.unusedVariables false
set_option maxRecDepth 8000
namespace Go.Proofs.Ytjojhnkibgkleaa
open Go.RowKit Go.Lib

def abc : ByteArray := ⟨#[97, 98, 99, 100, 101, 102]⟩
def wP0 : Pt := newP 1 1 4
def wP1 : Pt := evP wP0 1 0 0 emp
def wP2 : Pt := evP wP1 2 0 0 abc
def wP3 : Pt := accP wP2
def wP4 : Pt := takeP wP3 0 9
def wP5 : Pt := sendP wP4 0 [120]
def wP6 : Pt := evP wP5 5 0 1 emp
def wP7 : Pt := sendP wP6 0 [120, 121]
theorem works_num : evN wP1 2 0 0 abc = 4 ∧ accN wP2 = 0 ∧ accC wP2 = 0 ∧ takeL wP3 0 9 = [97, 98, 99, 100] ∧ sendT wP4 0 1 = 0 ∧ sendT wP6 0 2 = 1 ∧ wP4.ou.length = 0 ∧ wP6.ou.length = 0 := by decide +kernel
theorem works_ou : wP7.ou = [ot 2 0 ⟨#[120]⟩] := by rfl
theorem src_new (w : World) (l : List Int) (h : ∀ x ∈ l, 0 ≤ x ∧ x < 256) (fr : Nat × Nat) (n : Nat) (hn : n = l.length) (hm : n ≤ 64) : Src (w.alloc (.cells (vals l).toArray 5 fr)) (some ⟨w.heap.size, 0, none⟩) n n l := by
  subst hn
  refine ⟨rfl, Nat.le_refl _, by unfold maxLen; omega, (fun e => by cases e), fun h0 => ⟨w.heap.size, 0, rfl, fun i hi => ?_⟩, h⟩
  have e : (w.alloc (.cells (vals l).toArray 5 fr)).heap[w.heap.size]? = some (.cells (vals l).toArray 5 fr) := alloc_new _ _
  rw [Nat.zero_add]
  simp only [World.cell?, e]
  simp [vals, List.getD, hi]
theorem srcO_new (w : World) (o : Ot) : SrcO (w.alloc (.cells (otC o).toArray 68)) (some ⟨w.heap.size, 0, none⟩) 1 1 [o] := by
  refine ⟨rfl, Nat.le_refl _, by decide, fun _ => ⟨w.heap.size, 0, rfl, by simp, fun i hi => ?_⟩⟩
  obtain rfl : i = 0 := by omega
  exact mid_new w o
theorem ty_new {w : World} {C : Array Value} {fr : Nat × Nat} {n : Nat} : ∀ g o, (some ⟨w.heap.size, 0, none⟩ : Option Addr) = some ⟨g, o, none⟩ → 0 < n → ∃ cs f, (w.alloc (.cells C 5 fr)).heap[g]? = some (.cells cs 5 f) := fun g o e _ => by
  simp at e
  rw [← e.1]
  exact ⟨C, fr, alloc_new _ _⟩
/-- A port all of whose memory lies where F says. -/
def PF (F : Nat → Prop) (w : World) (b : Nat) (P : Pt) : Prop := ∃ S, Port w S b P ∧ ∀ k, S k → F k
theorem PF.mk2 {F : Nat → Prop} {w w' : World} {S : Nat → Prop} {b : Nat} {P : Pt} (hF : ∀ k, w.heap.size ≤ k → F k) (hS : ∀ k, S k → F k) (h : Port w' (grow S w w') b P) (k : KeptS S w w') : PF F w' b P ∧ KeptS F w w' :=
  ⟨⟨_, h, fun j hj => hj.elim (hS j) (fun x => hF j x.1)⟩, k.mono (fun x hx => Or.inl (hS x hx))⟩
theorem PF.below {F : Nat → Prop} {w w' : World} {b : Nat} {P : Pt} (h : PF F w b P) (k : Below w.heap.size w w') : PF F w' b P := by
  obtain ⟨S, hp, hS⟩ := h
  exact ⟨S, hp.below k, hS⟩
theorem event_F {F : Nat → Prop} {w : World} {b : Nat} {P : Pt} (h : PF F w b P) (hF : ∀ k, w.heap.size ≤ k → F k) (k e N : Int) (d : ByteArray) (hNm : N ≤ 9223372036854775807) (hd : d.size ≤ maxLen) (ra : Option Addr) (rn rc : Nat) :
    Calls Try.prog 13 #[.pointer (some ⟨b, 0, none⟩), .agg #[.int .i64 k, .int .i64 e, .int .i64 N, .string d, .slice ra rn rc]] w fun x w' => x = .returned (.tuple #[.int .i64 (evN P k e N d : Nat), .int .i64 (evC P k e N d)]) ∧ PF F w' b (evP P k e N d) ∧ KeptS F w w' := by
  obtain ⟨S, ⟨eb, gv, ov, R, G, h⟩, hS⟩ := h
  exact (event_at h k e N d hNm hd ra rn rc).mono fun x w' ⟨e1, e2, e3⟩ => ⟨e1, PF.mk2 hF hS e2 e3⟩
theorem send_F {F : Nat → Prop} {w : World} {b : Nat} {P : Pt} (h : PF F w b P) (hF : ∀ k, w.heap.size ≤ k → F k) (e : Int) (hlen : P.ou.length ≤ 1900000000000) (a : Option Addr) (n cp : Nat) (l : List Int) (hsrc : Src w a n cp l) (hty : ∀ g o, a = some ⟨g, o, none⟩ → 0 < n → ∃ cs f, w.heap[g]? = some (.cells cs 5 f)) :
    Calls Try.prog 29 #[.pointer (some ⟨b, 0, none⟩), .int .i64 e, .slice a n cp] w fun x w' => x = .returned (.int .i64 (sendT P e n : Nat)) ∧ PF F w' b (sendP P e l) ∧ KeptS F w w' := by
  obtain ⟨S, ⟨eb, gv, ov, R, G, h⟩, hS⟩ := h
  exact (send_at h e hlen a n cp l hsrc (fun g o e0 h0 => by
    obtain ⟨cs, f, hc⟩ := hty g o e0 h0
    obtain ⟨er, eh, _⟩ := h.row
    exact ty_ne hc eh (by decide))).mono fun x w' ⟨e1, e2, e3⟩ => ⟨e1, PF.mk2 hF hS e2 e3⟩
theorem outs_F {F : Nat → Prop} {w : World} {b : Nat} {P : Pt} (h : PF F w b P) (hF : ∀ k, w.heap.size ≤ k → F k) : Calls Try.prog 22 #[.pointer (some ⟨b, 0, none⟩)] w fun x w' => ∃ a c, x = .returned (.slice a P.ou.length c) ∧ SrcO w' a P.ou.length c P.ou ∧ PF F w' b (outsP P) ∧ KeptS F w w' := by
  obtain ⟨S, ⟨eb, gv, ov, R, G, h⟩, hS⟩ := h
  refine (outs_at h).mono ?_
  rintro x w' ⟨rfl, ho, hp, hk⟩
  obtain ⟨a, c, rfl, hs⟩ := own_srcO ho
  exact ⟨a, c, rfl, hs, PF.mk2 hF hS hp hk⟩
/-- What is taken lies in none of the port's memory. -/
theorem take_F {B : Nat} {w : World} {b : Nat} {P : Pt} (h : PB B w b P) (hB : B ≤ w.heap.size) (e n : Int) : Calls Try.prog 14 #[.pointer (some ⟨b, 0, none⟩), .int .i64 e, .int .i64 n] w fun x w' => ∃ v, x = .returned v ∧ Mine w.heap.size w' v (takeL P e n) ∧ PF (fun k => B ≤ k ∧ (k < w.heap.size ∨ w'.heap.size ≤ k)) w' b (takeP P e n) ∧ Below B w w' := by
  obtain ⟨S, ⟨eb, gv, ov, R, G, h⟩, hS⟩ := h
  refine (take_tight h e n).mono ?_
  rintro x w' ⟨v, rfl, hm, hp, hk⟩
  exact ⟨v, rfl, hm, ⟨S, hp, fun k hk' => ⟨hS k hk', Or.inl (h.lt k hk')⟩⟩, hk.below hB hS⟩
set_option maxRecDepth 100000 in
set_option maxHeartbeats 2000000 in
theorem works_at (w : World) : Calls Try.prog 24 #[] w fun e w' => e = .returned (.bool true) ∧ Below w.heap.size w w' := by
  obtain ⟨n1, n2, n3, n4, n5, n6, n7, n8⟩ := works_num
  have N1 := hide n1
  have N2 := hide n2
  have N3 := hide n3
  have N4 := hide n4
  have N5 := hide n5
  have N6 := hide n6
  have N7 := hide n7
  have N8 := hide n8
  clear n1 n2 n3 n4 n5 n6 n7 n8
  have hcc := fun (w : World) (C : Array Value) (n c : Nat) => Lib.run_convert_bytes_const (P := Try.prog) w 45 5 C n c Try.underlying45 Try.underlying5
  go_enter Try.func24, Try.ntmps24
  go_wp2_with fail
  refine (new_B (B := w.heap.size) 1 1 4 w (Nat.le_refl _) (by omega) (by omega) (by omega) (by omega)).mono ?_
  rintro x w1 ⟨b, rfl, h1, k1⟩
  have H1 : Hid (PB w.heap.size w1 b wP0) := h1
  have K1 := hide k1
  clear h1 k1
  go_wp2_with fail
  refine (event_B H1.out K1.out.size 1 0 0 emp (by omega) (by decide) none 0 0).mono ?_
  rintro x w2 ⟨rfl, h2, k2⟩
  have H2 : Hid (PB w.heap.size w2 b wP1) := h2
  have K2 := hide (K1.out.trans k2)
  clear h2 k2
  go_wp2_with fail
  refine (event_B H2.out K2.out.size 2 0 0 abc (by omega) (by decide) none 0 0).mono ?_
  rintro x w3 ⟨rfl, h3, k3⟩
  have H3 : Hid (PB w.heap.size w3 b wP2) := h3
  have K3 := hide (K2.out.trans k3)
  clear h3 k3
  rw [N1.out]
  go_wp2_with fail
  refine (accept_B H3.out K3.out.size).mono ?_
  rintro x w4 ⟨rfl, h4, k4⟩
  have H4 : Hid (PB w.heap.size w4 b wP3) := h4
  have K4 := hide (K3.out.trans k4)
  clear h4 k4
  rw [N2.out, N3.out]
  go_wp2_with fail
  refine (take_F H4.out K4.out.size 0 9).mono ?_
  rintro x w5 ⟨v5, rfl, hm5, h5, k5⟩
  rw [N4.out] at hm5
  obtain ⟨a5, c5, rfl, hs5, ha5⟩ := hm5.src (by decide) (by decide)
  have hsz45 := k5.size
  have K5 := hide (K4.out.trans k5)
  obtain ⟨F, hFd⟩ : ∃ F : Nat → Prop, F = (fun k => w.heap.size ≤ k ∧ (k < w4.heap.size ∨ w5.heap.size ≤ k)) := ⟨_, rfl⟩
  rw [← hFd] at h5
  have HFB : Hid (∀ k, F k → w.heap.size ≤ k) := fun k hk => by rw [hFd] at hk; exact hk.1
  have HFU : Hid (∀ k, w5.heap.size ≤ k → F k) := fun k hk => by rw [hFd]; exact ⟨Nat.le_trans K5.out.size hk, Or.inr hk⟩
  have HSR : Hid (∀ W, KeptS F w5 W → Src W a5 4 c5 [97, 98, 99, 100]) := fun W k => hs5.keep (fun g o e h0 => k.block g (hs5.lt h0 e) (fun hf => by
    have h1 := ha5 g o e
    have h2 := hs5.lt h0 e
    rw [hFd] at hf
    rcases hf.2 with h | h <;> omega))
  have H5 : Hid (PF F w5 b wP4) := h5
  clear h5 k5 hm5 hs5 hFd ha5 hsz45
  have E5 : Hid (KeptS F w5 (w5.alloc (.cells #[.int .u8 120] 5 (1, 2)))) := (KeptS.refl F w5).alloc _
  go_wp2_with fail
  refine (send_F (H5.out.below ((Below.refl _ _).alloc (Nat.le_refl _) _)) (fun k hk => HFU.out k (Nat.le_trans E5.out.size hk)) 0 (by rw [N7.out]; omega) _ 1 1 [120] (src_new w5 [120] (by decide) (1, 2) 1 rfl (by omega)) ty_new).mono ?_
  rintro x w6 ⟨rfl, h6, k6⟩
  have H6 : Hid (PF F w6 b wP5) := h6
  have E6 : Hid (KeptS F w5 w6) := E5.out.trans k6 (fun _ => Or.inl)
  clear h6 k6
  rw [N5.out]
  go_wp2_with fail
  refine (event_F H6.out (fun k hk => HFU.out k (Nat.le_trans E6.out.size hk)) 5 0 1 emp (by omega) (by decide) none 0 0).mono ?_
  rintro x w7 ⟨rfl, h7, k7⟩
  have H7 : Hid (PF F w7 b wP6) := h7
  have E7 : Hid (KeptS F w5 w7) := E6.out.trans k7 (fun _ => Or.inl)
  clear h7 k7
  have E7b : Hid (KeptS F w5 (w7.alloc (.cells #[.int .u8 120, .int .u8 121] 5 (2, 3)))) := E7.out.alloc _
  go_wp2_with fail
  refine (send_F (H7.out.below ((Below.refl _ _).alloc (Nat.le_refl _) _)) (fun k hk => HFU.out k (Nat.le_trans E7b.out.size hk)) 0 (by rw [N8.out]; omega) _ 2 2 [120, 121] (src_new w7 [120, 121] (by decide) (2, 3) 2 rfl (by omega)) ty_new).mono ?_
  rintro x w8 ⟨rfl, h8, k8⟩
  have H8 : Hid (PF F w8 b wP7) := h8
  have E8 : Hid (KeptS F w5 w8) := E7b.out.trans k8 (fun _ => Or.inl)
  clear h8 k8
  rw [N6.out]
  have hstr := run_str (HSR.out w8 E8.out)
  rw [show strOfNums [97, 98, 99, 100] = (⟨#[97, 98, 99, 100]⟩ : ByteArray) from rfl] at hstr
  go_wp2_with fail
  refine (outs_F H8.out (fun k hk => HFU.out k (Nat.le_trans E8.out.size hk))).mono ?_
  rintro x w9 ⟨a9, c9, rfl, hs9, h9, k9⟩
  rw [works_ou] at hs9 ⊢
  have S9 := hide hs9
  have E9 : Hid (KeptS F w5 w9) := E8.out.trans k9 (fun _ => Or.inl)
  clear h9 k9 hs9 hstr
  go_wp2_with fail
  refine (same_outs _ _ _ _ _ _ _ [ot 2 0 ⟨#[120]⟩] (S9.out.keep ((Below.refl _ _).alloc (Nat.le_refl _) _)) (srcO_new w9 (ot 2 0 ⟨#[120]⟩))).mono ?_
  rintro x w10 ⟨rfl, k10⟩
  have E10 := hide k10
  clear k10
  go_wp2_with fail
  go_ret
  refine ⟨rfl, ?_⟩
  have B9 : Below w.heap.size w w9 := K5.out.trans (E9.out.below K5.out.size HFB.out)
  have B9' := B9.alloc B9.size (.cells (otC (ot 2 0 ⟨#[120]⟩)).toArray 68)
  exact B9'.trans (E10.out.mono B9'.size)

end Go.Proofs.Ytjojhnkibgkleaa
