/-
  Ports as wholes, each in memory of its own; outputs and bytes held against one another; conditions as each theorem has them.
-/
import Derived.Test.YtjojhnkibgkleaaW
set_option linter.unusedSimpArgs false
set_option linter.unusedVariables false
set_option maxRecDepth 8000
namespace Go.Proofs.Ytjojhnkibgkleaa
open Go.RowKit Go.Lib

/-- A port all of whose memory lies from block B on. -/
def PB (B : Nat) (w : World) (b : Nat) (P : Pt) : Prop := ∃ S, Port w S b P ∧ ∀ k, S k → B ≤ k
theorem PB.mk2 {B : Nat} {w w' : World} {S : Nat → Prop} {b : Nat} {P : Pt} (hB : B ≤ w.heap.size) (hS : ∀ k, S k → B ≤ k) (h : Port w' (grow S w w') b P) (k : KeptS S w w') : PB B w' b P ∧ Below B w w' :=
  ⟨⟨_, h, fun j hj => hj.elim (hS j) (fun x => Nat.le_trans hB x.1)⟩, k.below hB hS⟩
theorem PB.below {B : Nat} {w w' : World} {b : Nat} {P : Pt} (h : PB B w b P) (k : Below w.heap.size w w') : PB B w' b P := by
  obtain ⟨S, hp, hS⟩ := h
  exact ⟨S, hp.below k, hS⟩
theorem PB.ok {B : Nat} {w : World} {b : Nat} {P : Pt} (h : PB B w b P) : P.Ok := by
  obtain ⟨S, ⟨eb, gv, ov, R, G, h⟩, hS⟩ := h
  exact h.ok
theorem PB.bytes {B : Nat} {w : World} {b : Nat} {P : Pt} (h : PB B w b P) {i : Nat} (hi : i < P.L.length) : (∀ x ∈ (at0 P.L i).q, 0 ≤ x ∧ x < 256) ∧ (at0 P.L i).q.length ≤ 65536 := by
  obtain ⟨S, ⟨eb, gv, ov, R, G, h⟩, hS⟩ := h
  exact h.bytes hi
variable {B : Nat} {w : World} {b : Nat} {P : Pt}
theorem new_B (c s n : Nat) (w : World) (hB : B ≤ w.heap.size) (hc : c ≤ 64) (hs : s ≤ 64) (h1 : 1 ≤ n) (h2 : n ≤ 65536) :
    Calls Try.prog 9 #[.int .i64 c, .int .i64 s, .int .i64 n] w fun e w' => ∃ b, e = .returned (.tuple #[.pointer (some ⟨b, 0, none⟩), .int .i64 0]) ∧ PB B w' b (newP c s n) ∧ Below B w w' :=
  (pnew_at c s n w hc hs h1 h2).mono fun e w' ⟨b, e1, e2, e3⟩ => ⟨b, e1, ⟨_, e2, fun k hk => Nat.le_trans hB hk.1⟩, e3.mono hB⟩
theorem event_B (h : PB B w b P) (hB : B ≤ w.heap.size) (k e N : Int) (d : ByteArray) (hNm : N ≤ 9223372036854775807) (hd : d.size ≤ maxLen) (ra : Option Addr) (rn rc : Nat) :
    Calls Try.prog 13 #[.pointer (some ⟨b, 0, none⟩), .agg #[.int .i64 k, .int .i64 e, .int .i64 N, .string d, .slice ra rn rc]] w fun x w' => x = .returned (.tuple #[.int .i64 (evN P k e N d : Nat), .int .i64 (evC P k e N d)]) ∧ PB B w' b (evP P k e N d) ∧ Below B w w' := by
  obtain ⟨S, ⟨eb, gv, ov, R, G, h⟩, hS⟩ := h
  exact (event_at h k e N d hNm hd ra rn rc).mono fun x w' ⟨e1, e2, e3⟩ => ⟨e1, PB.mk2 hB hS e2 e3⟩
theorem accept_B (h : PB B w b P) (hB : B ≤ w.heap.size) : Calls Try.prog 33 #[.pointer (some ⟨b, 0, none⟩)] w fun x w' => x = .returned (.tuple #[.int .i64 (accN P), .int .i64 (accC P)]) ∧ PB B w' b (accP P) ∧ Below B w w' := by
  obtain ⟨S, ⟨eb, gv, ov, R, G, h⟩, hS⟩ := h
  exact (accept_at h).mono fun x w' ⟨e1, e2, e3⟩ => ⟨e1, PB.mk2 hB hS e2 e3⟩
theorem take_B (h : PB B w b P) (hB : B ≤ w.heap.size) (e n : Int) : Calls Try.prog 14 #[.pointer (some ⟨b, 0, none⟩), .int .i64 e, .int .i64 n] w fun x w' => ∃ v, x = .returned v ∧ Mine w.heap.size w' v (takeL P e n) ∧ PB B w' b (takeP P e n) ∧ Below B w w' := by
  obtain ⟨S, ⟨eb, gv, ov, R, G, h⟩, hS⟩ := h
  exact (take_at h e n).mono fun x w' ⟨v, e0, e1, e2, e3⟩ => ⟨v, e0, e1, PB.mk2 hB hS e2 e3⟩
theorem peek_B (h : PB B w b P) (e n : Int) : Calls Try.prog 26 #[.pointer (some ⟨b, 0, none⟩), .int .i64 e, .int .i64 n] w fun x w' => ∃ v, x = .returned v ∧ Mine w.heap.size w' v (takeL P e n) ∧ Below w.heap.size w w' := by
  obtain ⟨S, ⟨eb, gv, ov, R, G, h⟩, hS⟩ := h
  exact peek_at h e n
theorem state_B (h : PB B w b P) (e : Int) : Calls Try.prog 30 #[.pointer (some ⟨b, 0, none⟩), .int .i64 e] w fun x w' => x = .returned (.tuple #[.int .i64 (stN P e), .int .i64 (codeN P e)]) ∧ Below w.heap.size w w' := by
  obtain ⟨S, ⟨eb, gv, ov, R, G, h⟩, hS⟩ := h
  exact state_at h e
theorem waiting_B (h : PB B w b P) (e : Int) : Calls Try.prog 31 #[.pointer (some ⟨b, 0, none⟩), .int .i64 e] w fun x w' => x = .returned (.int .i64 ((qN P e).length : Nat)) ∧ Below w.heap.size w w' := by
  obtain ⟨S, ⟨eb, gv, ov, R, G, h⟩, hS⟩ := h
  exact waiting_at h e
theorem room_B (h : PB B w b P) (e : Int) : Calls Try.prog 32 #[.pointer (some ⟨b, 0, none⟩), .int .i64 e] w fun x w' => x = .returned (.int .i64 (roomN P e)) ∧ Below w.heap.size w w' := by
  obtain ⟨S, ⟨eb, gv, ov, R, G, h⟩, hS⟩ := h
  exact room_at h e
theorem ended_B (h : PB B w b P) (e : Int) : Calls Try.prog 27 #[.pointer (some ⟨b, 0, none⟩), .int .i64 e] w fun x w' => x = .returned (.bool (endN P e)) ∧ Below w.heap.size w w' := by
  obtain ⟨S, ⟨eb, gv, ov, R, G, h⟩, hS⟩ := h
  exact ended_at h e
theorem last_B (h : PB B w b P) (e : Int) : Calls Try.prog 37 #[.pointer (some ⟨b, 0, none⟩), .int .i64 e] w fun x w' => x = .returned (.bool (lastN P e)) ∧ Below w.heap.size w w' := by
  obtain ⟨S, ⟨eb, gv, ov, R, G, h⟩, hS⟩ := h
  exact last_at h e
theorem used_B (h : PB B w b P) : Calls Try.prog 19 #[.pointer (some ⟨b, 0, none⟩)] w fun x w' => x = .returned (.int .i64 (usedN P : Nat)) ∧ Below w.heap.size w w' := by
  obtain ⟨S, ⟨eb, gv, ov, R, G, h⟩, hS⟩ := h
  exact used_at h
theorem fin_B (h : PB B w b P) (hB : B ≤ w.heap.size) (e : Int) (hlen : P.ou.length ≤ 1900000000000) : Calls Try.prog 28 #[.pointer (some ⟨b, 0, none⟩), .int .i64 e] w fun x w' => x = .returned (.int .i64 (finC P e)) ∧ PB B w' b (finP P e) ∧ Below B w w' := by
  obtain ⟨S, ⟨eb, gv, ov, R, G, h⟩, hS⟩ := h
  exact (fin_at h e hlen).mono fun x w' ⟨e1, e2, e3⟩ => ⟨e1, PB.mk2 hB hS e2 e3⟩
theorem send_B (h : PB B w b P) (hB : B ≤ w.heap.size) (e : Int) (hlen : P.ou.length ≤ 1900000000000) (a : Option Addr) (n cp : Nat) (l : List Int) (hsrc : Src w a n cp l) (hty : ∀ g o, a = some ⟨g, o, none⟩ → 0 < n → ∃ cs f, w.heap[g]? = some (.cells cs 5 f)) :
    Calls Try.prog 29 #[.pointer (some ⟨b, 0, none⟩), .int .i64 e, .slice a n cp] w fun x w' => x = .returned (.int .i64 (sendT P e n : Nat)) ∧ PB B w' b (sendP P e l) ∧ Below B w w' := by
  obtain ⟨S, ⟨eb, gv, ov, R, G, h⟩, hS⟩ := h
  exact (send_at h e hlen a n cp l hsrc (fun g o e0 h0 => by
    obtain ⟨cs, f, hc⟩ := hty g o e0 h0
    obtain ⟨er, eh, _⟩ := h.row
    exact ty_ne hc eh (by decide))).mono fun x w' ⟨e1, e2, e3⟩ => ⟨e1, PB.mk2 hB hS e2 e3⟩
/-- Outputs wherever they lie. -/
structure SrcO (w : World) (a : Option Addr) (n c : Nat) (l : List Ot) : Prop where
  hlen : l.length = n
  hcap : n ≤ c
  hmax : c ≤ maxLen
  lies : 0 < n → ∃ b o, a = some ⟨b, o, none⟩ ∧ b < w.heap.size ∧ ∀ i, i < n → w.rangeAt b (o + i * 10) (otC (l.getD i noOt))
theorem SrcO.keep {w w' : World} {a : Option Addr} {n c : Nat} {l : List Ot} (h : SrcO w a n c l) (k : Below w.heap.size w w') : SrcO w' a n c l := by
  refine ⟨h.hlen, h.hcap, h.hmax, fun h0 => ?_⟩
  obtain ⟨b, o, e, hb, hr⟩ := h.lies h0
  exact ⟨b, o, e, Nat.lt_of_lt_of_le hb k.size, fun i hi j v hv => (k.cell (p := ⟨b, o + i * 10 + j, none⟩) hb).trans (hr i hi j v hv)⟩
theorem own_srcO {w : World} {v : Value} {l : List Ot} (h : OwnO w v l) : ∃ a c, v = .slice a l.length c ∧ SrcO w a l.length c l := by
  rcases h.2 with ⟨rfl, h0⟩ | ⟨x, cap, cur, rfl, _, hh, hnc, hcm, hsz, htk⟩
  · exact ⟨none, 0, by rw [h0], ⟨rfl, by omega, Nat.zero_le _, fun hp => by omega⟩⟩
  · refine ⟨_, cap, rfl, ⟨rfl, hnc, hcm, fun hp => ⟨x, 0, rfl, lt_of_some hh, fun i hi j u hu => ?_⟩⟩⟩
    have hj : j < 10 := by
      rcases Nat.lt_or_ge j 10 with h1 | h1
      · exact h1
      · rw [List.getElem?_eq_none (by rw [otC_len]; exact h1)] at hu; cases hu
    have h1 := otCs_get l i j hi hj
    rw [hu, ← htk, List.getElem?_take, if_pos (by omega), Array.getElem?_toList] at h1
    simp only [World.cell?, hh, Nat.zero_add]
    simpa using h1
theorem ot_neq (x : Ot) (w : World) : (binOp .neq 68 (.agg (otC x).toArray) (.agg (otC x).toArray)).run Try.prog w = .ok (.bool false) w := by
  obtain ⟨k, e, d, a1, a2, a3, a4, nm, po⟩ := x
  simp only [otC]
  go_simp
theorem SrcO.at_ {w : World} {a : Option Addr} {n c : Nat} {l : List Ot} (h : SrcO w a n c l) {i : Nat} (hi : i < n) : ∃ b o, a = some ⟨b, o, none⟩ ∧ b < w.heap.size ∧ w.rangeAt b (o + i * 10) (otC (l.getD i noOt)) := by
  obtain ⟨b, o, e, hb, hr⟩ := h.lies (by omega)
  exact ⟨b, o, e, hb, hr i hi⟩
attribute [local go_sem ↓] run_ldO Go.wp_at_zero Go.wp_at_succ
set_option maxRecDepth 100000 in
set_option maxHeartbeats 2000000 in
theorem same_outs (w : World) (a b : Option Addr) (n c m d : Nat) (l : List Ot) (h1 : SrcO w a n c l) (h2 : SrcO w b m d l) : Calls Try.prog 21 #[.slice a n c, .slice b m d] w fun e w' => e = .returned (.bool true) ∧ Below w.heap.size w w' := by
  obtain rfl : m = n := by rw [← h2.hlen, ← h1.hlen]
  have H1 := hide h1
  have H2 := hide h2
  have hc1 := h1.hcap
  have hm1 := h1.hmax
  have hc2 := h2.hcap
  have hm2 := h2.hmax
  unfold maxLen at hm1 hm2
  clear h1 h2
  go_enter Try.func21, Try.ntmps21
  go_wp2_with fail
  go_loopw [5] (fun i wr => ∃ k : Nat, k ≤ m ∧ i = .int .i64 k ∧ Hid (Below w.heap.size w wr)) (fun i _ => m - (Go.RowKit.intOf i).toNat)
  case atStart => exact ⟨0, by omega, rfl, Below.refl _ _⟩
  case round =>
    obtain ⟨k, hk, rfl, HJ⟩ := hrel
    by_cases hkm : k < m
    · have hd : decide ((k : Int) < (m : Int)) = true := decide_eq_true (by omega)
      obtain ⟨xb, xo, rfl, _, e1⟩ := (H1.out.keep HJ.out).at_ hkm
      obtain ⟨yb, yo, rfl, _, f1⟩ := (H2.out.keep HJ.out).at_ hkm
      obtain ⟨r, hr⟩ : ∃ r, r = l.getD k noOt := ⟨_, rfl⟩
      rw [← hr] at e1 f1
      obtain ⟨p1, p2, p3⟩ := ld_out e1
      obtain ⟨q1, q2, q3⟩ := ld_out ((World.rangeAt_drew _ _ _ _).2 e1)
      obtain ⟨s1, s2, s3⟩ := ld_out f1
      obtain ⟨t1, t2, t3⟩ := ld_out ((World.rangeAt_drew _ _ _ _).2 f1)
      have heq := fun w => ot_neq r w
      clear hr e1 f1
      go_wp2_with fail
      go_region
      all_goals go_wp2_with fail
      go_roundw
      case rel => exact ⟨k + 1, by omega, by go_num, HJ.out.drew⟩
      case measure => simp [Go.RowKit.intOf]; omega
    · have hd : decide ((k : Int) < (m : Int)) = false := decide_eq_false (by omega)
      go_wp2_with fail
      go_ret
      exact ⟨rfl, HJ.out⟩
theorem same_bytes (w : World) (a c : Option Addr) (n m k j : Nat) (l : List Int) (h1 : Src w a n k l) (h2 : Src w c m j l) : Calls Try.prog 35 #[.slice a n k, .slice c m j] w fun e w' => e = .returned (.bool true) ∧ w = w' := by
  have c1 := run_str h1
  have c2 := run_str h2
  go_enter Try.func35, Try.ntmps35
  go_wp2_with fail
  go_ret
  simp
/-- 'outs' of a port: what was let out, in order. -/
theorem outs_B (h : PB B w b P) (hB : B ≤ w.heap.size) : Calls Try.prog 22 #[.pointer (some ⟨b, 0, none⟩)] w fun x w' => ∃ a c, x = .returned (.slice a P.ou.length c) ∧ SrcO w' a P.ou.length c P.ou ∧ PB B w' b (outsP P) ∧ Below B w w' := by
  obtain ⟨S, ⟨eb, gv, ov, R, G, h⟩, hS⟩ := h
  refine (outs_at h).mono ?_
  rintro x w' ⟨rfl, ho, hp, hk⟩
  obtain ⟨a, c, rfl, hs⟩ := own_srcO ho
  exact ⟨a, c, rfl, hs, PB.mk2 hB hS hp hk⟩

end Go.Proofs.Ytjojhnkibgkleaa
