/-
  A port and the reference's one, each in memory of its own, and each call of the one beside the other; conditions as each theorem has them.
-/
import Derived.Test.YtjojhnkibgkleaaYQ
import Derived.Test.YtjojhnkibgkleaaZA
set_option linter.unusedSimpArgs false
set_option linter.unusedVariables false
set_option maxRecDepth 8000
namespace Go.Proofs.Ytjojhnkibgkleaa
open Go.RowKit Go.Lib

theorem RPort.lt {w : World} {T : Nat → Prop} {y : Nat} {P : Pt} (h : RPort w T y P) : ∀ k, T k → k < w.heap.size := by
  obtain ⟨eb, ec, ea, bv, ov, Y, V, E, h⟩ := h
  exact h.lt
theorem RPort.off {w w' : World} {S T : Nat → Prop} {y : Nat} {P : Pt} (h : RPort w T y P) (k : KeptS S w w') (hd : ∀ i, T i → ¬ S i) : RPort w' T y P := by
  obtain ⟨eb, ec, ea, bv, ov, Y, V, E, h⟩ := h
  exact RPort.of (h.keep (fun i hi => k.block i (h.lt i hi) (hd i hi)) k.size)
theorem Port.lt {w : World} {S : Nat → Prop} {b : Nat} {P : Pt} (h : Port w S b P) : ∀ k, S k → k < w.heap.size := by
  obtain ⟨eb, gv, ov, R, G, h⟩ := h
  exact h.lt
theorem Port.ok {w : World} {S : Nat → Prop} {b : Nat} {P : Pt} (h : Port w S b P) : P.Ok := by
  obtain ⟨eb, gv, ov, R, G, h⟩ := h
  exact h.ok
/-- A port and the reference's one, apart; the one lies in none of the blocks X, the other in none of Z. -/
def Two (X Z : Nat → Prop) (B : Nat) (w : World) (b y : Nat) (P Q : Pt) : Prop := ∃ S T, Port w S b P ∧ RPort w T y Q ∧ (∀ k, S k → ¬ T k) ∧ (∀ k, S k → B ≤ k ∧ ¬ X k) ∧ (∀ k, T k → B ≤ k ∧ ¬ Z k)
/-- No block. -/
def nob : Nat → Prop := fun _ => False
/-- The block of a slice that has something. -/
def blk (a : Option Addr) (n : Nat) : Nat → Prop := fun k => 0 < n ∧ ∃ o, a = some ⟨k, o, none⟩
/-- What may turn. -/
def frm (B : Nat) (X : Nat → Prop) : Nat → Prop := fun k => B ≤ k ∧ ¬ X k
variable {X Z : Nat → Prop} {B : Nat} {w : World} {b y : Nat} {P Q : Pt}
theorem Two.mono (h : Two X Z B w b y P Q) : Two nob nob B w b y P Q := by
  obtain ⟨S, T, h1, h2, h3, h4, h5⟩ := h
  exact ⟨S, T, h1, h2, h3, fun k hk => ⟨(h4 k hk).1, fun x => x⟩, fun k hk => ⟨(h5 k hk).1, fun x => x⟩⟩
theorem Two.below {w' : World} (h : Two X Z B w b y P Q) (k : Below w.heap.size w w') : Two X Z B w' b y P Q := by
  obtain ⟨S, T, h1, ⟨eb, ec, ea, bv, ov, Y, V, E, h2⟩, h3, h4, h5⟩ := h
  exact ⟨S, T, h1.below k, RPort.of (h2.below k), h3, h4, h5⟩
theorem Two.drewN (h : Two X Z B w b y P Q) (n : Nat) : Two X Z B (w.drewN n) b y P Q := h.below ⟨rfl, rfl, rfl, Nat.le_refl _, fun _ _ => rfl⟩
/-- A block that is new to both. -/
theorem Two.new (h : Two nob nob B w b y P Q) {w' : World} (k : Below w.heap.size w w') : Two (fun k => w.heap.size ≤ k) (fun k => w.heap.size ≤ k) B w' b y P Q := by
  obtain ⟨S, T, h1, ⟨eb, ec, ea, bv, ov, Y, V, E, h2⟩, h3, h4, h5⟩ := h
  exact ⟨S, T, h1.below k, RPort.of (h2.below k), h3, fun k hk => ⟨(h4 k hk).1, fun x => by have := h1.lt k hk; omega⟩, fun k hk => ⟨(h5 k hk).1, fun x => by have := h2.lt k hk; omega⟩⟩
theorem Two.less {X' Z' : Nat → Prop} (h : Two X Z B w b y P Q) (hX : ∀ k, X' k → X k) (hZ : ∀ k, Z' k → Z k) : Two X' Z' B w b y P Q := by
  obtain ⟨S, T, h1, h2, h3, h4, h5⟩ := h
  exact ⟨S, T, h1, h2, h3, fun k hk => ⟨(h4 k hk).1, fun x => (h4 k hk).2 (hX k x)⟩, fun k hk => ⟨(h5 k hk).1, fun x => (h5 k hk).2 (hZ k x)⟩⟩
theorem Two.ok (h : Two X Z B w b y P Q) : P.Ok := by
  obtain ⟨S, T, h1, _⟩ := h
  exact h1.ok
/-- What else turns leaves both as they are. -/
theorem Two.off {w' : World} {F : Nat → Prop} (h : Two X Z B w b y P Q) (k : KeptS F w w') (hX : ∀ i, F i → X i ∧ Z i) : Two X Z B w' b y P Q := by
  obtain ⟨S, T, h1, h2, h3, h4, h5⟩ := h
  exact ⟨S, T, h1.off k (fun i hi hf => (h4 i hi).2 (hX i hf).1), h2.off k (fun i hi hf => (h5 i hi).2 (hX i hf).2), h3, h4, h5⟩
theorem pstep {S T : Nat → Prop} {w' : World} {P' : Pt} (r : RPort w T y Q) (hd : ∀ k, S k → ¬ T k) (hS : ∀ k, S k → B ≤ k ∧ ¬ X k) (hT : ∀ k, T k → B ≤ k ∧ ¬ Z k) (hB : B ≤ w.heap.size) (hX : ∀ k, X k → k < w.heap.size)
    (h' : Port w' (grow S w w') b P') (k : KeptS S w w') (a : Option Addr) (n : Nat) (ha : ∀ bl o, a = some ⟨bl, o, none⟩ → S bl ∨ w.heap.size ≤ bl) : Two X (fun k => Z k ∨ blk a n k) B w' b y P' Q ∧ KeptS (frm B X) w w' :=
  ⟨⟨grow S w w', T, h', r.off k (fun i hi hs => hd i hs hi), fun i hi ht => hi.elim (fun s => hd i s ht) (fun g => by have := r.lt i ht; omega),
    fun i hi => hi.elim (hS i) (fun g => ⟨Nat.le_trans hB g.1, fun x => by have := hX i x; omega⟩), fun i hi => ⟨(hT i hi).1, fun x => x.elim (hT i hi).2 (fun ⟨_, o, e⟩ => (ha i o e).elim (fun s => hd i s hi) (fun g => by have := r.lt i hi; omega))⟩⟩,
    k.mono (fun i hi => Or.inl (hS i hi))⟩
theorem rstep {S T : Nat → Prop} {w' : World} {Q' : Pt} (h : Port w S b P) (hd : ∀ k, S k → ¬ T k) (hS : ∀ k, S k → B ≤ k ∧ ¬ X k) (hT : ∀ k, T k → B ≤ k ∧ ¬ Z k) (hB : B ≤ w.heap.size) (hZ : ∀ k, Z k → k < w.heap.size)
    (h' : RPort w' (grow T w w') y Q') (k : KeptS T w w') : Two X Z B w' b y P Q' ∧ KeptS (frm B Z) w w' :=
  ⟨⟨S, grow T w w', h.off k (fun i hi ht => hd i hi ht), h', fun i hi ht => ht.elim (fun t => hd i hi t) (fun g => by have := h.lt i hi; omega), hS,
    fun i hi => hi.elim (hT i) (fun g => ⟨Nat.le_trans hB g.1, fun x => by have := hZ i x; omega⟩)⟩, k.mono (fun i hi => Or.inl (hT i hi))⟩
theorem Two.nozb (h : Two X (fun k => Z k ∨ blk none 0 k) B w b y P Q) : Two X Z B w b y P Q := h.less (fun _ x => x) (fun _ x => Or.inl x)
theorem no_blk : ∀ bl o, (none : Option Addr) = some ⟨bl, o, none⟩ → False := fun _ _ e => by cases e
theorem RPort.gram {T : Nat → Prop} (h : RPort w T y P) : (gramL P).size ≤ maxLen := by
  obtain ⟨eb, ec, ea, bv, ov, Y, V, E, h⟩ := h
  obtain ⟨a, bb, bo, c, e1, e2, e3, hc⟩ := h.box.at_
  cases hg : P.gr with
  | nil => unfold gramL; rw [hg]; exact Nat.zero_le _
  | cons d l =>
    rw [hg] at e2 hc
    simp only [List.length_cons] at e2
    obtain ⟨cp, _, hs⟩ := (hc (by omega)).2.2.2 0 (by simp)
    have h1 := hs.hcap
    have h2 := hs.hmax
    unfold gramL
    rw [hg]
    exact Nat.le_trans h1 h2
theorem event_p2 (h : Two X Z B w b y P Q) (hB : B ≤ w.heap.size) (hX : ∀ k, X k → k < w.heap.size) (k e N : Int) (d : ByteArray) (hNm : N ≤ 9223372036854775807) (hd : d.size ≤ maxLen) (ra : Option Addr) (rn rc : Nat) : Calls Try.prog 13 #[.pointer (some ⟨b, 0, none⟩), .agg #[.int .i64 k, .int .i64 e, .int .i64 N, .string d, .slice ra rn rc]] w fun x w' => x = .returned (.tuple #[.int .i64 (evN P k e N d : Nat), .int .i64 (evC P k e N d)]) ∧ Two X Z B w' b y (evP P k e N d) Q ∧ KeptS (frm B X) w w' := by
  obtain ⟨S, T, ⟨eb, gv, ov, R, G, h1⟩, h2, h3, h4, h5⟩ := h
  refine (event_at h1 k e N d hNm hd ra rn rc).mono fun x w' ⟨e1, e2, e3⟩ => ?_
  obtain ⟨g1, g2⟩ := pstep h2 h3 h4 h5 hB hX e2 e3 none 0 (fun bl o e => (no_blk bl o e).elim)
  exact ⟨e1, g1.nozb, g2⟩
theorem event_r2 (h : Two X Z B w b y P Q) (hB : B ≤ w.heap.size) (hZ : ∀ k, Z k → k < w.heap.size) (k e N : Int) (d : ByteArray) (hNm : N ≤ 9223372036854775807) (hd : d.size ≤ maxLen) (ra : Option Addr) (rn rc : Nat) : Calls Try.prog 55 #[.pointer (some ⟨y, 0, none⟩), .agg #[.int .i64 k, .int .i64 e, .int .i64 N, .string d, .slice ra rn rc]] w fun x w' => x = .returned (.tuple #[.int .i64 (evN Q k e N d : Nat), .int .i64 (evC Q k e N d)]) ∧ Two X Z B w' b y P (evP Q k e N d) ∧ KeptS (frm B Z) w w' := by
  obtain ⟨S, T, h1, ⟨eb, ec, ea, bv, ov, Y, V, E, h2⟩, h3, h4, h5⟩ := h
  refine (event_r h2 k e N hNm d hd ra rn rc).mono fun x w' ⟨e1, e2, e3⟩ => ?_
  obtain ⟨g1, g2⟩ := rstep h1 h3 h4 h5 hB hZ e2 e3
  exact ⟨e1, g1, g2⟩
theorem accept_p2 (h : Two X Z B w b y P Q) (hB : B ≤ w.heap.size) (hX : ∀ k, X k → k < w.heap.size)  : Calls Try.prog 33 #[.pointer (some ⟨b, 0, none⟩)] w fun x w' => x = .returned (.tuple #[.int .i64 (accN P), .int .i64 (accC P)]) ∧ Two X Z B w' b y (accP P) Q ∧ KeptS (frm B X) w w' := by
  obtain ⟨S, T, ⟨eb, gv, ov, R, G, h1⟩, h2, h3, h4, h5⟩ := h
  refine (accept_at h1).mono fun x w' ⟨e1, e2, e3⟩ => ?_
  obtain ⟨g1, g2⟩ := pstep h2 h3 h4 h5 hB hX e2 e3 none 0 (fun bl o e => (no_blk bl o e).elim)
  exact ⟨e1, g1.nozb, g2⟩
theorem accept_r2 (h : Two X Z B w b y P Q) (hB : B ≤ w.heap.size) (hZ : ∀ k, Z k → k < w.heap.size)  : Calls Try.prog 56 #[.pointer (some ⟨y, 0, none⟩)] w fun x w' => x = .returned (.tuple #[.int .i64 (accN Q), .int .i64 (accC Q)]) ∧ Two X Z B w' b y P (accP Q) ∧ KeptS (frm B Z) w w' := by
  obtain ⟨S, T, h1, ⟨eb, ec, ea, bv, ov, Y, V, E, h2⟩, h3, h4, h5⟩ := h
  refine (accept_r h2).mono fun x w' ⟨e1, e2, e3⟩ => ?_
  obtain ⟨g1, g2⟩ := rstep h1 h3 h4 h5 hB hZ e2 e3
  exact ⟨e1, g1, g2⟩
theorem fin_p2 (h : Two X Z B w b y P Q) (hB : B ≤ w.heap.size) (hX : ∀ k, X k → k < w.heap.size) (e : Int) (hlen : P.ou.length ≤ 1900000000000) : Calls Try.prog 28 #[.pointer (some ⟨b, 0, none⟩), .int .i64 e] w fun x w' => x = .returned (.int .i64 (finC P e)) ∧ Two X Z B w' b y (finP P e) Q ∧ KeptS (frm B X) w w' := by
  obtain ⟨S, T, ⟨eb, gv, ov, R, G, h1⟩, h2, h3, h4, h5⟩ := h
  refine (fin_at h1 e hlen).mono fun x w' ⟨e1, e2, e3⟩ => ?_
  obtain ⟨g1, g2⟩ := pstep h2 h3 h4 h5 hB hX e2 e3 none 0 (fun bl o e => (no_blk bl o e).elim)
  exact ⟨e1, g1.nozb, g2⟩
theorem fin_r2 (h : Two X Z B w b y P Q) (hB : B ≤ w.heap.size) (hZ : ∀ k, Z k → k < w.heap.size) (e : Int) (hlen : Q.ou.length ≤ 1900000000000) : Calls Try.prog 60 #[.pointer (some ⟨y, 0, none⟩), .int .i64 e] w fun x w' => x = .returned (.int .i64 (finC Q e)) ∧ Two X Z B w' b y P (finP Q e) ∧ KeptS (frm B Z) w w' := by
  obtain ⟨S, T, h1, ⟨eb, ec, ea, bv, ov, Y, V, E, h2⟩, h3, h4, h5⟩ := h
  refine (fin_r h2 e hlen).mono fun x w' ⟨e1, e2, e3⟩ => ?_
  obtain ⟨g1, g2⟩ := rstep h1 h3 h4 h5 hB hZ e2 e3
  exact ⟨e1, g1, g2⟩
theorem close_p2 (h : Two X Z B w b y P Q) (hB : B ≤ w.heap.size) (hX : ∀ k, X k → k < w.heap.size) (e : Int) (hlen : P.ou.length ≤ 1900000000000) : Calls Try.prog 15 #[.pointer (some ⟨b, 0, none⟩), .int .i64 e] w fun x w' => x = .returned (.int .i64 (closeC P e)) ∧ Two X Z B w' b y (closeP P e) Q ∧ KeptS (frm B X) w w' := by
  obtain ⟨S, T, ⟨eb, gv, ov, R, G, h1⟩, h2, h3, h4, h5⟩ := h
  refine (close_at h1 e hlen).mono fun x w' ⟨e1, e2, e3⟩ => ?_
  obtain ⟨g1, g2⟩ := pstep h2 h3 h4 h5 hB hX e2 e3 none 0 (fun bl o e => (no_blk bl o e).elim)
  exact ⟨e1, g1.nozb, g2⟩
theorem close_r2 (h : Two X Z B w b y P Q) (hB : B ≤ w.heap.size) (hZ : ∀ k, Z k → k < w.heap.size) (e : Int) (hlen : Q.ou.length ≤ 1900000000000) : Calls Try.prog 61 #[.pointer (some ⟨y, 0, none⟩), .int .i64 e] w fun x w' => x = .returned (.int .i64 (closeC Q e)) ∧ Two X Z B w' b y P (closeP Q e) ∧ KeptS (frm B Z) w w' := by
  obtain ⟨S, T, h1, ⟨eb, ec, ea, bv, ov, Y, V, E, h2⟩, h3, h4, h5⟩ := h
  refine (close_r h2 e hlen).mono fun x w' ⟨e1, e2, e3⟩ => ?_
  obtain ⟨g1, g2⟩ := rstep h1 h3 h4 h5 hB hZ e2 e3
  exact ⟨e1, g1, g2⟩
theorem dial_p2 (h : Two X Z B w b y P Q) (hB : B ≤ w.heap.size) (hX : ∀ k, X k → k < w.heap.size) (d : De) (hnm : d.nm.size ≤ maxLen) (hlen : P.ou.length ≤ 1900000000000) : Calls Try.prog 36 #[.pointer (some ⟨b, 0, none⟩), .agg #[.int .u8 d.a1, .int .u8 d.a2, .int .u8 d.a3, .int .u8 d.a4, .string d.nm, .int .i64 d.po]] w fun x w' => x = .returned (.tuple #[.int .i64 (dialN P d), .int .i64 (dialC P d)]) ∧ Two X Z B w' b y (dialP P d) Q ∧ KeptS (frm B X) w w' := by
  obtain ⟨S, T, ⟨eb, gv, ov, R, G, h1⟩, h2, h3, h4, h5⟩ := h
  refine (dial_at h1 hlen d hnm).mono fun x w' ⟨e1, e2, e3⟩ => ?_
  obtain ⟨g1, g2⟩ := pstep h2 h3 h4 h5 hB hX e2 e3 none 0 (fun bl o e => (no_blk bl o e).elim)
  exact ⟨e1, g1.nozb, g2⟩
theorem dial_r2 (h : Two X Z B w b y P Q) (hB : B ≤ w.heap.size) (hZ : ∀ k, Z k → k < w.heap.size) (d : De) (hnm : d.nm.size ≤ maxLen) (hlen : Q.ou.length ≤ 1900000000000) : Calls Try.prog 62 #[.pointer (some ⟨y, 0, none⟩), .agg #[.int .u8 d.a1, .int .u8 d.a2, .int .u8 d.a3, .int .u8 d.a4, .string d.nm, .int .i64 d.po]] w fun x w' => x = .returned (.tuple #[.int .i64 (dialN Q d), .int .i64 (dialC Q d)]) ∧ Two X Z B w' b y P (dialP Q d) ∧ KeptS (frm B Z) w w' := by
  obtain ⟨S, T, h1, ⟨eb, ec, ea, bv, ov, Y, V, E, h2⟩, h3, h4, h5⟩ := h
  refine (dial_r h2 hlen d hnm).mono fun x w' ⟨e1, e2, e3⟩ => ?_
  obtain ⟨g1, g2⟩ := rstep h1 h3 h4 h5 hB hZ e2 e3
  exact ⟨e1, g1, g2⟩
theorem post_p2 (h : Two X Z B w b y P Q) (hB : B ≤ w.heap.size) (hX : ∀ k, X k → k < w.heap.size) (a : Option Addr) (n cp : Nat) (l : List Int) (hsrc : Src w a n cp l) (hlen : P.ou.length ≤ 1900000000000) : Calls Try.prog 16 #[.pointer (some ⟨b, 0, none⟩), .slice a n cp] w fun x w' => x = .returned (.int .i64 (postC n)) ∧ Two X Z B w' b y (postP P l) Q ∧ KeptS (frm B X) w w' := by
  obtain ⟨S, T, ⟨eb, gv, ov, R, G, h1⟩, h2, h3, h4, h5⟩ := h
  refine (post_at h1 hlen a n cp l hsrc).mono fun x w' ⟨e1, e2, e3⟩ => ?_
  obtain ⟨g1, g2⟩ := pstep h2 h3 h4 h5 hB hX e2 e3 none 0 (fun bl o e => (no_blk bl o e).elim)
  exact ⟨e1, g1.nozb, g2⟩
theorem post_r2 (h : Two X Z B w b y P Q) (hB : B ≤ w.heap.size) (hZ : ∀ k, Z k → k < w.heap.size) (a : Option Addr) (n cp : Nat) (l : List Int) (hsrc : Src w a n cp l) (hlen : Q.ou.length ≤ 1900000000000) : Calls Try.prog 64 #[.pointer (some ⟨y, 0, none⟩), .slice a n cp] w fun x w' => x = .returned (.int .i64 (postC n)) ∧ Two X Z B w' b y P (postP Q l) ∧ KeptS (frm B Z) w w' := by
  obtain ⟨S, T, h1, ⟨eb, ec, ea, bv, ov, Y, V, E, h2⟩, h3, h4, h5⟩ := h
  refine (post_r h2 hlen a n cp l hsrc).mono fun x w' ⟨e1, e2, e3⟩ => ?_
  obtain ⟨g1, g2⟩ := rstep h1 h3 h4 h5 hB hZ e2 e3
  exact ⟨e1, g1, g2⟩
theorem send_p2 (h : Two X Z B w b y P Q) (hB : B ≤ w.heap.size) (hX : ∀ k, X k → k < w.heap.size) (e : Int) (a : Option Addr) (n cp : Nat) (l : List Int) (hsrc : Src w a n cp l) (ha : ∀ g o, a = some ⟨g, o, none⟩ → X g) (hlen : P.ou.length ≤ 1900000000000) : Calls Try.prog 29 #[.pointer (some ⟨b, 0, none⟩), .int .i64 e, .slice a n cp] w fun x w' => x = .returned (.int .i64 (sendT P e n : Nat)) ∧ Two X Z B w' b y (sendP P e l) Q ∧ KeptS (frm B X) w w' := by
  obtain ⟨S, T, ⟨eb, gv, ov, R, G, h1⟩, h2, h3, h4, h5⟩ := h
  refine (send_at h1 e hlen a n cp l hsrc (fun g o e0 _ e1 => (h4 eb h1.se).2 (e1 ▸ ha g o e0))).mono fun x w' ⟨e1, e2, e3⟩ => ?_
  obtain ⟨g1, g2⟩ := pstep h2 h3 h4 h5 hB hX e2 e3 none 0 (fun bl o e => (no_blk bl o e).elim)
  exact ⟨e1, g1.nozb, g2⟩
theorem send_r2 (h : Two X Z B w b y P Q) (hB : B ≤ w.heap.size) (hZ : ∀ k, Z k → k < w.heap.size) (e : Int) (a : Option Addr) (n cp : Nat) (l : List Int) (hsrc : Src w a n cp l) (ha : ∀ g o, a = some ⟨g, o, none⟩ → Z g) (hlen : Q.ou.length ≤ 1900000000000) : Calls Try.prog 59 #[.pointer (some ⟨y, 0, none⟩), .int .i64 e, .slice a n cp] w fun x w' => x = .returned (.int .i64 (sendT Q e n : Nat)) ∧ Two X Z B w' b y P (sendP Q e l) ∧ KeptS (frm B Z) w w' := by
  obtain ⟨S, T, h1, ⟨eb, ec, ea, bv, ov, Y, V, E, h2⟩, h3, h4, h5⟩ := h
  obtain ⟨eb, h2, hoff⟩ : ∃ eb, IsRP w T y eb ec ea bv ov Y V E Q ∧ ∀ g o, a = some ⟨g, o, none⟩ → 0 < n → g ≠ eb := by
    by_cases h0 : 0 < Q.L.length
    · exact ⟨eb, h2, fun g o e0 _ e1 => (h5 eb (h2.row h0).2.2).2 (e1 ▸ ha g o e0)⟩
    · cases a with
      | none => exact ⟨eb, h2, fun g o e0 => by cases e0⟩
      | some x => exact ⟨x.block + 1, ⟨h2.head, h2.cap, fun h => absurd h h0, h2.ring, h2.inj, h2.box, h2.bx, h2.ou, h2.ok, h2.lt, h2.sy, h2.sr, h2.so⟩, fun g o e0 _ => by simp at e0; subst e0; simp⟩
  refine (send_r h2 e hlen a n cp l hsrc hoff).mono fun x w' ⟨e1, e2, e3⟩ => ?_
  obtain ⟨g1, g2⟩ := rstep h1 h3 h4 h5 hB hZ e2 e3
  exact ⟨e1, g1, g2⟩
theorem takeL_len {S : Nat → Prop} {b eb : Nat} {gv ov : Value} {R G : Nat → Nat} (h : IsPort w S b eb gv ov R G P) (e n : Int) : (takeL P e n).length ≤ 65536 ∧ ∀ x ∈ takeL P e n, 0 ≤ x ∧ x < 256 := by
  unfold takeL qN
  cases hs : str_ P e
  · simp
  · simp only [if_true]
    have hb := h.bytes (str_lt hs).1
    refine ⟨?_, fun x hx => hb.1 x (List.mem_of_mem_take hx)⟩
    have := hb.2
    rw [List.length_take]; omega
theorem take_p2 (h : Two X Z B w b y P Q) (hB : B ≤ w.heap.size) (hX : ∀ k, X k → k < w.heap.size) (e n : Int) : Calls Try.prog 14 #[.pointer (some ⟨b, 0, none⟩), .int .i64 e, .int .i64 n] w fun x w' => ∃ a c, x = .returned (.slice a (takeL P e n).length c) ∧ Src w' a (takeL P e n).length c (takeL P e n) ∧ Two X (fun k => Z k ∨ blk a (takeL P e n).length k) B w' b y (takeP P e n) Q ∧ KeptS (frm B X) w w' := by
  obtain ⟨S, T, ⟨eb, gv, ov, R, G, h1⟩, h2, h3, h4, h5⟩ := h
  have hl := takeL_len h1 e n
  refine (take_at h1 e n).mono fun x w' ⟨v, e0, e1, e2, e3⟩ => ?_
  obtain ⟨a, c, rfl, hs, hlo⟩ := e1.src (by unfold maxLen; omega) hl.2
  obtain ⟨g1, g2⟩ := pstep h2 h3 h4 h5 hB hX e2 e3 a (takeL P e n).length (fun bl o e => Or.inr (hlo bl o e))
  exact ⟨a, c, e0, hs, g1, g2⟩
theorem take_r2 (h : Two X Z B w b y P Q) (hB : B ≤ w.heap.size) (hZ : ∀ k, Z k → k < w.heap.size) (e n : Int) : Calls Try.prog 57 #[.pointer (some ⟨y, 0, none⟩), .int .i64 e, .int .i64 n] w fun x w' => ∃ a c, x = .returned (.slice a (takeL Q e n).length c) ∧ Src w' a (takeL Q e n).length c (takeL Q e n) ∧ Two X Z B w' b y P (takeP Q e n) ∧ KeptS (frm B Z) w w' := by
  obtain ⟨S, T, h1, ⟨eb, ec, ea, bv, ov, Y, V, E, h2⟩, h3, h4, h5⟩ := h
  refine (take_r h2 e n).mono fun x w' ⟨a, c, e0, e1, e2, e3⟩ => ?_
  obtain ⟨g1, g2⟩ := rstep h1 h3 h4 h5 hB hZ e2 e3
  exact ⟨a, c, e0, e1, g1, g2⟩
theorem gram_p2 (h : Two X Z B w b y P P) (hB : B ≤ w.heap.size) (hX : ∀ k, X k → k < w.heap.size) : Calls Try.prog 34 #[.pointer (some ⟨b, 0, none⟩)] w fun x w' => ∃ a c, x = .returned (.tuple #[.slice a (gramL P).size c, .int .i64 (gramC P)]) ∧ Src w' a (gramL P).size c (bi (gramL P)) ∧ Two X (fun k => Z k ∨ blk a (gramL P).size k) B w' b y (gramP P) P ∧ KeptS (frm B X) w w' := by
  obtain ⟨S, T, ⟨eb, gv, ov, R, G, h1⟩, h2, h3, h4, h5⟩ := h
  refine (gram_at h1 h2.gram).mono fun x w' ⟨a, c, e0, hs, hlo, e2, e3⟩ => ?_
  obtain ⟨g1, g2⟩ := pstep h2 h3 h4 h5 hB hX e2 e3 a (gramL P).size (fun bl o e => Or.inr (hlo bl o e))
  exact ⟨a, c, e0, hs, g1, g2⟩
theorem gram_r2 (h : Two X Z B w b y P Q) (hB : B ≤ w.heap.size) (hZ : ∀ k, Z k → k < w.heap.size) : Calls Try.prog 63 #[.pointer (some ⟨y, 0, none⟩)] w fun x w' => ∃ a c, x = .returned (.tuple #[.slice a (gramL Q).size c, .int .i64 (gramC Q)]) ∧ Src w' a (gramL Q).size c (bi (gramL Q)) ∧ Two X Z B w' b y P (gramP Q) ∧ KeptS (frm B Z) w w' := by
  obtain ⟨S, T, h1, ⟨eb, ec, ea, bv, ov, Y, V, E, h2⟩, h3, h4, h5⟩ := h
  refine (gram_r h2).mono fun x w' ⟨a, c, e0, e1, e2, e3⟩ => ?_
  obtain ⟨g1, g2⟩ := rstep h1 h3 h4 h5 hB hZ e2 e3
  exact ⟨a, c, e0, e1, g1, g2⟩
theorem outs_p2 (h : Two X Z B w b y P Q) (hB : B ≤ w.heap.size) (hX : ∀ k, X k → k < w.heap.size) : Calls Try.prog 22 #[.pointer (some ⟨b, 0, none⟩)] w fun x w' => ∃ a c, x = .returned (.slice a P.ou.length c) ∧ SrcO w' a P.ou.length c P.ou ∧ Two X (fun k => Z k ∨ blk a P.ou.length k) B w' b y (outsP P) Q ∧ KeptS (frm B X) w w' := by
  obtain ⟨S, T, ⟨eb, gv, ov, R, G, h1⟩, h2, h3, h4, h5⟩ := h
  refine (outs_at h1).mono ?_
  rintro x w' ⟨rfl, ho, e2, e3⟩
  have hso := h1.so
  obtain ⟨a, c, rfl, hs⟩ := own_srcO ho
  obtain ⟨g1, g2⟩ := pstep h2 h3 h4 h5 hB hX e2 e3 a P.ou.length (fun bl o e => Or.inl (hso bl (by subst e; rfl)))
  exact ⟨a, c, rfl, hs, g1, g2⟩
theorem outs_r2 (h : Two X Z B w b y P Q) (hB : B ≤ w.heap.size) (hZ : ∀ k, Z k → k < w.heap.size) : Calls Try.prog 23 #[.pointer (some ⟨y, 0, none⟩)] w fun x w' => ∃ a c, x = .returned (.slice a Q.ou.length c) ∧ SrcO w' a Q.ou.length c Q.ou ∧ Two X Z B w' b y P (outsP Q) ∧ KeptS (frm B Z) w w' := by
  obtain ⟨S, T, h1, ⟨eb, ec, ea, bv, ov, Y, V, E, h2⟩, h3, h4, h5⟩ := h
  refine (outs_r h2).mono fun x w' ⟨a, c, e0, e1, e2, e3⟩ => ?_
  obtain ⟨g1, g2⟩ := rstep h1 h3 h4 h5 hB hZ e2 e3
  exact ⟨a, c, e0, e1, g1, g2⟩
theorem Src.keepS {F : Nat → Prop} {w w' : World} {a : Option Addr} {n c : Nat} {l : List Int} (h : Src w a n c l) (k : KeptS F w w') (ha : ∀ g o, 0 < n → a = some ⟨g, o, none⟩ → ¬ F g) : Src w' a n c l :=
  h.keep (fun g o e h0 => k.block g (h.lt h0 e) (ha g o h0 e))
theorem SrcO.keepS {F : Nat → Prop} {w w' : World} {a : Option Addr} {n c : Nat} {l : List Ot} (h : SrcO w a n c l) (k : KeptS F w w') (ha : ∀ g o, 0 < n → a = some ⟨g, o, none⟩ → ¬ F g) : SrcO w' a n c l := by
  refine ⟨h.hlen, h.hcap, h.hmax, fun h0 => ?_⟩
  obtain ⟨b, o, e, hb, hr⟩ := h.lies h0
  exact ⟨b, o, e, Nat.lt_of_lt_of_le hb k.size, fun i hi j v hv => (World.cell?_of_block (a := ⟨b, o + i * 10 + j, none⟩) (k.block b hb (ha b o h0 e))).trans (hr i hi j v hv)⟩
theorem frm_blk {B n : Nat} {a : Option Addr} : ∀ g o, 0 < n → a = some ⟨g, o, none⟩ → ¬ frm B (fun k => Z k ∨ blk a n k) g := fun g o h0 e h => h.2 (Or.inr ⟨h0, o, e⟩)
theorem Src.ltZ {w : World} {a : Option Addr} {n c : Nat} {l : List Int} (h : Src w a n c l) (hZ : ∀ k, Z k → k < w.heap.size) : ∀ k, (Z k ∨ blk a n k) → k < w.heap.size := fun k hk => hk.elim (hZ k) (fun ⟨h0, o, e⟩ => h.lt h0 e)
theorem SrcO.ltZ {w : World} {a : Option Addr} {n c : Nat} {l : List Ot} (h : SrcO w a n c l) (hZ : ∀ k, Z k → k < w.heap.size) : ∀ k, (Z k ∨ blk a n k) → k < w.heap.size := fun k hk => hk.elim (hZ k) (fun ⟨h0, o, e⟩ => by
  obtain ⟨b, o', e', hb, _⟩ := h.lies h0
  rw [e] at e'
  simp only [Option.some.injEq, Addr.mk.injEq, and_true] at e'
  rw [e'.1]; exact hb)
end Go.Proofs.Ytjojhnkibgkleaa
