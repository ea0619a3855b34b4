/-
  A walk along a name of a message: where it stands in memory, and endPiece, lead; conditions as each theorem has them.
-/
import Derived.Test.YtabkelhipmijfaaGreatDoorS
import Derived.Test.YtabkelhipmijfaaGreatDoorJoined3
set_option linter.unusedSimpArgs false
set_option linter.unusedVariables false
namespace Go.Proofs.YtabkelhipmijfaaGreatDoor
open Go.RowKit

/-- The block g is a walk along the name that begins at A: it stands at p in the piece that begins at q, with the labels t so far. -/
structure Wlk (w : World) (B g A : Nat) (a : Option Addr) (n c : Nat) (b : List Nat) (q p bh : Nat) (t : List Nat) (o : Bool) (e : Er) : Prop where
  row : ∃ v u, Row w g 215 [.slice a n c, .int .i64 (p : Nat), v, .int .i64 (A : Nat), .int .i64 (q : Nat), .int .i64 (bh : Nat), u, .bool o] ∧ IsF w e v ∧ Own w B 5 u (nums .u8 t)
  src : Src w a n c b
  hg : B ≤ g
  sB : 0 < n → ∀ bl of, a = some ⟨bl, of, none⟩ → bl < B
  tb : ∀ x ∈ t, x < 256
  tl : t.length ≤ 1000
  rp : p < 9223372036854775808
  rA : A < 9223372036854775808
  rq : q < 9223372036854775808
  rbh : bh < 9223372036854775808
  va : Vars w
  b0 : 0 < B
section
variable {w w' : World} {B g A : Nat} {a : Option Addr} {n c : Nat} {b : List Nat} {q p bh : Nat} {t : List Nat} {o : Bool} {e : Er}
theorem Wlk.block (h : Wlk w B g A a n c b q p bh t o e) : g < w.heap.size := by obtain ⟨v, u, h1, _⟩ := h.row; exact h1.lt
theorem Wlk.hBs (h : Wlk w B g A a n c b q p bh t o e) : B ≤ w.heap.size := by have := h.block; have := h.hg; omega
theorem Wlk.off (h : Wlk w B g A a n c b q p bh t o e) : Off a n g := fun h0 bl of e => by have := h.sB h0 bl of e; have := h.hg; omega
theorem Vars.below' {B : Nat} (h : Vars w) (k : Below B w w') (h0 : 0 < B) : Vars w' := by
  obtain ⟨m, hm⟩ := h
  exact ⟨m, (World.cell?_of_block (k.block 0 h0)).trans hm⟩
theorem Vars.kept (h : Vars w) (k : Kept g g w w') (h0 : 0 < g) : Vars w' := by
  obtain ⟨m, hm⟩ := h
  exact ⟨m, (World.cell?_of_block (k.block 0 (lt_of_cell (a := ⟨0, 0, none⟩) hm) (by omega) (by omega))).trans hm⟩
theorem Own.kept {B : Nat} {v : Value} {xs : List Value} {C : List Value} {ty : TypeId} (h : Own w B 5 v xs) (hr : Row w g ty C) (ht : ty ≠ 5) (k : Kept g g w w') : Own w' B 5 v xs :=
  h.keep fun x hx => by
    obtain ⟨_, cur, hh⟩ := h.block hx
    have : x ≠ g := fun e => by subst e; unfold Row at hr; rw [hh] at hr; simp at hr; exact ht hr.2.symm
    exact k.block x (lt_of_some hh) this this
theorem below_of_drew {B : Nat} {w w' : World} (h : Below B w.drew w') : Below B w w' := ⟨h.os, h.tape, h.output, h.size, h.block⟩
/-- The reader of a walk, and the walk of a reader. -/
theorem Wlk.rdr (h : Wlk w B g A a n c b q p bh t o e) : ∃ u, Rdr w g 215 [.int .i64 (A : Nat), .int .i64 (q : Nat), .int .i64 (bh : Nat), u, .bool o] a n c b (p, e) ∧ Own w B 5 u (nums .u8 t) := by
  obtain ⟨v, u, h1, h2, h3⟩ := h.row
  exact ⟨u, ⟨⟨v, h1, h2⟩, h.src, h.off, by decide, h.rp⟩, h3⟩
theorem Wlk.of_rdr (h : Wlk w B g A a n c b q p bh t o e) {u : Value} {s : Sr} (ho : Own w B 5 u (nums .u8 t)) (r : Rdr w' g 215 [.int .i64 (A : Nat), .int .i64 (q : Nat), .int .i64 (bh : Nat), u, .bool o] a n c b s) (k : Kept g g w w') : Wlk w' B g A a n c b q s.1 bh t o s.2 ∧ Below B w w' := by
  obtain ⟨v, u', h1, h2, h3⟩ := h.row
  obtain ⟨⟨v', g1, g2⟩, g3, g4, g5, g6⟩ := r
  have kb := k.below h.hg h.hg h.hBs
  exact ⟨⟨⟨v', u, g1, g2, ho.kept h1 (by decide) k⟩, g3, h.hg, h.sB, h.tb, h.tl, g6, h.rA, h.rq, h.rbh, h.va.below' kb h.b0, h.b0⟩, kb⟩
/-- Some cells of its own are set. -/
theorem Wlk.upd (h : Wlk w B g A a n c b q p bh t o e) (k : Kept g g w w') (q' p' bh' : Nat) (o' : Bool)
    (hr : ∀ v u, Row w g 215 [.slice a n c, .int .i64 (p : Nat), v, .int .i64 (A : Nat), .int .i64 (q : Nat), .int .i64 (bh : Nat), u, .bool o] → Row w' g 215 [.slice a n c, .int .i64 (p' : Nat), v, .int .i64 (A : Nat), .int .i64 (q' : Nat), .int .i64 (bh' : Nat), u, .bool o'])
    (h1 : p' < 9223372036854775808) (h2 : q' < 9223372036854775808) (h3 : bh' < 9223372036854775808) : Wlk w' B g A a n c b q' p' bh' t o' e ∧ Below B w w' := by
  obtain ⟨v, u, g1, g2, g3⟩ := h.row
  have kb := k.below h.hg h.hg h.hBs
  exact ⟨⟨⟨v, u, hr v u g1, g2.kept g1 (by decide) k, g3.kept g1 (by decide) k⟩, h.src.kept k h.off, h.hg, h.sB, h.tb, h.tl, h1, h.rA, h2, h3, h.va.below' kb h.b0, h.b0⟩, kb⟩
theorem Wlk.drew (h : Wlk w B g A a n c b q p bh t o e) : Wlk w.drew B g A a n c b q p bh t o e := by
  obtain ⟨v, u, g1, g2, g3⟩ := h.row
  exact ⟨⟨v, u, g1, g2.keep fun _ _ _ => rfl, g3.drew⟩, h.src.drew, h.hg, h.sB, h.tb, h.tl, h.rp, h.rA, h.rq, h.rbh, h.va, h.b0⟩
end

set_option maxHeartbeats 1000000 in
theorem endPiece_at (B g A : Nat) (a : Option Addr) (n c : Nat) (b : List Nat) (q p bh : Nat) (t : List Nat) (o : Bool) (e : Er) (w : World) (h : Wlk w B g A a n c b q p bh t o e) :
    Calls Tryz.prog 143 #[.pointer (some ⟨g, 0, none⟩)] w fun x w' => x = .returned (.tuple #[]) ∧ Wlk w' B g A a n c b q p (if q = A then p else bh) t o e ∧ Below B w w' := by
  have H := hide h
  obtain ⟨v, u, h1, _⟩ := h.row
  have hgs := h1.lt
  have c1 : w.cell? ⟨g, 1, none⟩ = some (.int .i64 (p : Nat)) := h1.cell 1
  have c3 : w.cell? ⟨g, 3, none⟩ = some (.int .i64 (A : Nat)) := h1.cell 3
  have c4 : w.cell? ⟨g, 4, none⟩ = some (.int .i64 (q : Nat)) := h1.cell 4
  have c5 : w.cell? ⟨g, 5, none⟩ = some (.int .i64 (bh : Nat)) := h1.cell 5
  have f5 := h1.frozen 5
  by_cases hq : q = A
  · have HN := hide (h.upd ((Kept.refl g g w).set 5 (.int .i64 (p : Nat))) q p p o (fun v u r => by simpa using r.set 5 (.int .i64 (p : Nat))) h.rp h.rq h.rp)
    rw [if_pos hq]
    have hb : ((q : Int) == (A : Int)) = true := by simp [hq]
    clear h h1 hq
    go_enter Tryz.func143, Tryz.ntmps143
    go_wp2_with fail
    go_region
    go_wp2_with fail
    go_end0
    exact ⟨rfl, HN.out.1.drew, HN.out.2.drew⟩
  · rw [if_neg hq]
    have hb : ((q : Int) == (A : Int)) = false := by simp; omega
    clear h h1 hq
    go_enter Tryz.func143, Tryz.ntmps143
    go_wp2_with fail
    go_region
    go_wp2_with fail
    go_end0
    exact ⟨rfl, H.out.drew, (Below.refl _ _).drew⟩

/-- What is told of a walk that leads to a place. -/
def ldE (q p zz : Nat) (e : Er) : Er := if q ≤ zz then (stp (p - 2) 100 (p, e)).2 else e
/-- Where it led, laid into the walk. -/
theorem Wlk.led {w : World} {B g A : Nat} {a : Option Addr} {n c : Nat} {b : List Nat} {q p bh : Nat} {t : List Nat} {o : Bool} {e : Er} (h : Wlk w B g A a n c b q p bh t o e) (zz : Nat) (hz : zz < 65536) :
    w.cell? ⟨g, 1, none⟩ = some (.int .i64 (p : Nat)) ∧ w.cell? ⟨g, 4, none⟩ = some (.int .i64 (q : Nat)) ∧ w.frozen? ⟨g, 1, none⟩ = false ∧ w.frozen? ⟨g, 4, none⟩ = false ∧ (w.setCell ⟨g, 1, none⟩ (.int .i64 (zz : Nat))).frozen? ⟨g, 4, none⟩ = false ∧ g < w.heap.size ∧
    Wlk ((w.setCell ⟨g, 1, none⟩ (.int .i64 (zz : Nat))).setCell ⟨g, 4, none⟩ (.int .i64 (zz : Nat))) B g A a n c b zz zz bh t o e ∧ Below B w ((w.setCell ⟨g, 1, none⟩ (.int .i64 (zz : Nat))).setCell ⟨g, 4, none⟩ (.int .i64 (zz : Nat))) := by
  obtain ⟨v, u, h1, _⟩ := h.row
  exact ⟨h1.cell 1, h1.cell 4, h1.frozen 1, h1.frozen 4, (h1.set 1 _).frozen 4, h1.lt, h.upd (((Kept.refl g g w).set 1 (.int .i64 (zz : Nat))).set 4 (.int .i64 (zz : Nat))) zz zz _ o (fun v u r => by simpa using (r.set 1 (.int .i64 (zz : Nat))).set 4 (.int .i64 (zz : Nat))) (by omega) (by omega) h.rbh⟩
set_option maxHeartbeats 1000000 in
theorem lead_at (B g A : Nat) (a : Option Addr) (n c : Nat) (b : List Nat) (q p bh : Nat) (t : List Nat) (o : Bool) (e : Er) (zz : Nat) (w : World) (h : Wlk w B g A a n c b q p bh t o e) (hz : zz < 65536) (h2 : e = .ok → 2 ≤ p) :
    Calls Tryz.prog 134 #[.pointer (some ⟨g, 0, none⟩), .int .i64 (zz : Nat)] w fun x w' => x = .returned (.tuple #[]) ∧ Wlk w' B g A a n c b zz zz (if q = A then p else bh) t o (ldE q p zz e) ∧ Below B w w' := by
  have HE := hide (endPiece_at B g A a n c b q p bh t o e w h)
  have H2 := hide h2
  obtain ⟨bh', hbh⟩ : ∃ x, x = if q = A then p else bh := ⟨_, rfl⟩
  obtain ⟨e', he'⟩ : ∃ x, x = ldE q p zz e := ⟨_, rfl⟩
  rw [← hbh] at HE ⊢
  rw [← he']
  have HL := hide he'
  clear h h2 hbh he'
  go_enter Tryz.func134, Tryz.ntmps134
  go_wp2_with fail
  refine HE.out.mono ?_
  rintro x w1 ⟨rfl, r1, k1⟩
  have R1 := hide r1
  have K1 := hide k1
  have hrp := r1.rp
  have hrq := r1.rq
  obtain ⟨v, u, h1, _⟩ := r1.row
  have hgs := h1.lt
  have c1 : w1.cell? ⟨g, 1, none⟩ = some (.int .i64 (p : Nat)) := h1.cell 1
  have c4 : w1.cell? ⟨g, 4, none⟩ = some (.int .i64 (q : Nat)) := h1.cell 4
  have e1 : (stp (p - 2) 100 (p, e)).1 = p := by unfold stp; split <;> rfl
  by_cases hq : q ≤ zz
  · have hd : decide ((q : Int) ≤ (zz : Int)) = true := decide_eq_true (by omega)
    have hd' : decide (q ≤ zz) = true := decide_eq_true (by omega)
    obtain ⟨u', rd, ow⟩ := r1.drew.rdr
    have HS := hide (stop_at g 215 _ a n c b (p, e) ((p : Int) - 2) (p - 2) 100 w1.drew rd (fun ho => by have := H2.out ho; omega))
    rw [show ((100 : Nat) : Int) = 100 from rfl] at HS
    have hwr : IntKind.i64.wrap ((p : Int) - 2) = (p : Int) - 2 := by rw [IntKind.wrap_i64]; omega
    have HZ : Hid (∀ w2, Rdr w2 g 215 [.int .i64 (A : Nat), .int .i64 (q : Nat), .int .i64 (bh' : Nat), u', .bool o] a n c b (stp (p - 2) 100 (p, e)) → Kept g g w1.drew w2 → Wlk w2 B g A a n c b q p bh' t o e' ∧ Below B w w2) := fun w2 rd2 k2 => by
      have hw := r1.drew.of_rdr ow rd2 k2
      rw [e1] at hw
      have : e' = (stp (p - 2) 100 (p, e)).2 := by rw [HL.out]; unfold ldE; rw [if_pos hq]
      rw [this]
      exact ⟨hw.1, k1.trans (below_of_drew hw.2)⟩
    clear r1 k1 h1 rd ow HE e1
    go_wp2_with fail
    go_region_with (first | (go_at_call 105; refine HS.out.mono ?_; rintro x w2 ⟨rfl, rd2, k2⟩; have HW := hide (HZ.out w2 rd2 k2); clear rd2 k2))
    all_goals (obtain ⟨y1, y4, d1, d4, d5, d6, d7⟩ := HW.out.1.led zz hz; have HU := hide d7; clear d7 c1 c4)
    all_goals (try go_wp2_with fail)
    all_goals go_end0
    all_goals exact ⟨rfl, HU.out.1, HW.out.2.trans HU.out.2⟩
  · have hd : decide ((q : Int) ≤ (zz : Int)) = false := decide_eq_false (by omega)
    have hd' : decide (q ≤ zz) = false := decide_eq_false (by omega)
    obtain ⟨y1, y4, d1, d4, d5, d6, d7⟩ := r1.led zz hz
    have HU := hide d7
    have HL2 : Hid (e' = e) := by show _ = _; rw [HL.out]; unfold ldE; rw [if_neg hq]
    clear r1 k1 h1 HE d7
    go_wp2_with fail
    go_end0
    rw [HL2.out]
    exact ⟨rfl, HU.out.1, K1.out.trans HU.out.2⟩
end Go.Proofs.YtabkelhipmijfaaGreatDoor
