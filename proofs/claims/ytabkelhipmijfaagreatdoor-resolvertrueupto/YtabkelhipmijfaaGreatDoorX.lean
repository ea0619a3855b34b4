/-
  A walk along a name: a label; conditions as each theorem has them.
-/
import Derived.Test.YtabkelhipmijfaaGreatDoorW
import Derived.Test.YtabkelhipmijfaaGreatDoorJoined3
set_option linter.unusedSimpArgs false
set_option linter.unusedVariables false
namespace Go.Proofs.YtabkelhipmijfaaGreatDoor
open Go.RowKit

/-- What a label makes of a walk. -/
def lbB (b : List Nat) (p size : Nat) : List Nat := if (tk b size (p, .ok)).2 = .ok then pc b p size else []
def lbE2 (b : List Nat) (at_ p size : Nat) : Er := if labB (lbB b p size) = true then (tk b size (p, .ok)).2 else (stp at_ 61 (tk b size (p, .ok))).2
def lbE (b : List Nat) (A at_ p size : Nat) (t : List Nat) : Er := if 253 < (tx t (lbB b p size)).length then (stp A 63 ((tk b size (p, .ok)).1, lbE2 b at_ p size)).2 else lbE2 b at_ p size
theorem lbB_len (b : List Nat) (p size : Nat) : (lbB b p size).length ≤ size := by unfold lbB; split; unfold pc; rw [List.length_take]; omega; simp
theorem lbB_lt {b : List Nat} (h : ∀ x ∈ b, x < 256) (p size : Nat) : ∀ x ∈ lbB b p size, x < 256 := by
  unfold lbB
  split
  · intro x hx; exact h x (List.mem_of_mem_drop (List.mem_of_mem_take hx))
  · simp
section
variable {w w' : World} {B g A : Nat} {a : Option Addr} {n c : Nat} {b : List Nat} {q p bh : Nat} {t : List Nat} {o : Bool} {e : Er}
theorem Wlk.below (h : Wlk w B g A a n c b q p bh t o e) (k : Below w.heap.size w w') : Wlk w' B g A a n c b q p bh t o e := by
  obtain ⟨v, u, g1, g2, g3⟩ := h.row
  exact ⟨⟨v, u, g1.keep (k.block g g1.lt), g2.below k, g3.below k⟩, h.src.below k, h.hg, h.sB, h.tb, h.tl, h.rp, h.rA, h.rq, h.rbh, h.va.below k, h.b0⟩
theorem Src.belowB {B : Nat} {x : Option Addr} {l y : Nat} {bs : List Nat} (h : Src w x l y bs) (k : Below B w w') (ho : ∀ g', B ≤ g' → Off x l g') : Src w' x l y bs :=
  h.keep (fun h0 bl of e => k.block bl (by
    apply Decidable.byContradiction
    intro hn
    exact ho bl (by omega) h0 bl of e rfl)) k.size
/-- The text is appended to, and set. -/
theorem Wlk.put {u v v' : Value} {bs : List Nat} (h : Wlk w B g A a n c b q p bh t o e) (hr : Row w g 215 [.slice a n c, .int .i64 (p : Nat), v, .int .i64 (A : Nat), .int .i64 (q : Nat), .int .i64 (bh : Nat), u, .bool o]) (hf : IsF w e v) (hu : Own w B 5 u (nums .u8 t))
    (ho : Own w' B 5 v' (nums .u8 (t ++ bs))) (hb : Below B w w') (hx : But u w w') (htb : ∀ x ∈ bs, x < 256) (htl : (t ++ bs).length ≤ 1000) :
    Row w' g 215 [.slice a n c, .int .i64 (p : Nat), v, .int .i64 (A : Nat), .int .i64 (q : Nat), .int .i64 (bh : Nat), u, .bool o] ∧ Wlk (w'.setCell ⟨g, 6, none⟩ v') B g A a n c b q p bh (t ++ bs) o e ∧ Below B w (w'.setCell ⟨g, 6, none⟩ v') ∧ Row (w'.setCell ⟨g, 6, none⟩ v') g 215 [.slice a n c, .int .i64 (p : Nat), v, .int .i64 (A : Nat), .int .i64 (q : Nat), .int .i64 (bh : Nat), v', .bool o] ∧ IsF (w'.setCell ⟨g, 6, none⟩ v') e v ∧ Own (w'.setCell ⟨g, 6, none⟩ v') B 5 v' (nums .u8 (t ++ bs)) := by
  have hne : ∀ x, u.ownBlock = some x → x ≠ g := fun x hx' e => by
    obtain ⟨_, cur, hh⟩ := hu.block hx'
    subst e
    unfold Row at hr
    rw [hh] at hr
    simp at hr
  have r1 : Row w' g 215 [.slice a n c, .int .i64 (p : Nat), v, .int .i64 (A : Nat), .int .i64 (q : Nat), .int .i64 (bh : Nat), u, .bool o] := hr.keep (hx g hr.lt (fun e => hne g e rfl))
  have f1 : IsF w' e v := hf.keep fun bl C hbl => hx bl (lt_of_some hbl) (fun e => by
    obtain ⟨_, cur, hh⟩ := hu.block e
    rw [hh] at hbl
    simp at hbl)
  have r2 : Row (w'.setCell ⟨g, 6, none⟩ v') g 215 [.slice a n c, .int .i64 (p : Nat), v, .int .i64 (A : Nat), .int .i64 (q : Nat), .int .i64 (bh : Nat), v', .bool o] := by simpa using r1.set 6 v'
  have k2 : Kept g g w' (w'.setCell ⟨g, 6, none⟩ v') := (Kept.refl g g w').set 6 v'
  have b2 : Below B w' (w'.setCell ⟨g, 6, none⟩ v') := k2.below h.hg h.hg (Nat.le_trans h.hBs hb.size)
  refine ⟨r1, ⟨⟨v, v', r2, f1.kept r1 (by decide) k2, ho.kept r1 (by decide) k2⟩, ?_, h.hg, h.sB, ?_, htl, h.rp, h.rA, h.rq, h.rbh, (h.va.below' hb h.b0).below' b2 h.b0, h.b0⟩, hb.trans b2, r2, f1.kept r1 (by decide) k2, ho.kept r1 (by decide) k2⟩
  · exact h.src.belowB (hb.trans b2) (fun g' hg' h0 bl of e => by have := h.sB h0 bl of e; omega)
  · intro x hx'
    rcases List.mem_append.1 hx' with h' | h'
    · exact h.tb x h'
    · exact htb x h'
/-- What is told where something is wrong. -/
theorem Wlk.stop (h : Wlk w B g A a n c b q p bh t o e) (x : Int) (z k : Nat) (hz : e = .ok → x = (z : Nat)) :
    Calls Tryz.prog 105 #[.pointer (some ⟨g, 0, none⟩), .int .i64 x, .int .i64 (k : Nat)] w fun y w' => y = .returned (.tuple #[]) ∧ Wlk w' B g A a n c b q p bh t o (stp z k (p, e)).2 ∧ Below B w w' := by
  obtain ⟨u, rd, ow⟩ := h.rdr
  refine (stop_at g 215 _ a n c b (p, e) x z k w rd hz).mono ?_
  rintro y w' ⟨rfl, rd2, k2⟩
  have := h.of_rdr ow rd2 k2
  rw [show (stp z k (p, e)).1 = p by unfold stp; split <;> rfl] at this
  exact ⟨rfl, this⟩
end
theorem tx_ne {t l : List Nat} (h : t ≠ []) : tx t l = t ++ [46] ++ l := by unfold tx; rw [if_neg h]; simp
set_option maxRecDepth 100000 in
set_option maxHeartbeats 2000000 in
theorem label0_at (B g A : Nat) (a : Option Addr) (n c : Nat) (b : List Nat) (q p bh : Nat) (t : List Nat) (at_ : Nat) (w : World) (h : Wlk w B g A a n c b q p bh t false .ok) :
    Calls Tryz.prog 135 #[.pointer (some ⟨g, 0, none⟩), .int .i64 (at_ : Nat), .int .i64 0] w fun x w' => x = .returned (.tuple #[]) ∧ Wlk w' B g A a n c b q p (if q = A then p else bh) t true .ok ∧ Below B w w' := by
  have HE := hide (endPiece_at B g A a n c b q p bh t false .ok w h)
  obtain ⟨bh', hbh⟩ : ∃ x, x = if q = A then p else bh := ⟨_, rfl⟩
  rw [← hbh] at HE ⊢
  clear h hbh
  go_enter Tryz.func135, Tryz.ntmps135
  go_wp2_with fail
  refine HE.out.mono ?_
  rintro x w1 ⟨rfl, r1, k1⟩
  have K1 := hide k1
  obtain ⟨v, u, h1, _⟩ := r1.row
  have hgs := h1.lt
  have c7 : w1.cell? ⟨g, 7, none⟩ = some (.bool false) := h1.cell 7
  have f7 := h1.frozen 7
  have HU := hide (r1.upd ((Kept.refl g g w1).set 7 (.bool true)) q p bh' true (fun v u r => by simpa using r.set 7 (.bool true)) r1.rp r1.rq r1.rbh)
  clear r1 k1 h1 HE
  go_wp2_with fail
  refine bodyPost_ret (results_none rfl _ _ _) rfl ⟨rfl, HU.out.1, K1.out.trans HU.out.2⟩
set_option maxRecDepth 100000 in
set_option maxHeartbeats 4000000 in
theorem label_at (B g A : Nat) (a : Option Addr) (n c : Nat) (b : List Nat) (q p bh : Nat) (t : List Nat) (at_ size : Nat) (w : World) (h : Wlk w B g A a n c b q p bh t false .ok) (h0 : 0 < size) (h63 : size ≤ 63) (htl : t.length ≤ 253) :
    Calls Tryz.prog 135 #[.pointer (some ⟨g, 0, none⟩), .int .i64 (at_ : Nat), .int .i64 (size : Nat)] w fun x w' => x = .returned (.tuple #[]) ∧ Wlk w' B g A a n c b q (tk b size (p, .ok)).1 bh (tx t (lbB b p size)) false (lbE b A at_ p size t) ∧ Below B w w' := by
  obtain ⟨u, rd, ow⟩ := h.rdr
  have HT := hide (take_at g 215 _ a n c b (p, .ok) size w rd (by omega))
  have hoff : ∀ g', B ≤ g' → Off a n g' := fun g' hg' h0 bl of e => by have := h.sB h0 bl of e; omega
  obtain ⟨bs, hbs⟩ : ∃ bs, bs = lbB b p size := ⟨_, rfl⟩
  obtain ⟨sp, hsp⟩ : ∃ sp, sp = tk b size (p, .ok) := ⟨_, rfl⟩
  obtain ⟨E2, hE2⟩ : ∃ E2, E2 = lbE2 b at_ p size := ⟨_, rfl⟩
  obtain ⟨E3, hE3⟩ : ∃ E3, E3 = lbE b A at_ p size t := ⟨_, rfl⟩
  have dE2 : E2 = if labB bs = true then sp.2 else (stp at_ 61 sp).2 := by rw [hE2, lbE2, ← hbs, ← hsp]
  have dE3 : E3 = if 253 < (tx t bs).length then (stp A 63 (sp.1, E2)).2 else E2 := by rw [hE3, lbE, ← hbs, ← hE2, ← hsp]
  have hbl : bs.length ≤ 63 := by rw [hbs]; have := lbB_len b p size; omega
  have hbt : ∀ x ∈ bs, x < 256 := by rw [hbs]; exact lbB_lt h.src.byte p size
  have HZ : Hid (∀ w1 x l y, Rdr w1 g 215 [.int .i64 (A : Nat), .int .i64 (q : Nat), .int .i64 (bh : Nat), u, .bool false] a n c b sp → Kept g g w w1 → ((tk b size (p, .ok)).2 = .ok → l = size ∧ Src w1 x size y (pc b p size) ∧ ∀ g', Off a n g' → Off x size g') → ((tk b size (p, .ok)).2 ≠ .ok → x = none ∧ l = 0 ∧ y = 0) →
      Wlk w1 B g A a n c b q sp.1 bh t false sp.2 ∧ Below B w w1 ∧ Src w1 x l y bs ∧ ∀ g', B ≤ g' → Off x l g') := fun w1 x l y r k p1 p2 => by
    have hw := h.of_rdr ow r k
    refine ⟨hw.1, hw.2, ?_⟩
    by_cases hok : (tk b size (p, .ok)).2 = .ok
    · obtain ⟨rfl, s1, s2⟩ := p1 hok
      rw [hbs, lbB, if_pos hok]
      exact ⟨s1, fun g' hg' => s2 g' (hoff g' hg')⟩
    · obtain ⟨rfl, rfl, rfl⟩ := p2 hok
      rw [hbs, lbB, if_neg hok]
      exact ⟨Src.nilS _, fun g' _ h0 => by omega⟩
  have hz0 : ((size : Int) == 0) = false := by simp; omega
  have hA := h.rA
  rw [← hbs, ← hsp, ← hE3]
  rw [← hsp] at HT
  clear h rd ow hoff hbs hE2 hE3
  have HSP := hide hsp
  clear hsp
  have DE2 := hide dE2
  have DE3 := hide dE3
  clear dE2 dE3
  have hm : (strN bs).size ≤ 253 := by rw [strN_size]; omega
  have HBY : Hid (byt (strN bs) = bs) := byt_strN bs hbt
  have HTL := hide htl
  have HBL := hide hbl
  have HBT := hide hbt
  go_enter Tryz.func135, Tryz.ntmps135
  go_wp2_with fail
  refine HT.out.mono ?_
  rintro e w1 ⟨x, l, y, rfl, rd1, k1, z1, z2⟩
  obtain ⟨r1, b1, s1, o1⟩ := HZ.out w1 x l y rd1 k1 (by rw [← HSP.out]; exact z1) (by rw [← HSP.out]; exact z2)
  have R1 := hide r1
  have B1 := hide b1
  have S1 := hide s1
  have O1 := hide o1
  have q1 := run_str_src s1
  have HI := hide (isLabel_at (strN bs) w1 hm r1.va)
  rw [HBY.out] at HI
  clear rd1 k1 z1 z2 r1 b1 s1 o1 HT HZ hbl hbt htl hm
  go_wp2_with fail
  refine HI.out.mono ?_
  rintro e w2 ⟨rfl, k2⟩
  have r2 := R1.out.below k2
  have R2 := hide r2
  have B2 := hide (B1.out.trans (k2.mono R1.out.hBs))
  have S2 := hide (S1.out.below k2)
  clear k2 q1 HI
  cases hlab : labB bs with
  | true =>
    have HE2 : Hid (E2 = sp.2) := by show _ = _; rw [DE2.out, hlab]; simp
    have R3 : Hid (Wlk w2 B g A a n c b q sp.1 bh t false E2) := by rw [HE2.out]; exact R2.out
    have B3 := B2
    have S3 := S2
    obtain ⟨w3, hw3⟩ : ∃ w3, w3 = w2 := ⟨_, rfl⟩
    rw [← hw3] at R3 B3 S3 ⊢
    clear R2 B2 S2 r2 hw3
    by_cases hte : t ≠ []
    · have HTE := hide hte
      clear hte
      obtain ⟨fv, fu, h3, g3, w3o⟩ := R3.out.row
      obtain ⟨ua, uc, rfl, us, ub⟩ := own_src w3o R3.out.tb
      have c6 : w3.cell? ⟨g, 6, none⟩ = some (.slice ua t.length uc) := h3.cell 6
      have hg3 := h3.lt
      have H3 := hide h3
      have G3 := hide g3
      have W3 := hide w3o
      clear h3 g3 us ub w3o
      have ht0 : decide (0 < (t.length : Int)) = true := decide_eq_true (by have := List.length_pos_iff.2 HTE.out; omega)
      have ht0' : decide (0 < t.length) = true := decide_eq_true (List.length_pos_iff.2 HTE.out)
      obtain ⟨v4, w4, ap4, ow4, bl4, bu4⟩ := run_appN W3.out [46] (by simp) (by have := HTL.out; simp; omega) R3.out.hBs
      obtain ⟨ua4, uc4, rfl, _⟩ := own_src ow4 (fun x hx => by rcases List.mem_append.1 hx with h | h; exact R3.out.tb x h; simp at h; omega)
      obtain ⟨rr4, WW4, BB4, h5, g5, w5o⟩ := R3.out.put H3.out G3.out W3.out ow4 bl4 bu4 (by simp) (by have := HTL.out; simp; omega)
      have AP4 : Hid ((Builtin.append_ #[30, 30] 30 #[.slice ua t.length uc, .slice (some ⟨w3.heap.size, 0, none⟩) 1 1]).run Tryz.prog (w3.alloc (.cells #[.int .u8 46] 5)) = .ok (.slice ua4 (t ++ [46]).length uc4) w4) := ap4
      have cc4 := rr4.cell 6
      have ff4 := rr4.frozen 6
      have gg4 := rr4.lt
      obtain ⟨L4, hL4⟩ : ∃ L4, L4 = (t ++ [46]).length := ⟨_, rfl⟩
      obtain ⟨w5, hw5⟩ : ∃ w5, w5 = w4.setCell ⟨g, 6, none⟩ (.slice ua4 L4 uc4) := ⟨_, rfl⟩
      rw [← hL4] at WW4 BB4 h5 g5 w5o AP4
      rw [← hw5] at WW4 BB4 h5 g5 w5o
      have HW5 := hide hw5.symm
      have B5 := hide (B3.out.trans BB4)
      have S5 := hide (S3.out.belowB BB4 O1.out)
      have c6' : w5.cell? ⟨g, 6, none⟩ = some (.slice ua4 L4 uc4) := h5.cell 6
      obtain ⟨v6, w6, ap6, ow6, bl6, bu6⟩ := run_app w5o S5.out (by have := HTL.out; have := S5.out.hlen; have := HBL.out; simp; omega) WW4.hBs
      obtain ⟨ua6, uc6, rfl, _⟩ := own_src ow6 (fun x hx => by rcases List.mem_append.1 hx with h | h; exact WW4.tb x h; exact HBT.out x h)
      obtain ⟨rr6, WW6, BB6, h7, _⟩ := WW4.put h5 g5 w5o ow6 bl6 bu6 HBT.out (by have := HTL.out; have := HBL.out; simp; omega)
      have AP6 := hide ap6
      rw [← HW5.out] at AP6
      have ET : Hid (t ++ [46] ++ bs = tx t bs) := (tx_ne HTE.out).symm
      clear ap4 ow4 bl4 bu4 BB4 WW4 h5 g5 w5o ap6 ow6 bl6 bu6 hw5 hL4 rr4
      rw [ET.out] at WW6 BB6 h7 AP6
      obtain ⟨L7, hL7⟩ : ∃ L7, L7 = (tx t bs).length := ⟨_, rfl⟩
      have hl7 : (tx t bs).length ≤ 1000 := WW6.tl
      rw [← hL7] at WW6 BB6 h7 hl7 AP6
      obtain ⟨w7, hw7⟩ : ∃ w7, w7 = w6.setCell ⟨g, 6, none⟩ (.slice ua6 L7 uc6) := ⟨_, rfl⟩
      have HW7 := hide hw7.symm
      rw [← hw7] at WW6 BB6 h7
      have R7 := hide WW6
      have B7 := hide (B5.out.trans BB6)
      have c67 : w7.cell? ⟨g, 6, none⟩ = some (.slice ua6 L7 uc6) := h7.cell 6
      have c37 : w7.cell? ⟨g, 3, none⟩ = some (.int .i64 (A : Nat)) := h7.cell 3
      have hg7 := h7.lt
      have HL7 := hide hL7
      have cc6 := rr6.cell 6
      have ff6 := rr6.frozen 6
      have gg6 := rr6.lt
      have cA6 : w6.cell? ⟨g, 3, none⟩ = some (.int .i64 (A : Nat)) := rr6.cell 3
      clear WW6 BB6 h7 hw7 hL7 rr6
      by_cases hbig : 253 < L7
      · have hd7 : decide (253 < (L7 : Int)) = true := decide_eq_true (by omega)
        have hd7' : decide (253 < L7) = true := decide_eq_true (by omega)
        have HE3 : Hid (E3 = (stp A 63 (sp.1, E2)).2) := by show _ = _; rw [DE3.out, ← HL7.out, if_pos hbig]
        have HST := hide (R7.out.drew.stop (A : Int) A 63 (fun _ => rfl))
        rw [show ((63 : Nat) : Int) = 63 from rfl] at HST
        clear hbig
        go_wp2_with (first
          | (refine wpList_app_run _ rfl _ _ 30 30 rfl (.slice ua t.length uc) (.slice (some ⟨w3.heap.size, 0, none⟩) 1 1) rfl rfl AP4.out ?_)
          | (refine wpList_app_run _ rfl _ _ 30 30 rfl (.slice ua4 L4 uc4) (.slice x l y) rfl rfl AP6.out ?_))
        rw [HW7.out]
        clear cc6 ff6 gg6 cA6
        go_region_with (first | (go_at_call 105; refine HST.out.mono ?_; rintro e w8 ⟨rfl, r8, b8⟩; have R8 := hide r8; have B8 := hide b8; clear r8 b8))
        all_goals (try go_wp2_with fail)
        all_goals go_end0
        all_goals (rw [HE3.out])
        all_goals (exact ⟨rfl, R8.out, B7.out.trans (below_of_drew B8.out)⟩)
      · have hd7 : decide (253 < (L7 : Int)) = false := decide_eq_false (by omega)
        have hd7' : decide (253 < L7) = false := decide_eq_false (by omega)
        have HE3 : Hid (E3 = E2) := by show _ = _; rw [DE3.out, ← HL7.out, if_neg hbig]
        clear hbig
        go_wp2_with (first
          | (refine wpList_app_run _ rfl _ _ 30 30 rfl (.slice ua t.length uc) (.slice (some ⟨w3.heap.size, 0, none⟩) 1 1) rfl rfl AP4.out ?_)
          | (refine wpList_app_run _ rfl _ _ 30 30 rfl (.slice ua4 L4 uc4) (.slice x l y) rfl rfl AP6.out ?_))
        rw [HW7.out]
        go_end0
        rw [HE3.out]
        exact ⟨rfl, R7.out, B7.out⟩
    
    · have HTE : Hid (t = []) := (by show t = []; exact Decidable.byContradiction hte)
      clear hte
      obtain ⟨fv, fu, h3, g3, w3o⟩ := R3.out.row
      obtain ⟨ua, uc, rfl, us, ub⟩ := own_src w3o R3.out.tb
      have c6 : w3.cell? ⟨g, 6, none⟩ = some (.slice ua t.length uc) := h3.cell 6
      have hg3 := h3.lt
      have H3 := hide h3
      have G3 := hide g3
      have W3 := hide w3o
      clear h3 g3 us ub w3o
      have ht0 : decide (0 < (t.length : Int)) = false := decide_eq_false (by rw [HTE.out]; simp)
      have ht0' : decide (0 < t.length) = false := decide_eq_false (by rw [HTE.out]; simp)
      obtain ⟨v6, w6, ap6, ow6, bl6, bu6⟩ := run_app W3.out S3.out (by have := HTL.out; have := S3.out.hlen; have := HBL.out; omega) R3.out.hBs
      obtain ⟨ua6, uc6, rfl, _⟩ := own_src ow6 (fun x hx => by rcases List.mem_append.1 hx with h | h; exact R3.out.tb x h; exact HBT.out x h)
      obtain ⟨rr6, WW6, BB6, h7, _⟩ := R3.out.put H3.out G3.out W3.out ow6 bl6 bu6 HBT.out (by have := HTL.out; have := HBL.out; simp; omega)
      have AP6 := hide ap6
      have B5 := B3
      have ET : Hid (t ++ bs = tx t bs) := by show _ = _; rw [HTE.out]; simp [tx]
      clear ap6 ow6 bl6 bu6
      rw [ET.out] at WW6 BB6 h7 AP6
      obtain ⟨L7, hL7⟩ : ∃ L7, L7 = (tx t bs).length := ⟨_, rfl⟩
      have hl7 : (tx t bs).length ≤ 1000 := WW6.tl
      rw [← hL7] at WW6 BB6 h7 hl7 AP6
      obtain ⟨w7, hw7⟩ : ∃ w7, w7 = w6.setCell ⟨g, 6, none⟩ (.slice ua6 L7 uc6) := ⟨_, rfl⟩
      have HW7 := hide hw7.symm
      rw [← hw7] at WW6 BB6 h7
      have R7 := hide WW6
      have B7 := hide (B5.out.trans BB6)
      have c67 : w7.cell? ⟨g, 6, none⟩ = some (.slice ua6 L7 uc6) := h7.cell 6
      have c37 : w7.cell? ⟨g, 3, none⟩ = some (.int .i64 (A : Nat)) := h7.cell 3
      have hg7 := h7.lt
      have HL7 := hide hL7
      have cc6 := rr6.cell 6
      have ff6 := rr6.frozen 6
      have gg6 := rr6.lt
      have cA6 : w6.cell? ⟨g, 3, none⟩ = some (.int .i64 (A : Nat)) := rr6.cell 3
      clear WW6 BB6 h7 hw7 hL7 rr6
      by_cases hbig : 253 < L7
      · have hd7 : decide (253 < (L7 : Int)) = true := decide_eq_true (by omega)
        have hd7' : decide (253 < L7) = true := decide_eq_true (by omega)
        have HE3 : Hid (E3 = (stp A 63 (sp.1, E2)).2) := by show _ = _; rw [DE3.out, ← HL7.out, if_pos hbig]
        have HST := hide (R7.out.drew.stop (A : Int) A 63 (fun _ => rfl))
        rw [show ((63 : Nat) : Int) = 63 from rfl] at HST
        clear hbig
        go_wp2_with (first
          | (refine wpList_app_run _ rfl _ _ 30 30 rfl (.slice ua t.length uc) (.slice x l y) rfl rfl AP6.out ?_))
        rw [HW7.out]
        clear cc6 ff6 gg6 cA6
        go_region_with (first | (go_at_call 105; refine HST.out.mono ?_; rintro e w8 ⟨rfl, r8, b8⟩; have R8 := hide r8; have B8 := hide b8; clear r8 b8))
        all_goals (try go_wp2_with fail)
        all_goals go_end0
        all_goals (rw [HE3.out])
        all_goals (exact ⟨rfl, R8.out, B7.out.trans (below_of_drew B8.out)⟩)
      · have hd7 : decide (253 < (L7 : Int)) = false := decide_eq_false (by omega)
        have hd7' : decide (253 < L7) = false := decide_eq_false (by omega)
        have HE3 : Hid (E3 = E2) := by show _ = _; rw [DE3.out, ← HL7.out, if_neg hbig]
        clear hbig
        go_wp2_with (first
          | (refine wpList_app_run _ rfl _ _ 30 30 rfl (.slice ua t.length uc) (.slice x l y) rfl rfl AP6.out ?_))
        rw [HW7.out]
        go_end0
        rw [HE3.out]
        exact ⟨rfl, R7.out, B7.out⟩
  | false =>
    have HE2 : Hid (E2 = (stp at_ 61 sp).2) := by show _ = _; rw [DE2.out, hlab]; simp
    have HST1 := hide (R2.out.stop (at_ : Int) at_ 61 (fun _ => rfl))
    rw [show ((61 : Nat) : Int) = 61 from rfl] at HST1
    clear r2
    go_wp2_with fail
    refine HST1.out.mono ?_
    rintro e w3 ⟨rfl, r3, b3⟩
    have R3 : Hid (Wlk w3 B g A a n c b q sp.1 bh t false E2) := by rw [HE2.out]; exact r3
    have B3 := hide (B2.out.trans b3)
    have S3 := hide (S2.out.belowB b3 O1.out)
    clear r3 b3 R2 B2 S2 HST1
    by_cases hte : t ≠ []
    · have HTE := hide hte
      clear hte
      obtain ⟨fv, fu, h3, g3, w3o⟩ := R3.out.row
      obtain ⟨ua, uc, rfl, us, ub⟩ := own_src w3o R3.out.tb
      have c6 : w3.cell? ⟨g, 6, none⟩ = some (.slice ua t.length uc) := h3.cell 6
      have hg3 := h3.lt
      have H3 := hide h3
      have G3 := hide g3
      have W3 := hide w3o
      clear h3 g3 us ub w3o
      have ht0 : decide (0 < (t.length : Int)) = true := decide_eq_true (by have := List.length_pos_iff.2 HTE.out; omega)
      have ht0' : decide (0 < t.length) = true := decide_eq_true (List.length_pos_iff.2 HTE.out)
      obtain ⟨v4, w4, ap4, ow4, bl4, bu4⟩ := run_appN W3.out [46] (by simp) (by have := HTL.out; simp; omega) R3.out.hBs
      obtain ⟨ua4, uc4, rfl, _⟩ := own_src ow4 (fun x hx => by rcases List.mem_append.1 hx with h | h; exact R3.out.tb x h; simp at h; omega)
      obtain ⟨rr4, WW4, BB4, h5, g5, w5o⟩ := R3.out.put H3.out G3.out W3.out ow4 bl4 bu4 (by simp) (by have := HTL.out; simp; omega)
      have AP4 : Hid ((Builtin.append_ #[30, 30] 30 #[.slice ua t.length uc, .slice (some ⟨w3.heap.size, 0, none⟩) 1 1]).run Tryz.prog (w3.alloc (.cells #[.int .u8 46] 5)) = .ok (.slice ua4 (t ++ [46]).length uc4) w4) := ap4
      have cc4 := rr4.cell 6
      have ff4 := rr4.frozen 6
      have gg4 := rr4.lt
      obtain ⟨L4, hL4⟩ : ∃ L4, L4 = (t ++ [46]).length := ⟨_, rfl⟩
      obtain ⟨w5, hw5⟩ : ∃ w5, w5 = w4.setCell ⟨g, 6, none⟩ (.slice ua4 L4 uc4) := ⟨_, rfl⟩
      rw [← hL4] at WW4 BB4 h5 g5 w5o AP4
      rw [← hw5] at WW4 BB4 h5 g5 w5o
      have HW5 := hide hw5.symm
      have B5 := hide (B3.out.trans BB4)
      have S5 := hide (S3.out.belowB BB4 O1.out)
      have c6' : w5.cell? ⟨g, 6, none⟩ = some (.slice ua4 L4 uc4) := h5.cell 6
      obtain ⟨v6, w6, ap6, ow6, bl6, bu6⟩ := run_app w5o S5.out (by have := HTL.out; have := S5.out.hlen; have := HBL.out; simp; omega) WW4.hBs
      obtain ⟨ua6, uc6, rfl, _⟩ := own_src ow6 (fun x hx => by rcases List.mem_append.1 hx with h | h; exact WW4.tb x h; exact HBT.out x h)
      obtain ⟨rr6, WW6, BB6, h7, _⟩ := WW4.put h5 g5 w5o ow6 bl6 bu6 HBT.out (by have := HTL.out; have := HBL.out; simp; omega)
      have AP6 := hide ap6
      rw [← HW5.out] at AP6
      have ET : Hid (t ++ [46] ++ bs = tx t bs) := (tx_ne HTE.out).symm
      clear ap4 ow4 bl4 bu4 BB4 WW4 h5 g5 w5o ap6 ow6 bl6 bu6 hw5 hL4 rr4
      rw [ET.out] at WW6 BB6 h7 AP6
      obtain ⟨L7, hL7⟩ : ∃ L7, L7 = (tx t bs).length := ⟨_, rfl⟩
      have hl7 : (tx t bs).length ≤ 1000 := WW6.tl
      rw [← hL7] at WW6 BB6 h7 hl7 AP6
      obtain ⟨w7, hw7⟩ : ∃ w7, w7 = w6.setCell ⟨g, 6, none⟩ (.slice ua6 L7 uc6) := ⟨_, rfl⟩
      have HW7 := hide hw7.symm
      rw [← hw7] at WW6 BB6 h7
      have R7 := hide WW6
      have B7 := hide (B5.out.trans BB6)
      have c67 : w7.cell? ⟨g, 6, none⟩ = some (.slice ua6 L7 uc6) := h7.cell 6
      have c37 : w7.cell? ⟨g, 3, none⟩ = some (.int .i64 (A : Nat)) := h7.cell 3
      have hg7 := h7.lt
      have HL7 := hide hL7
      have cc6 := rr6.cell 6
      have ff6 := rr6.frozen 6
      have gg6 := rr6.lt
      have cA6 : w6.cell? ⟨g, 3, none⟩ = some (.int .i64 (A : Nat)) := rr6.cell 3
      clear WW6 BB6 h7 hw7 hL7 rr6
      by_cases hbig : 253 < L7
      · have hd7 : decide (253 < (L7 : Int)) = true := decide_eq_true (by omega)
        have hd7' : decide (253 < L7) = true := decide_eq_true (by omega)
        have HE3 : Hid (E3 = (stp A 63 (sp.1, E2)).2) := by show _ = _; rw [DE3.out, ← HL7.out, if_pos hbig]
        have HST := hide (R7.out.drew.stop (A : Int) A 63 (fun _ => rfl))
        rw [show ((63 : Nat) : Int) = 63 from rfl] at HST
        clear hbig
        go_wp2_with (first
          | (refine wpList_app_run _ rfl _ _ 30 30 rfl (.slice ua t.length uc) (.slice (some ⟨w3.heap.size, 0, none⟩) 1 1) rfl rfl AP4.out ?_)
          | (refine wpList_app_run _ rfl _ _ 30 30 rfl (.slice ua4 L4 uc4) (.slice x l y) rfl rfl AP6.out ?_))
        rw [HW7.out]
        clear cc6 ff6 gg6 cA6
        go_region_with (first | (go_at_call 105; refine HST.out.mono ?_; rintro e w8 ⟨rfl, r8, b8⟩; have R8 := hide r8; have B8 := hide b8; clear r8 b8))
        all_goals (try go_wp2_with fail)
        all_goals go_end0
        all_goals (rw [HE3.out])
        all_goals (exact ⟨rfl, R8.out, B7.out.trans (below_of_drew B8.out)⟩)
      · have hd7 : decide (253 < (L7 : Int)) = false := decide_eq_false (by omega)
        have hd7' : decide (253 < L7) = false := decide_eq_false (by omega)
        have HE3 : Hid (E3 = E2) := by show _ = _; rw [DE3.out, ← HL7.out, if_neg hbig]
        clear hbig
        go_wp2_with (first
          | (refine wpList_app_run _ rfl _ _ 30 30 rfl (.slice ua t.length uc) (.slice (some ⟨w3.heap.size, 0, none⟩) 1 1) rfl rfl AP4.out ?_)
          | (refine wpList_app_run _ rfl _ _ 30 30 rfl (.slice ua4 L4 uc4) (.slice x l y) rfl rfl AP6.out ?_))
        rw [HW7.out]
        go_end0
        rw [HE3.out]
        exact ⟨rfl, R7.out, B7.out⟩
    
    · have HTE : Hid (t = []) := (by show t = []; exact Decidable.byContradiction hte)
      clear hte
      obtain ⟨fv, fu, h3, g3, w3o⟩ := R3.out.row
      obtain ⟨ua, uc, rfl, us, ub⟩ := own_src w3o R3.out.tb
      have c6 : w3.cell? ⟨g, 6, none⟩ = some (.slice ua t.length uc) := h3.cell 6
      have hg3 := h3.lt
      have H3 := hide h3
      have G3 := hide g3
      have W3 := hide w3o
      clear h3 g3 us ub w3o
      have ht0 : decide (0 < (t.length : Int)) = false := decide_eq_false (by rw [HTE.out]; simp)
      have ht0' : decide (0 < t.length) = false := decide_eq_false (by rw [HTE.out]; simp)
      obtain ⟨v6, w6, ap6, ow6, bl6, bu6⟩ := run_app W3.out S3.out (by have := HTL.out; have := S3.out.hlen; have := HBL.out; omega) R3.out.hBs
      obtain ⟨ua6, uc6, rfl, _⟩ := own_src ow6 (fun x hx => by rcases List.mem_append.1 hx with h | h; exact R3.out.tb x h; exact HBT.out x h)
      obtain ⟨rr6, WW6, BB6, h7, _⟩ := R3.out.put H3.out G3.out W3.out ow6 bl6 bu6 HBT.out (by have := HTL.out; have := HBL.out; simp; omega)
      have AP6 := hide ap6
      have B5 := B3
      have ET : Hid (t ++ bs = tx t bs) := by show _ = _; rw [HTE.out]; simp [tx]
      clear ap6 ow6 bl6 bu6
      rw [ET.out] at WW6 BB6 h7 AP6
      obtain ⟨L7, hL7⟩ : ∃ L7, L7 = (tx t bs).length := ⟨_, rfl⟩
      have hl7 : (tx t bs).length ≤ 1000 := WW6.tl
      rw [← hL7] at WW6 BB6 h7 hl7 AP6
      obtain ⟨w7, hw7⟩ : ∃ w7, w7 = w6.setCell ⟨g, 6, none⟩ (.slice ua6 L7 uc6) := ⟨_, rfl⟩
      have HW7 := hide hw7.symm
      rw [← hw7] at WW6 BB6 h7
      have R7 := hide WW6
      have B7 := hide (B5.out.trans BB6)
      have c67 : w7.cell? ⟨g, 6, none⟩ = some (.slice ua6 L7 uc6) := h7.cell 6
      have c37 : w7.cell? ⟨g, 3, none⟩ = some (.int .i64 (A : Nat)) := h7.cell 3
      have hg7 := h7.lt
      have HL7 := hide hL7
      have cc6 := rr6.cell 6
      have ff6 := rr6.frozen 6
      have gg6 := rr6.lt
      have cA6 : w6.cell? ⟨g, 3, none⟩ = some (.int .i64 (A : Nat)) := rr6.cell 3
      clear WW6 BB6 h7 hw7 hL7 rr6
      by_cases hbig : 253 < L7
      · have hd7 : decide (253 < (L7 : Int)) = true := decide_eq_true (by omega)
        have hd7' : decide (253 < L7) = true := decide_eq_true (by omega)
        have HE3 : Hid (E3 = (stp A 63 (sp.1, E2)).2) := by show _ = _; rw [DE3.out, ← HL7.out, if_pos hbig]
        have HST := hide (R7.out.drew.stop (A : Int) A 63 (fun _ => rfl))
        rw [show ((63 : Nat) : Int) = 63 from rfl] at HST
        clear hbig
        go_wp2_with (first
          | (refine wpList_app_run _ rfl _ _ 30 30 rfl (.slice ua t.length uc) (.slice x l y) rfl rfl AP6.out ?_))
        rw [HW7.out]
        clear cc6 ff6 gg6 cA6
        go_region_with (first | (go_at_call 105; refine HST.out.mono ?_; rintro e w8 ⟨rfl, r8, b8⟩; have R8 := hide r8; have B8 := hide b8; clear r8 b8))
        all_goals (try go_wp2_with fail)
        all_goals go_end0
        all_goals (rw [HE3.out])
        all_goals (exact ⟨rfl, R8.out, B7.out.trans (below_of_drew B8.out)⟩)
      · have hd7 : decide (253 < (L7 : Int)) = false := decide_eq_false (by omega)
        have hd7' : decide (253 < L7) = false := decide_eq_false (by omega)
        have HE3 : Hid (E3 = E2) := by show _ = _; rw [DE3.out, ← HL7.out, if_neg hbig]
        clear hbig
        go_wp2_with (first
          | (refine wpList_app_run _ rfl _ _ 30 30 rfl (.slice ua t.length uc) (.slice x l y) rfl rfl AP6.out ?_))
        rw [HW7.out]
        go_end0
        rw [HE3.out]
        exact ⟨rfl, R7.out, B7.out⟩
end Go.Proofs.YtabkelhipmijfaaGreatDoor
