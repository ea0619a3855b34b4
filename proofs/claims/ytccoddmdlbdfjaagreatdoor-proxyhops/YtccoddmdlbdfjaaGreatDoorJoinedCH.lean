/-
  What a connection is turned to: answer, take; New, State, Pass, Own; What a request turns a connection to: take of package proxy; What a request turns a connection to: take of package proxy; conditions as each theorem has them.
-/
import Derived.Test.YtccoddmdlbdfjaaGreatDoorJoinedCE
set_option linter.unusedSimpArgs false
set_option linter.unusedVariables false
namespace Go.Proofs.YtccoddmdlbdfjaaGreatDoor
open Go.RowKit

theorem infoConn : (Tryz.prog.info? 80).map (·.size) = some 12 := by kernel_rfl
theorem zeroConn : ∀ w, (zeroValue 80).run Tryz.prog w = .ok (.agg #[.bool false, .int .i64 0, .string ⟨#[]⟩, .int .u8 0, .int .u8 0, .int .u8 0, .int .u8 0, .string ⟨#[]⟩, .int .i64 0, .string ⟨#[]⟩, .slice none 0 0, .int .i64 0]) w := fun w => by kernel_rfl
/-- The cells of a connection that has answered. -/
def ansA (st : Nat) (c : Int) : Array Value := #[.bool true, .int .i64 (st : Nat), .string ⟨#[]⟩, .int .u8 0, .int .u8 0, .int .u8 0, .int .u8 0, .string ⟨#[]⟩, .int .i64 0, .string ⟨#[]⟩, .slice none 0 0, .int .i64 c]
theorem ansA_eq (st : Nat) (c : Int) : (ansA st c).toList = cnA st Rc.zero (.slice none 0 0) c := rfl
theorem ansA_one (st : Nat) (c : Int) : (ansA st c).all (·.oneCell') = true := by simp [ansA, Value.oneCell']
theorem cnA_one (st : Nat) (r : Rc) (a : Option Addr) (n c : Nat) (said : Int) : (cnA st r (.slice a n c) said).toArray.all (·.oneCell') = true := by simp [cnA, Value.oneCell']
/-- A connection that keeps nothing of a request. -/
theorem PC.bare {w : World} {b x st : Nat} {c : Int} (h : Row w b 80 (cnA st Rc.zero (.slice none 0 0) c)) : PC w b x ⟨st, noR, [], c⟩ := ⟨Rc.zero, none, 0, 0, h, Rc.of_zero, SrcF.nilS w, (fun _ g o e => by cases e), (fun _ g o e => by cases e)⟩
set_option maxRecDepth 100000 in
theorem answer_at (b x : Nat) (cs : List Value) (c : Int) (w : World) (h : Row w b 80 cs) (hl : cs.length = 12) : Calls Tryz.prog 38 #[.pointer (some ⟨b, 0, none⟩), .int .i64 c] w fun e w' => e = .returned (.tuple #[]) ∧ PC w' b x (ansC c) ∧ Kept b b w w' := by
  obtain ⟨W, hW⟩ : ∃ W, W = w.setRow b (ansA 5 c) := ⟨_, rfl⟩
  have hz := zeroConn
  have R := hide h
  have r1 : Row W b 80 (cnA 5 Rc.zero (.slice none 0 0) c) := by
    rw [hW]; exact setRow_heap w b (ansA 5 c) cs.toArray 80 h
  have R1 := hide r1
  have k1 : Kept b b w W := by rw [hW]; exact (Kept.refl _ _ _).setRow (Or.inl rfl) _
  have K1 := hide k1
  have HW := hide hW
  have HL : Hid (cs.toArray.size = 12) := by simpa [Hid] using hl
  clear h hW k1 hl
  by_cases hc : c = 200
  · subst hc
    have HA : Hid (ansC 200 = ⟨3, noR, [], 200⟩) := rfl
    have c1 : W.cell? ⟨b, 1, none⟩ = some (.int .i64 5) := r1.cell 1
    have f1 := r1.frozen 1
    have R2 := hide (r1.set 1 (.int .i64 3))
    have K2 := hide (K1.out.set 1 (.int .i64 3))
    clear r1
    go_enter Tryz.func38, Tryz.ntmps38
    go_wp2_with (first | (refine wpList_store_rowW rfl 80 _ _ rfl b (ansA 5 200) rfl rfl 80 _ R.out infoConn HL.out (ansA_one 5 200) W HW.out ?_))
    go_end0
    exact ⟨rfl, by rw [HA.out]; exact PC.bare R2.out, K2.out⟩
  · have q : (c == 200) = false := by simp; omega
    have HA : Hid (ansC c = ⟨5, noR, [], c⟩) := by show _ = _; unfold ansC; rw [if_neg hc]
    clear r1 hc
    go_enter Tryz.func38, Tryz.ntmps38
    go_wp2_with (first | (refine wpList_store_rowW rfl 80 _ _ rfl b (ansA 5 c) rfl rfl 80 _ R.out infoConn HL.out (ansA_one 5 c) W HW.out ?_))
    go_end0
    exact ⟨rfl, by rw [HA.out]; exact PC.bare R1.out, K1.out⟩
theorem new_at (x : Nat) (w : World) : Calls Tryz.prog 8 #[] w fun e w' => e = .returned (.pointer (some ⟨w.heap.size, 0, none⟩)) ∧ PC w' w.heap.size x Cn.new ∧ Below w.heap.size w w' ∧ w'.heap.size = w.heap.size + 1 := by
  have hz := zeroConn
  have r1 := Row.new w (ansA 0 0) 80
  have R1 := hide r1
  have b1 : Below w.heap.size w (w.alloc (.cells (ansA 0 0) 80)) := (Below.refl _ _).alloc (Nat.le_refl _) _
  have B1 := hide b1
  clear r1 b1
  unfold ansA at R1 B1
  go_enter Tryz.func8, Tryz.ntmps8
  go_wp2_with fail
  go_ret
  exact ⟨rfl, PC.bare R1.out, B1.out, by simp⟩
theorem state_at (b x : Nat) (C : Cn) (w : World) (h : PC w b x C) : Calls Tryz.prog 25 #[.pointer (some ⟨b, 0, none⟩)] w fun e w' => e = .returned (.int .i64 (C.st : Nat)) ∧ w = w' := by
  obtain ⟨r, a, n, c, h1, _⟩ := h
  have HM := hide (isMade_at b w (h1.cell 0))
  have c1 : w.cell? ⟨b, 1, none⟩ = some (.int .i64 (C.st : Nat)) := h1.cell 1
  clear h1
  go_enter Tryz.func25, Tryz.ntmps25
  go_wp2_with fail
  refine HM.out.mono ?_
  rintro e w1 ⟨rfl, rfl⟩
  go_wp2_with fail
  go_ret
  exact ⟨rfl, rfl⟩
theorem PC.setSt {w : World} {b x : Nat} {C : Cn} (h : PC w b x C) (s : Nat) : PC (w.setCell ⟨b, 1, none⟩ (.int .i64 (s : Nat))) b x { C with st := s } := by
  obtain ⟨r, a, n, c, h1, h2, h3, h4, h5⟩ := h
  have k := (Kept.refl b b w).set 1 (.int .i64 (s : Nat))
  exact ⟨r, a, n, c, h1.set 1 _, h2, h3.keep (fun h0 g o e => k.block g (h3.lt h0 e) (h4 h0 g o e) (h4 h0 g o e)) k.size, h4, h5⟩
theorem pass_at (b x : Nat) (C : Cn) (w : World) (h : PC w b x C) : Calls Tryz.prog 16 #[.pointer (some ⟨b, 0, none⟩)] w fun e w' => e = .returned (.int .i64 ((passC C).2 : Nat)) ∧ PC w' b x (passC C).1 ∧ Kept b b w w' := by
  have H := hide h
  obtain ⟨r, a, n, c, h1, _⟩ := h
  have HM := hide (isMade_at b w (h1.cell 0))
  have c1 : w.cell? ⟨b, 1, none⟩ = some (.int .i64 (C.st : Nat)) := h1.cell 1
  have f1 := h1.frozen 1
  clear h1
  unfold passC
  by_cases hs : C.st = 2
  · have H4 := hide (H.out.setSt 4)
    have K4 := hide ((Kept.refl b b w).set 1 (.int .i64 4))
    rw [if_pos hs]
    rw [hs] at c1
    clear hs
    go_enter Tryz.func16, Tryz.ntmps16
    go_wp2_with fail
    refine HM.out.mono ?_
    rintro e w1 ⟨rfl, rfl⟩
    go_wp2_with fail
    go_ret
    exact ⟨rfl, H4.out, K4.out⟩
  · have q : ((C.st : Int) != 2) = true := by simp; omega
    have q' : ((C.st : Int) == 2) = false := by simp; omega
    rw [if_neg hs]
    clear hs
    go_enter Tryz.func16, Tryz.ntmps16
    go_wp2_with fail
    refine HM.out.mono ?_
    rintro e w1 ⟨rfl, rfl⟩
    go_wp2_with fail
    go_ret
    exact ⟨rfl, H.out, Kept.refl _ _ _⟩
end Go.Proofs.YtccoddmdlbdfjaaGreatDoor

set_option linter.unusedSimpArgs false
set_option linter.unusedVariables false
namespace Go.Proofs.YtccoddmdlbdfjaaGreatDoor
open Go.RowKit

theorem info44c : (Tryz.prog.info? 34).map (·.size) = some 9 := by kernel_rfl
theorem run_opLd (ρ : Operand → Value) (dst : Option Tmp) (x : Operand) (ty : TypeId) (pos : String) (after : Array Edge) (guard : Option (Nat × Bool)) (w : World) (h : isAt 9 w (ρ x) = true) :
    (execOp ρ { dst, op := .load 34 x, type := ty, pos, after, guard }).run Tryz.prog w = .ok (.value (.agg (arrAt w (ρ x)))) w := by
  unfold isAt at h
  split at h
  · rename_i g e
    unfold isRow at h
    split at h
    · rename_i cs t fr eq
      have hs : cs.size = 9 := by simpa using h
      have hr : rowOf w g = cs := by simp [rowOf, eq]
      unfold execOp
      simp only [e, Instr.loadAt, Instr.sureAddr, Sem.run_bind, Sem.run_pure, Result.andThen_ok, run_loadVar_row w g t 34 cs fr _ eq Tryz.underlying34 rfl (by rw [hs]; exact info44c), arrAt, hr]
    · cases h
  · cases h
/-- A request that is put into a connection. -/
def canO (w : World) : Value → Value → Bool
  | .pointer (some ⟨g, 2, none⟩), .agg cs => (match w.heap[g]? with | some (.cells old t' (0, 0)) => old.size == 12 && t' == 80 | _ => false) && cs.size == 9 && cs.all (·.oneCell')
  | _, _ => false
def putO (w : World) : Value → Value → World
  | .pointer (some ⟨g, 2, none⟩), .agg cs => w.setRow g ((rowOf w g).toList.take 2 ++ cs.toList ++ (rowOf w g).toList.drop 11).toArray
  | _, _ => w
theorem putO_ptr (w : World) (g : Nat) (cs : Array Value) : putO w (.pointer (some ⟨g, 2, none⟩)) (.agg cs) = w.setRow g ((rowOf w g).toList.take 2 ++ cs.toList ++ (rowOf w g).toList.drop 11).toArray := rfl
theorem canO_drew (w : World) (v u : Value) : canO w.drew v u = canO w v u := rfl
theorem run_opSt (ρ : Operand → Value) (dst : Option Tmp) (x y : Operand) (ty : TypeId) (pos : String) (after : Array Edge) (guard : Option (Nat × Bool)) (w : World) (h : canO w (ρ x) (ρ y) = true) :
    (execOp ρ { dst, op := .store 34 x y, type := ty, pos, after, guard }).run Tryz.prog w = .ok .skip (putO w (ρ x) (ρ y)) := by
  unfold canO at h
  split at h
  · rename_i g cs e1 e2
    simp only [Bool.and_eq_true, beq_iff_eq] at h
    obtain ⟨⟨h0, h1⟩, h3⟩ := h
    split at h0
    · rename_i old t' hg
      simp only [Bool.and_eq_true, beq_iff_eq] at h0
      have hst := run_storeCells_at Tryz.prog g 2 t' cs.toList 0 old w hg (by simp; omega) (fun v hv => (Array.all_eq_true_iff_forall_mem.1 h3) v (by simpa using hv))
      have hi : ∃ i, Tryz.prog.info? 34 = some i ∧ i.size = 9 := by
        obtain ⟨i, hi, hs⟩ := Option.map_eq_some_iff.1 info44c
        exact ⟨i, hi, hs⟩
      obtain ⟨i, hi, hs⟩ := hi
      have hr : rowOf w g = old := by simp [rowOf, hg]
      have hsz : (Value.agg cs).cells.size = i.size := by show cs.size = _; omega
      have hc : (Value.agg cs).cells = cs := rfl
      have : (storeVar 34 ⟨g, 2, none⟩ (.agg cs)).run Tryz.prog w = .ok () (w.setRow g ((rowOf w g).toList.take 2 ++ cs.toList ++ (rowOf w g).toList.drop 11).toArray) := by
        rw [hr]
        simp only [storeVar, sizeOf, typeInfo, hc]
        simp [hi, show cs.size = i.size by omega]
        simpa [h1] using hst
      unfold execOp
      simp only [e1, e2, Instr.storeAt, Instr.sureAddr, Sem.run_bind, Sem.run_pure, Result.andThen_ok, this, putO]
    · cases h0
  · cases h
end Go.Proofs.YtccoddmdlbdfjaaGreatDoor

set_option linter.unusedSimpArgs false
set_option linter.unusedVariables false
namespace Go.Proofs.YtccoddmdlbdfjaaGreatDoor
open Go.RowKit
attribute [local go_sem ↓] run_opLd run_opSt Go.wp_at_zero Go.wp_at_succ
attribute [local go_sem] rowOf_drew isRow_drew arrAt_ptr isAt_ptr putO_ptr canO_drew setRow_drew

theorem arr_size (r : Rc) (v : Value) : (r.arr v).size = 9 := rfl
theorem arr_one (r : Rc) (a : Option Addr) (n c : Nat) : (r.arr (.slice a n c)).all (·.oneCell') = true := by simp [Rc.arr, Value.oneCell']
theorem put_facts {W : World} {b x G st : Nat} {r0 r : Rc} {v0 : Value} {a : Option Addr} {n c : Nat} {fs : List Fd} {A : Array Value} (hA : A = r.arr (.slice a n c)) (r1 : Row W b 80 (cnA 0 r0 v0 0)) (g1 : W.heap[G]? = some (.cells A 34)) (hs : SrcF W a n c fs) (ho : OffF a n b ∧ OffF a n x) (hGb : G ≠ b) :
    W.cell? ⟨b, 1, none⟩ = some (.int .i64 0) ∧ W.frozen? ⟨b, 1, none⟩ = false ∧ canO (W.setCell ⟨b, 1, none⟩ (.int .i64 (st : Nat))) (.pointer (some ⟨b, 2, none⟩)) (.agg A) = true ∧ rowOf (W.setCell ⟨b, 1, none⟩ (.int .i64 (st : Nat))) b = (cnA st r0 v0 0).toArray ∧
    isRow (W.setCell ⟨b, 1, none⟩ (.int .i64 (st : Nat))) G 9 = true ∧ rowOf (W.setCell ⟨b, 1, none⟩ (.int .i64 (st : Nat))) G = A ∧
    ∃ W3, Hid ((W.setCell ⟨b, 1, none⟩ (.int .i64 (st : Nat))).setRow b ((cnA st r0 v0 0).take 2 ++ (A.toList ++ (cnA st r0 v0 0).drop 11)).toArray = W3) ∧ Hid (PC W3.drew b x ⟨st, (byt r.m, r.de, byt r.t), fs, 0⟩) ∧ Hid (Kept b b W W3.drew) := by
  have hAs : A.size = 9 := by rw [hA]; rfl
  have hA1 : A.all (·.oneCell') = true := by rw [hA]; exact arr_one r a n c
  obtain ⟨W2, hW2⟩ : ∃ W2, W2 = W.setCell ⟨b, 1, none⟩ (.int .i64 (st : Nat)) := ⟨_, rfl⟩
  have r2 : Row W2 b 80 (cnA st r0 v0 0) := by rw [hW2]; exact r1.set 1 _
  have g2 : W2.heap[b]? = some (.cells (cnA st r0 v0 0).toArray 80) := r2
  have gG : W2.heap[G]? = some (.cells A 34) := by rw [hW2, show (W.setCell ⟨b, 1, none⟩ (.int .i64 (st : Nat))).heap[G]? = W.heap[G]? from Below.heap_setCell _ _ _ _ hGb]; exact g1
  have k3 : Kept b b W (W2.setRow b (cnA st r (.slice a n c) 0).toArray) := by rw [hW2]; exact ((Kept.refl b b W).set 1 _).setRow (Or.inl rfl) _
  have r3 : Row (W2.setRow b (cnA st r (.slice a n c) 0).toArray) b 80 (cnA st r (.slice a n c) 0) := setRow_heap W2 b _ _ 80 g2
  have hsp : SrcF (W2.setRow b (cnA st r (.slice a n c) 0).toArray) a n c fs := hs.keep (fun h0 g o e => k3.block g (hs.lt h0 e) (ho.1 h0 g o e) (ho.1 h0 g o e)) k3.size
  rw [← hW2]
  refine ⟨r1.cell 1, r1.frozen 1, ?_, rowOf_of g2, isRow_of gG hAs, rowOf_of gG, W2.setRow b (cnA st r (.slice a n c) 0).toArray, ?_, ?_, k3.drewN 1⟩
  · simp only [canO, g2]
    rw [hA1, hAs]; rfl
  · show _ = _
    rw [hA]; rfl
  · exact ⟨r, a, n, c, r3, rfl, hsp.below (Below.refl _ _).drew, ho.1, ho.2⟩
set_option maxRecDepth 100000 in
set_option maxHeartbeats 4000000 in
theorem take_at (b x : Nat) (r0 r : Rc) (v0 : Value) (a : Option Addr) (n c : Nat) (fs : List Fd) (w : World) (h : Row w b 80 (cnA 0 r0 v0 0)) (hr : r.Ok) (hs : SrcF w a n c fs) (hfit : Fit fs) (ho : OffF a n b ∧ OffF a n x) (hV : Vars w) (hP : Pow w) :
    Calls Tryz.prog 39 #[.pointer (some ⟨b, 0, none⟩), .agg (r.arr (.slice a n c))] w fun e w' => e = .returned (.tuple #[]) ∧ PC w' b x (takeC ((byt r.m, r.de, byt r.t), fs)) ∧ Kept b b w w' := by
  have q1 : (r.m.toList == [71, 69, 84]) = decide (byt r.m = getM) := by
    have := eq_byt r.m ⟨#[71, 69, 84]⟩
    rwa [show (⟨#[71, 69, 84]⟩ : ByteArray).toList = [71, 69, 84] from by decide +kernel] at this
  have q2 : (r.m.toList == [67, 79, 78, 78, 69, 67, 84]) = decide (byt r.m = conn) := by
    have := eq_byt r.m ⟨#[67, 79, 78, 78, 69, 67, 84]⟩
    rwa [show (⟨#[67, 79, 78, 78, 69, 67, 84]⟩ : ByteArray).toList = [67, 79, 78, 78, 69, 67, 84] from by decide +kernel] at this
  obtain ⟨A, hA⟩ : ∃ A, A = r.arr (.slice a n c) := ⟨_, rfl⟩
  obtain ⟨G, hG⟩ : ∃ G, G = w.heap.size := ⟨_, rfl⟩
  obtain ⟨W, hW⟩ : ∃ W, W = w.alloc (.cells A 34) := ⟨_, rfl⟩
  have g1 : W.heap[G]? = some (.cells A 34) := by rw [hW, hG]; exact alloc_new _ _
  have b1 : Below w.heap.size w W := by rw [hW]; exact (Below.refl _ _).alloc (Nat.le_refl _) _
  have r1 : Row W b 80 (cnA 0 r0 v0 0) := h.below b1 h.lt
  have hGb : G ≠ b := by have := h.lt; omega
  have e0 : W.cell? ⟨G, 0, none⟩ = some (.string r.m) := by simp [World.cell?, g1, hA, Rc.arr]
  have e8 : W.cell? ⟨G, 8, none⟩ = some (.slice a n c) := by simp [World.cell?, g1, hA, Rc.arr]
  have HW : Hid (w.alloc (.cells A 34) = W) := hW.symm
  have HG := hide hG.symm
  have K1 : Hid (Kept b b w W) := Kept.of_below b1
  have R1 := hide r1
  have HO := hide ho
  have S1 := hide (hs.below b1)
  have HTC : Hid (takeC ((byt r.m, r.de, byt r.t), fs) = if byt r.m = getM then (if body fs = true ∨ 8192 < (sent r.to (byt r.t) fs).length then ansC 400 else ⟨2, (byt r.m, r.de, byt r.t), fs, 0⟩) else if byt r.m = conn then ⟨1, (byt r.m, r.de, byt r.t), fs, 0⟩ else ansC 501) := rfl
  by_cases hm : byt r.m = getM
  · rw [decide_eq_true hm] at q1
    rw [if_pos hm] at HTC
    have HB := hide (hasBody_at a n c fs W (hs.below b1) (fun f hf => by have := hfit.lens hf; unfold maxLen; omega))
    have HSO : Hid (∀ W', Below w.heap.size w W' → Calls Tryz.prog 50 #[.agg A] W' fun e w' => ∃ b d, e = .returned (.slice b (sent r.to (byt r.t) fs).length d) ∧ Src w' b (sent r.to (byt r.t) fs).length d (sent r.to (byt r.t) fs) ∧ Below W'.heap.size W' w') := fun W' k => by rw [hA]; exact sentOn_at r a n c fs W' hr (hs.below k) hfit (hV.below k) (hP.below k)
    have HAA := hide hA
    have HGB := hide hGb
    have G1 := hide g1
    have B1 := hide b1
    obtain ⟨N, hN⟩ : ∃ N, N = (sent r.to (byt r.t) fs).length := ⟨_, rfl⟩
    rw [← hN] at HTC HSO
    obtain ⟨X, hX⟩ : ∃ X, X = sent r.to (byt r.t) fs := ⟨_, rfl⟩
    rw [← hX] at HSO
    obtain ⟨T, hT⟩ : ∃ T, T = takeC ((byt r.m, r.de, byt r.t), fs) := ⟨_, rfl⟩
    rw [← hT] at HTC ⊢
    obtain ⟨bo, hbo⟩ : ∃ bo, bo = body fs := ⟨_, rfl⟩
    rw [← hbo] at HB HTC
    rw [← hA]
    clear q2 hm hN hX hT hbo hG hW g1 b1 r1 hA hs h hfit hV hP hr ho
    cases bo with
    | true =>
      have HT2 : Hid (T = ansC 400) := by have := HTC.out; rwa [if_pos (Or.inl rfl)] at this
      clear HTC HSO
      go_enter Tryz.func39, Tryz.ntmps39
      go_wp2_with (first | (rw [HW.out, HG.out]))
      try (rw [HW.out, HG.out]; go_wp2_with fail)
      refine HB.out.mono ?_
      rintro e w2 ⟨rfl, k2⟩
      have HAN := hide (answer_at b x (cnA 0 r0 v0 0) 400 w2 (R1.out.below k2 R1.out.lt) (by simp [cnA]))
      have K2 := hide (K1.out.trans2 k2)
      clear k2 HB
      go_wp2_with fail
      refine HAN.out.mono ?_
      rintro e w3 ⟨rfl, p3, k3⟩
      go_wp2_with fail
      go_returns
      exact ⟨rfl, by rw [HT2.out]; exact p3, K2.out.trans k3⟩
    | false =>
      go_enter Tryz.func39, Tryz.ntmps39
      go_wp2_with (first | (rw [HW.out, HG.out]))
      try (rw [HW.out, HG.out]; go_wp2_with fail)
      refine HB.out.mono ?_
      rintro e w2 ⟨rfl, k2⟩
      have g2 := keepB k2 G1.out
      have y1 : isRow w2 G 9 = true := isRow_of g2 (by rw [HAA.out]; rfl)
      have y2 : rowOf w2 G = A := rowOf_of g2
      have HSO2 := hide (HSO.out w2 (B1.out.trans (k2.mono B1.out.size)))
      have K2 := hide (K1.out.trans2 k2)
      have R2 := hide (R1.out.below k2 R1.out.lt)
      have S2 := hide (S1.out.below k2)
      have G2 := hide g2
      clear k2 g2 HB HSO K1 R1 S1 G1 B1 e0 e8
      go_wp2_with fail
      refine HSO2.out.mono ?_
      rintro e w3 ⟨sb, sd, rfl, _, k3⟩
      have g3 := keepB k3 G2.out
      have R3 := hide (R2.out.below k3 R2.out.lt)
      have K3 := hide (K2.out.trans2 k3)
      by_cases h8 : 8192 < N
      · have q8 : decide ((N : Int) > 8192) = true := decide_eq_true (by omega)
        have q8' : decide ((8192 : Int) < (N : Int)) = true := decide_eq_true (by omega)
        have q8n : decide (8192 < N) = true := decide_eq_true h8
        have HT2 : Hid (T = ansC 400) := by have := HTC.out; rwa [if_pos (Or.inr h8)] at this
        have HAN := hide (answer_at b x (cnA 0 r0 v0 0) 400 w3 R3.out (by simp [cnA]))
        clear k3 g3 HSO2 HTC h8 y1 y2 K2 R2 S2 G2
        go_wp2_with fail
        refine HAN.out.mono ?_
        rintro e w4 ⟨rfl, p4, k4⟩
        go_wp2_with fail
        go_returns
        exact ⟨rfl, by rw [HT2.out]; exact p4, K3.out.trans k4⟩
      · have q8 : decide ((N : Int) > 8192) = false := decide_eq_false (by omega)
        have q8' : decide ((8192 : Int) < (N : Int)) = false := decide_eq_false (by omega)
        have q8n : decide (8192 < N) = false := decide_eq_false h8
        have HT2 : Hid (T = ⟨2, (byt r.m, r.de, byt r.t), fs, 0⟩) := by have := HTC.out; rwa [if_neg (by simp; omega)] at this
        obtain ⟨c1, f1, x3, x4, x5, x6, W3, HW3, HP, HK⟩ := put_facts (st := 2) HAA.out R3.out g3 (S2.out.below k3) HO.out HGB.out
        rw [show ((2 : Nat) : Int) = 2 from rfl] at x3 x4 x5 x6 HW3
        rw [← HT2.out] at HP
        have z1 : isRow w3 G 9 = true := isRow_of g3 (by rw [HAA.out]; rfl)
        have z2 : rowOf w3 G = A := rowOf_of g3
        have hbG : b ≠ G := fun e => HGB.out e.symm
        have hGb := HGB.out
        clear k3 g3 HSO2 HTC h8 y1 y2 K2 R2 S2 G2 R3 HT2
        go_wp2_with fail
        go_region
        rw [HW3.out]
        go_wp2_with fail
        go_returns
        exact ⟨rfl, HP.out, K3.out.trans HK.out⟩
  · rw [decide_eq_false hm] at q1
    rw [if_neg hm] at HTC
    by_cases hc : byt r.m = conn
    · rw [decide_eq_true hc] at q2
      rw [if_pos hc] at HTC
      obtain ⟨c1, f1, x3, x4, x5, x6, W3, HW3, HP, HK⟩ := put_facts (st := 1) hA r1 g1 (hs.below b1) ho hGb
      rw [show ((1 : Nat) : Int) = 1 from rfl] at x3 x4 x5 x6 HW3
      obtain ⟨T, hT⟩ : ∃ T, T = takeC ((byt r.m, r.de, byt r.t), fs) := ⟨_, rfl⟩
      rw [← hT] at HTC ⊢
      rw [← HTC.out] at HP
      have z1 : isRow W G 9 = true := isRow_of g1 (by rw [hA]; rfl)
      have z2 : rowOf W G = A := rowOf_of g1
      rw [← hA]
      have hbG : b ≠ G := fun e => hGb e.symm
      clear hm hc hT hG hW g1 b1 r1 hA hs h hfit hV hP hr ho e8 HTC
      go_enter Tryz.func39, Tryz.ntmps39
      go_wp2_with (first | (rw [HW.out, HG.out]))
      try (rw [HW.out, HG.out]; go_wp2_with fail)
      go_region
      rw [HW3.out]
      go_wp2_with fail
      go_returns
      exact ⟨rfl, HP.out, K1.out.trans HK.out⟩
    · rw [decide_eq_false hc] at q2
      rw [if_neg hc] at HTC
      have HAN := hide (answer_at b x (cnA 0 r0 v0 0) 501 W r1 (by simp [cnA]))
      rw [← HTC.out] at HAN
      rw [← hA]
      obtain ⟨T, hT⟩ : ∃ T, T = takeC ((byt r.m, r.de, byt r.t), fs) := ⟨_, rfl⟩
      rw [← hT] at HAN ⊢
      clear hm hc hT hG hW g1 b1 r1 hA hs h hfit hV hP hr ho e8 HTC
      go_enter Tryz.func39, Tryz.ntmps39
      go_wp2_with (first | (rw [HW.out, HG.out]))
      try (rw [HW.out, HG.out]; go_wp2_with fail)
      refine HAN.out.mono ?_
      rintro e w3 ⟨rfl, p3, k3⟩
      go_wp2_with fail
      go_returns
      exact ⟨rfl, p3, K1.out.trans k3⟩
end Go.Proofs.YtccoddmdlbdfjaaGreatDoor
