/-
  The chapter's examples: works of the statements; The chapter's example: works of the statements; From the listed variables' data to what the walks ask of them, a heap that meets them, the frame that keeps the world's shape, and arguments that came in; conditions as each theorem has them.
-/
import Derived.Test.YtccoddmdlbdfjaaGreatDoorHK
import Derived.Test.YtccoddmdlbdfjaaGreatDoorE
import Derived.Test.YtccoddmdlbdfjaaGreatDoorJoinedXG
import Derived.ProofKit
import Derived.LaidMore
import Derived.LaidHandle
import Derived.OpenShut
import Derived.Stop.Joined
import Derived.HandedShaped
import Derived.Lib.SmallJoins
import Derived.SizedLaws
import Derived.Stop.LaidErr
import Derived.Lib.LaidTab
import Derived.Shelf.Vars
import Derived.Deep.Strs
import Derived.ChangeSame
set_option linter.unusedSimpArgs false
set_option linter.unusedVariables false
namespace Go.Proofs.YtccoddmdlbdfjaaGreatDoor
open Go.RowKit

def xb1 : List Nat := [71, 69, 84, 32, 104, 116, 116, 112, 58, 47, 47, 97, 46, 98, 47, 120, 32, 72, 84, 84, 80, 47, 49, 46, 49, 13, 10, 72, 111, 115, 116, 58, 32, 97, 46, 98, 13, 10, 13, 10, 109, 111, 114, 101]
def xb2 : List Nat := [71, 69, 84, 32, 47, 120, 32, 72, 84, 84, 80, 47, 49, 46, 49, 13, 10, 13, 10]
def xb3 : List Nat := [71, 69, 84, 32, 104, 116, 116, 112, 58, 47, 47, 45, 47, 32, 72, 84, 84, 80, 47, 49, 46, 49, 13, 10, 13, 10]
theorem host_ab : host [97, 46, 98] = (([0, 0, 0, 0], [97, 46, 98]), .ok) := by
  have hp : pcs [97, 46, 98] = [[97], [98]] := by decide
  have l1 : labB [97] = true := lab_of _ (by decide)
  have l2 : labB [98] = true := lab_of _ (by decide)
  have hn : name [97, 46, 98] = ([97, 46, 98], .ok) := by
    unfold name
    rw [if_neg (by decide), hp]
    simp only [labs, l1, l2, if_true]
    rw [if_neg (by decide)]
    rfl
  unfold host
  rw [if_neg (by decide), if_neg (by decide), hn]
theorem host_dash : host [45] = (([0, 0, 0, 0], []), .one 0 61) := by
  have hp : pcs [45] = [[45]] := by decide
  have l1 : labB [45] = false := by
    cases h : labB [45] with
    | false => rfl
    | true =>
      have := (labB_iff _).1 h
      exact absurd (this.2.2 0 (by decide)) (by decide)
  have hn : name [45] = ([], .one 0 61) := by
    unfold name
    rw [if_neg (by decide), hp]
    simp only [labs, l1]
    rfl
  unfold host
  rw [if_neg (by decide), if_neg (by decide), hn]
/-- A row of bytes that a constant lays. -/
theorem const_src {w : World} {B : Nat} {fr : Nat × Nat} (l : List Nat) (h : w.heap[B]? = some (.cells (nums .u8 l).toArray 5 fr)) (hb : ∀ x ∈ l, x < 256) (hm : l.length ≤ maxLen) : Src w (some ⟨B, 0, none⟩) l.length l.length l :=
  ⟨rfl, Nat.le_refl _, hm, (fun e => by cases e), fun _ => ⟨B, 0, rfl, lt_of_some h, fun i hi => by
    rw [Nat.zero_add]
    simp only [World.cell?, h]
    have := nums_get .u8 l i hi
    simpa using this⟩, hb⟩
def rb1 : Array Value := #[.int .u8 71, .int .u8 69, .int .u8 84, .int .u8 32, .int .u8 104, .int .u8 116, .int .u8 116, .int .u8 112, .int .u8 58, .int .u8 47, .int .u8 47, .int .u8 97, .int .u8 46, .int .u8 98, .int .u8 47, .int .u8 120, .int .u8 32, .int .u8 72, .int .u8 84, .int .u8 84, .int .u8 80, .int .u8 47, .int .u8 49, .int .u8 46, .int .u8 49, .int .u8 13, .int .u8 10, .int .u8 72, .int .u8 111, .int .u8 115, .int .u8 116, .int .u8 58, .int .u8 32, .int .u8 97, .int .u8 46, .int .u8 98, .int .u8 13, .int .u8 10, .int .u8 13, .int .u8 10, .int .u8 109, .int .u8 111, .int .u8 114, .int .u8 101]
def rb2 : Array Value := #[.int .u8 71, .int .u8 69, .int .u8 84, .int .u8 32, .int .u8 47, .int .u8 120, .int .u8 32, .int .u8 72, .int .u8 84, .int .u8 84, .int .u8 80, .int .u8 47, .int .u8 49, .int .u8 46, .int .u8 49, .int .u8 13, .int .u8 10, .int .u8 13, .int .u8 10]
def rb3 : Array Value := #[.int .u8 71, .int .u8 69, .int .u8 84, .int .u8 32, .int .u8 104, .int .u8 116, .int .u8 116, .int .u8 112, .int .u8 58, .int .u8 47, .int .u8 47, .int .u8 45, .int .u8 47, .int .u8 32, .int .u8 72, .int .u8 84, .int .u8 84, .int .u8 80, .int .u8 47, .int .u8 49, .int .u8 46, .int .u8 49, .int .u8 13, .int .u8 10, .int .u8 13, .int .u8 10]
set_option maxHeartbeats 1000000 in
theorem failH_at (a c : Nat) (w : World) : Calls Tryz.prog 41 #[.string ⟨#[104, 101, 97, 100]⟩, .int .i64 a, .int .i64 c] w fun e w' => e = .returned (badH (.one a c)) ∧ Below w.heap.size w w' := by
  go_enter Tryz.func41, Tryz.ntmps41
  go_wp2
  go_returns
  exact ⟨rfl, ((Below.refl _ _).alloc (Nat.le_refl _) _).alloc (by simp) _⟩
set_option maxRecDepth 100000 in
set_option maxHeartbeats 4000000 in
theorem wrapBH_one (a b c : Nat) (w : World) : Calls Tryz.prog 107 #[.string ⟨#[104, 101, 97, 100]⟩, .int .i64 a, badV (.one b c)] w fun e w' => e = .returned (badH (.wr a (.one b c))) ∧ Below w.heap.size w w' := by
  simp only [badV]
  go_enter Tryz.func107, Tryz.ntmps107
  go_wp2_with fail
  refine wp_loop_rounds 2 ?_
  rw [rounds_succ]
  go_wp2_with fail
  go_region
  all_goals go_wp2_with fail
  all_goals rw [rounds_succ]
  all_goals go_wp2_with fail
  all_goals go_returns
  all_goals refine ⟨rfl, ?_⟩
  all_goals (repeat (first | exact Below.refl _ _ | refine Below.drew ?_ | refine Below.setCell ?_ (by simp) _ | refine Below.alloc ?_ (by simp <;> omega) _))
structure Tabs (w : World) : Prop where
  v : Vars w
  e : VarE w
theorem Tabs.below {w w' : World} (h : Tabs w) (k : Below w.heap.size w w') : Tabs w' := ⟨h.v.below k, h.e.below k⟩
end Go.Proofs.YtccoddmdlbdfjaaGreatDoor

set_option linter.unusedSimpArgs false
set_option linter.unusedVariables false
namespace Go.Proofs.YtccoddmdlbdfjaaGreatDoor
open Go.RowKit

def wb : List Nat := [71, 69, 84, 32, 104, 116, 116, 112, 58, 47, 47, 97, 46, 98, 47, 120, 32, 72, 84, 84, 80, 47, 49, 46, 49, 13, 10, 72, 111, 115, 116, 58, 32, 99, 13, 10, 88, 58, 32, 49, 13, 10, 67, 111, 110, 110, 101, 99, 116, 105, 111, 110, 58, 32, 88, 13, 10, 13, 10, 109, 111, 114, 101]
def wfs : List Fd := [(hostN, [99]), ([88], [49]), (connN, [88])]
def wq : Rq := (getM, (([0, 0, 0, 0], [97, 46, 98]), 80), [47, 120])
def wse : List Nat := [71, 69, 84, 32, 47, 120, 32, 72, 84, 84, 80, 47, 49, 46, 49, 13, 10, 72, 111, 115, 116, 58, 32, 97, 46, 98, 13, 10, 67, 111, 110, 110, 101, 99, 116, 105, 111, 110, 58, 32, 99, 108, 111, 115, 101, 13, 10, 13, 10]
theorem w_req1 : (request wb).1.1 = wq := by decide +kernel
theorem w_req2 : (request wb).1.2 = wfs := by decide +kernel
theorem w_req3 : (request wb).2.1 = 59 := by decide +kernel
theorem w_req4 : (request wb).2.2 = .ok := by decide +kernel
theorem w_req : request wb = ((wq, wfs), 59, .ok) := Prod.ext (Prod.ext w_req1 w_req2) (Prod.ext w_req3 w_req4)
theorem w_body : body wfs = false := by decide +kernel
theorem w_sent : sentQ wq wfs = wse := by decide +kernel
theorem w_add : addC Cn.new wb = (⟨2, wq, wfs, 0⟩, 59) := by
  have h6 : is6 Hr.ok = false := rfl
  unfold addC
  rw [if_pos (show Cn.new.st = 0 from rfl)]
  unfold readC
  rw [w_req]
  simp only [h6]
  rw [if_neg (by decide), if_neg (by decide)]
  unfold takeC
  simp only [w_body, w_sent]
  rw [if_pos (by decide +kernel), if_neg (by decide +kernel)]
/-- What a statement starts from. -/
structure E0 (w : World) : Prop where
  v : Vars w
  p : Pow w
  e : VarE w
theorem E0.below {w w' : World} (h : E0 w) (k : Below w.heap.size w w') : E0 w' := ⟨h.v.below k, h.p.below k, h.e.below k⟩
theorem E0.env {w w' : World} (h : E0 w) (k : Below w.heap.size w w') {b : Nat} (hb : w.heap.size ≤ b) : Env w w' b := ⟨k, hb, h.v, h.p, h.e⟩
/-- What holds of a connection at all times. -/
structure Good (C : Cn) : Prop where
  ok : C.Ok
  new : C.st = 0 → C = Cn.new
theorem Cn.Ok.bare (st : Nat) (s : Int) : Cn.Ok ⟨st, noR, [], s⟩ := ⟨Fit.nil, Rc.zero, Rc.of_zero, Rc.Ok.zero⟩
theorem Good.new' : Good Cn.new := ⟨Cn.Ok.bare 0 0, fun _ => rfl⟩
theorem Good.ans (c : Int) : Good (ansC c) := ⟨Cn.Ok.bare _ _, fun h => by unfold ansC at h; simp only at h; split at h <;> omega⟩
theorem Good.take {l : List Nat} (h : (request l).2.2 = .ok) : Good (takeC (request l).1) := by
  obtain ⟨r, h1, h2, h3⟩ := request_rc h
  unfold takeC
  split
  · split
    · exact Good.ans 400
    · exact ⟨⟨h3, r, h1, h2⟩, fun h => by simp at h⟩
  · split
    · exact ⟨⟨h3, r, h1, h2⟩, fun h => by simp at h⟩
    · exact Good.ans 501
theorem Good.read (l : List Nat) : Good (readC l).1 := by
  unfold readC
  split
  · exact Good.new'
  · split
    · exact Good.ans 400
    · rename_i h
      exact Good.take (Classical.not_not.1 h)
theorem Good.add {C : Cn} (h : Good C) (l : List Nat) : Good (addC C l).1 := by
  unfold addC
  split
  · exact Good.read l
  · exact h
theorem Good.tell {C : Cn} (h : Good C) (c : Int) : Good (tellC C c).1 := by
  unfold tellC
  split
  · exact h
  · split
    · exact h
    · exact Good.ans c
theorem Good.pass {C : Cn} (h : Good C) : Good (passC C).1 := by
  unfold passC
  split
  · exact ⟨h.ok, fun e => by simp at e⟩
  · exact h
theorem Good.outs {C : Cn} (h : Good C) : Good (outC C) := ⟨h.ok, fun e => by have := h.new e; rw [this]; rfl⟩
set_option maxRecDepth 100000 in
set_option maxHeartbeats 4000000 in
theorem works_at (w : World) (hE : E0 w) : Calls Tryz.prog 23 #[] w fun e w' => e = .returned (.bool true) ∧ Below w.heap.size w w' := by
  have HN := hide (new_at 0 w)
  have HE := hide hE
  have h0 : 0 < w.heap.size := (by obtain ⟨m, hm⟩ := hE.v; exact lt_of_cell hm)
  have H0 := hide h0
  clear hE h0
  go_enter Tryz.func23, Tryz.ntmps23
  go_wp2_with fail
  refine HN.out.mono ?_
  rintro e w1 ⟨rfl, p1, k1, z1⟩
  obtain ⟨b, hb⟩ : ∃ b, b = w.heap.size := ⟨_, rfl⟩
  rw [← hb] at p1 ⊢
  obtain ⟨W2, hW2⟩ : ∃ W2, W2 = w1.alloc (.cells #[.int .u8 71, .int .u8 69, .int .u8 84, .int .u8 32, .int .u8 104, .int .u8 116, .int .u8 116, .int .u8 112, .int .u8 58, .int .u8 47, .int .u8 47, .int .u8 97, .int .u8 46, .int .u8 98, .int .u8 47, .int .u8 120, .int .u8 32, .int .u8 72, .int .u8 84, .int .u8 84, .int .u8 80, .int .u8 47, .int .u8 49, .int .u8 46, .int .u8 49, .int .u8 13, .int .u8 10, .int .u8 72, .int .u8 111, .int .u8 115, .int .u8 116, .int .u8 58, .int .u8 32, .int .u8 99, .int .u8 13, .int .u8 10, .int .u8 88, .int .u8 58, .int .u8 32, .int .u8 49, .int .u8 13, .int .u8 10, .int .u8 67, .int .u8 111, .int .u8 110, .int .u8 110, .int .u8 101, .int .u8 99, .int .u8 116, .int .u8 105, .int .u8 111, .int .u8 110, .int .u8 58, .int .u8 32, .int .u8 88, .int .u8 13, .int .u8 10, .int .u8 13, .int .u8 10, .int .u8 109, .int .u8 111, .int .u8 114, .int .u8 101] 5 (63, 64)) := ⟨_, rfl⟩
  have hcv : (convert 35 35 (.slice (some ⟨w1.heap.size, 0, none⟩) 63 63)).run Tryz.prog (w1.alloc (.cells #[.int .u8 71, .int .u8 69, .int .u8 84, .int .u8 32, .int .u8 104, .int .u8 116, .int .u8 116, .int .u8 112, .int .u8 58, .int .u8 47, .int .u8 47, .int .u8 97, .int .u8 46, .int .u8 98, .int .u8 47, .int .u8 120, .int .u8 32, .int .u8 72, .int .u8 84, .int .u8 84, .int .u8 80, .int .u8 47, .int .u8 49, .int .u8 46, .int .u8 49, .int .u8 13, .int .u8 10, .int .u8 72, .int .u8 111, .int .u8 115, .int .u8 116, .int .u8 58, .int .u8 32, .int .u8 99, .int .u8 13, .int .u8 10, .int .u8 88, .int .u8 58, .int .u8 32, .int .u8 49, .int .u8 13, .int .u8 10, .int .u8 67, .int .u8 111, .int .u8 110, .int .u8 110, .int .u8 101, .int .u8 99, .int .u8 116, .int .u8 105, .int .u8 111, .int .u8 110, .int .u8 58, .int .u8 32, .int .u8 88, .int .u8 13, .int .u8 10, .int .u8 13, .int .u8 10, .int .u8 109, .int .u8 111, .int .u8 114, .int .u8 101] 5)) = .ok (.slice (some ⟨w1.heap.size, 0, none⟩) 63 63) W2 := by rw [hW2]; exact Lib.run_convert_bytes_const (P := Tryz.prog) w1 35 5 _ 63 63 Tryz.underlying35 Tryz.underlying5
  have b2 : Below w1.heap.size w1 W2 := by rw [hW2]; exact (Below.refl _ _).alloc (Nat.le_refl _) _
  have g2 : W2.heap[w1.heap.size]? = some (.cells (nums .u8 wb).toArray 5 (63, 64)) := by rw [hW2]; exact alloc_new _ _
  have s2 : Src W2 (some ⟨w1.heap.size, 0, none⟩) 63 63 wb := const_src wb g2 (by decide) (by decide)
  have e2 := HE.out.env (k1.trans (b2.mono k1.size)) (b := b) (by omega)
  have HA := hide (add_at w b 0 Cn.new _ 63 63 wb W2 (p1.below b2) s2 e2 (fun _ => rfl) (by have := b2.size; have := k1.size; have := H0.out; omega))
  rw [w_add] at HA
  have E2 := hide e2
  have HB := hide hb.symm
  clear p1 z1 hW2 b2 g2 s2 e2 HN k1 hb
  go_wp2_with fail
  clear hcv
  refine HA.out.mono ?_
  rintro e w3 ⟨rfl, p3, k3⟩
  have E3 := hide (E2.out.kept k3)
  have hgo : Cn.Ok ⟨2, wq, wfs, 0⟩ := by have := (Good.new'.add wb).ok; rw [w_add] at this; exact this
  have HWN := hide (wants_at b 0 _ w3 p3 hgo)
  have P3 := hide p3
  have HGO := hide hgo
  clear p3 k3 HA hgo E2
  go_wp2_with fail
  refine HWN.out.mono ?_
  rintro e w4 ⟨r, ra, rc, rfl, hr, hsf, k4⟩
  have HT : Hid (r.t = ⟨#[47, 120]⟩) := by
    have hr' : wq = (byt r.m, (([r.x0, r.x1, r.x2, r.x3], byt r.s), r.p), byt r.t) := hr
    have : byt r.t = byt ⟨#[47, 120]⟩ := (congrArg (fun q : Rq => q.2.2) hr').symm
    exact byt_inj this
  have P4 := hide (P3.out.below k4)
  have E4 := hide (E3.out.below k4)
  obtain ⟨m, x0, x1, x2, x3, s, p, t⟩ := r
  simp only at HT
  have ht : t = ⟨#[47, 120]⟩ := HT.out
  subst ht
  unfold Rc.arr
  obtain ⟨W5, hW5⟩ : ∃ W5, W5 = w4.alloc (.cells #[.string m, .int .u8 (x0 : Nat), .int .u8 (x1 : Nat), .int .u8 (x2 : Nat), .int .u8 (x3 : Nat), .string s, .int .i64 (p : Nat), .string ⟨#[47, 120]⟩, .slice ra (wantsC ⟨2, wq, wfs, 0⟩).2.length rc] 34) := ⟨_, rfl⟩
  have b5 : Below w4.heap.size w4 W5 := by rw [hW5]; exact (Below.refl _ _).alloc (Nat.le_refl _) _
  have HSE := hide (sends_at w b 0 _ W5 (P4.out.below b5) HGO.out (E4.out.below b5))
  have HSC : Hid (sendsC ⟨2, wq, wfs, 0⟩ = wse) := by show sentQ wq wfs = wse; exact w_sent
  rw [HSC.out] at HSE
  have HW5 := hide hW5.symm
  have P5 := hide (P4.out.below b5)
  have E5 := hide (E4.out.below b5)
  have HAK : Hid (asks ⟨2, wq, wfs, 0⟩ = true) := rfl
  rw [HAK.out]
  clear hr hsf k4 HWN P3 E3 hW5 b5 P4 E4 HT
  go_wp2_with fail
  rw [HW5.out]
  refine HSE.out.mono ?_
  rintro e w6 ⟨sa, sd, rfl, s6, k6⟩
  have hst := run_str_src s6
  have P6 := hide (P5.out.below k6)
  have E6 := hide (E5.out.below k6)
  have HST := hide (state_at b 0 _ w6 P6.out)
  have HOW := hide (own_at 403 w6 E6.out.P)
  have heq : ((strN wse).toList == ([71, 69, 84, 32, 47, 120, 32, 72, 84, 84, 80, 47, 49, 46, 49, 13, 10, 72, 111, 115, 116, 58, 32, 97, 46, 98, 13, 10, 67, 111, 110, 110, 101, 99, 116, 105, 111, 110, 58, 32, 99, 108, 111, 115, 101, 13, 10, 13, 10] : List UInt8)) = true := by decide +kernel
  clear s6 k6 HSE P5 E5
  go_wp2_with fail
  refine HST.out.mono ?_
  rintro e w7 ⟨rfl, rfl⟩
  go_wp2_with fail
  refine HOW.out.mono ?_
  rintro e w8 ⟨oa, od, rfl, s8, k8⟩
  have hol : (own 403).length = 64 := by decide +kernel
  have K8 := hide (E6.out.below k8).be
  rw [hol]
  clear s8 k8 hol
  go_wp2_with fail
  go_ret
  exact ⟨rfl, K8.out⟩
end Go.Proofs.YtccoddmdlbdfjaaGreatDoor

set_option linter.unusedSimpArgs false
set_option linter.unusedVariables false
set_option linter.constructorNameAsVariable false
set_option maxRecDepth 100000
namespace Go.Proofs.YtccoddmdlbdfjaaGreatDoor
open Go.ChangeShapes Go.WideShapes Go.ChangeAt Go.RowKit

def laidL2 : List (String × DataW Unit) := [("math/bits.deBruijn32tab", Rows.laid_math_bits_deBruijn32tab), ("math/bits.deBruijn64tab", Rows.laid_math_bits_deBruijn64tab), ("internal/strconv.uint64pow10", Rows.laid_internal_strconv_uint64pow10), ("unicode/utf8.acceptRanges", Rows.laid_unicode_utf8_acceptRanges), ("errors.errorType", Rows.laid_errors_errorType), ("unicode/utf8.first", Rows.laid_unicode_utf8_first)]
/-- A heap with the pinned table laid. -/
def pinW (w0 : World) : World :=
  { w0 with heap := w0.heap.modify 3 fun
      | .cells _ t frozen => .cells (Go.Pinned.utf8FirstZ.map fun (z : Nat) => Value.int .u8 (z : Int)).toArray t frozen
      | o => o }
set_option maxRecDepth 100000 in
theorem door_met2 (os : Os) (args : Array Value) : laidMetH Tryz.prog laidL2 ((pinW (World.doorLaid Tryz.prog 41 os)).forCall (fun _ _ => 0) ⟨#[], args, []⟩).memory :=
  laidMetH_of_parts3 (fuel := 8) (laidMet_of_run' 8 (by kernel_rfl) (by kernel_rfl)) (by kernel_rfl) (by kernel_rfl)
theorem et1 : Tryz.prog.globalNamed "errors.errorType" = some 1 := by kernel_rfl
theorem rt1 : (Tryz.prog.cutTypes.find? (·.1 == "internal/reflectlite.rtype")).map (·.2) = some 164 := by kernel_rfl
theorem oneRow : ((List.range 297).filter fun t => Tryz.prog.rowNamed t [101, 114, 114, 111, 114]) = [59] := by kernel_rfl
theorem tsize : Tryz.prog.types.size = 297 := by kernel_rfl
theorem varE_of {W : World} {x : String × DataW Unit} (hx : x = ("errors.errorType", Rows.laid_errors_errorType)) {hs : List (String × DataW Unit)} (hm : x ∈ hs) (h : handlesMet Tryz.prog hs W) : VarE W := by
  have h1 := h x hm
  subst hx
  obtain ⟨name, u, ty, e1, e2, e3, e4, e5⟩ := h1
  have en : name = [101, 114, 114, 111, 114] := (Option.some.inj e1).symm
  subst en
  obtain rfl := Option.some.inj (rt1.symm.trans e2)
  have hm : ty ∈ (List.range 297).filter fun t => Tryz.prog.rowNamed t [101, 114, 114, 111, 114] := List.mem_filter.2 ⟨List.mem_range.2 (by rw [← tsize]; exact e3), e4⟩
  rw [oneRow] at hm
  obtain rfl := List.mem_singleton.1 hm
  have hh : typeHandle Tryz.prog 59 = .pointer (some ⟨7, 59, none⟩) := by kernel_rfl
  rw [hh] at e5
  unfold VarE
  simpa using World.var?_cell et1 e5 0
theorem laid_tail {x : String × DataW Unit} {xs : List (String × DataW Unit)} {W : World} (h : laidMet Tryz.prog (x :: xs) W) : laidMet Tryz.prog xs W := by
  obtain ⟨ps, ⟨g, t, cs, fuel, p, q, hg, ht, hv, hd, hr, e⟩, hn, hb⟩ := h
  subst e
  exact ⟨q, hr, (List.nodup_append.1 hn).2.1, fun b o hm => hb b o (List.mem_append_right _ hm)⟩
set_option maxRecDepth 100000 in
theorem of_laid2 {W : World} (h : laidMetH Tryz.prog laidL2 W) (hs : W.ShapedOpen Tryz.prog) : E0 W := by
  have h' : laidMet Tryz.prog [("math/bits.deBruijn32tab", Rows.laid_math_bits_deBruijn32tab), ("math/bits.deBruijn64tab", Rows.laid_math_bits_deBruijn64tab), ("internal/strconv.uint64pow10", Lib.tabData .u64 Lib.pow10Tab), ("unicode/utf8.acceptRanges", Rows.laid_unicode_utf8_acceptRanges), ("unicode/utf8.first", Rows.laid_unicode_utf8_first)] W ∧ handlesMet Tryz.prog [("errors.errorType", Rows.laid_errors_errorType)] W := h
  refine ⟨Go.Proofs.cell_of_shapedOpen_int (zero := #[.int .i64 0]) (t := 3) hs (of_decide_eq_true (by kernel_rfl)) (by kernel_rfl) rfl (by kernel_rfl) (by kernel_rfl) Tryz.underlying3, ?_, varE_of rfl (List.mem_singleton.2 rfl) h'.2⟩
  exact Lib.tabIs_of_head (g := 2) (t := 255) (e := 82) (n := 20) (by kernel_rfl) (by kernel_rfl) (by kernel_rfl) (by kernel_rfl) (by kernel_rfl) (by kernel_rfl) (laid_tail (laid_tail h'.1))
/-- The plain frame with a condition on the variables, the world's shape kept. -/
theorem lift_shaped {H : Type} {enc : TypeId × Value → H} {a : Assume} {C : Checked} {os : Os} {f : FuncId} {fn : Func} {s : ChangeSpec} {conds : List PathCond} {apart fresh handsOn again : Bool} {X : World → Array Value → Prop}
    (hX : ∀ (w w' : World) (args : Array Value), w.heap = w'.heap → X w args → X w' args)
    (own : ownKnob C.prog.godebug = none) (started : os.Started) (noInit : C.prog.inits.idxOf? f = none) (hfn : C.prog.funcs[f]? = some fn)
    (witness : ∃ (w : World) (tape : Tape) (i : Input), w.os = os ∧ (w.forCall tape i).Shaped C.prog ∧ i.vars = [] ∧ Input.okWide C.prog (w.forCall tape i) .any w.heap.size f i ∧
      ((s.pre enc C.prog fn conds apart (w.forCall tape i).memory i.args ∧ X (w.forCall tape i).memory i.args) ∧ sizedMet enc C.prog fn (OpenSpec.ofChange s) apart (w.forCall tape i).memory i.args) ∧ a.holds C.prog (Go.lone (Frame.enter C.prog f i.args .normal) [] (w.forCall tape i)))
    (contract : ∀ (W : World) (base : Nat) (args : Array Value) (ds gs : List (DataW H)) (before : List MemPlace),
      (∀ (j : Nat) t v, fn.params[j]? = some t → args[j]? = some v → Value.okWide C.prog W .any base t v) →
      DataW.Whole enc C.prog fn.params.toList s.vars apart W args.toList ds gs before →
      (DataW.weightsEach C.prog (fn.params.toList ++ s.plain.varTypes C.prog) (ds ++ gs)).all (· ≤ reachBytes) = true → X W args → W.ShapedOpen C.prog →
      Calls C.prog f args W fun e W' => ∃ v, e = .returned v ∧ s.post enc C.prog fn apart fresh handsOn again W args v W') :
    ReturnsInHanded a C os f .any (fun w args => (s.pre enc C.prog fn conds apart w args ∧ X w args) ∧ sizedMet enc C.prog fn (OpenSpec.ofChange s) apart w args) (s.post enc C.prog fn apart fresh handsOn again) := by
  refine returnsInHanded_of_calls own started noInit witness ?_
  intro w tape i _ hsh _ hok hpre hholds
  obtain ⟨_, _, _, fn', hfn', _, _, _, _, hval⟩ := hok
  have e : fn' = fn := Option.some.inj (hfn'.symm.trans hfn)
  subst e
  obtain ⟨⟨⟨ds, gs, before, hw, hc⟩, hx⟩, hz⟩ := hpre
  have hw' := DataW.Whole.of_heap (w' := w.forCall tape i) (by rfl) hw
  refine (contract (w.forCall tape i) w.heap.size i.args ds gs before hval hw' (hz.weights hw) (hX _ _ _ (by rfl) hx) hsh).mono fun e W' ⟨v, he, hp⟩ => ?_
  subst he
  exact ChangeSpec.post_blind hp

/-- Bytes that came in. -/
theorem open_bytes {H : Type} {enc : TypeId × Value → H} {W : World} {base : Nat} {sp : Nat → Bool} {held : Bool} {fuel : Nat} {a : Option Addr} {n c : Nat} {d : DataW H} {ps : List MemPlace} (hf : DataW.trod enc Tryz.prog W base sp held fuel 35 [.slice a n c] = some (d, ps)) :
    ∃ l, Src W a n c l ∧ ((n = 0) ∨ ∃ el rest, d = .slice el rest ∧ n ≤ el.length) := by
  rcases open_ints Tryz.underlying35 Tryz.underlying5 (by kernel_rfl) hf with ⟨hcs, _⟩ | ⟨x, l, c', zs, hcs, _, hl, hm, hz, hx, hcell, hwz⟩
  · simp at hcs
    obtain ⟨rfl, rfl, rfl⟩ := hcs
    exact ⟨[], Src.nilS W, Or.inl rfl⟩
  · simp at hcs
    obtain ⟨rfl, rfl, rfl⟩ := hcs
    simp only [Prod.mk.injEq] at hx
    have hzl : n ≤ zs.length := by rw [hz]; split <;> omega
    have hz0 : ∀ z ∈ zs, 0 ≤ z ∧ z < 256 := fun z hzm => by have := bounds_u8 (hwz z hzm); omega
    have hg : ∀ i, i < n → (((zs.take n).map Int.toNat).getD i 0 : Int) = zs.getD i 0 := by
      intro i hi
      have hi' : i < zs.length := by omega
      have := hz0 zs[i] (List.getElem_mem hi')
      simp [List.getD, List.getElem?_map, List.getElem?_take, hi, List.getElem?_eq_getElem hi']
      omega
    refine ⟨(zs.take n).map Int.toNat, ⟨by simp; omega, hl, hm, (by intro e; cases e), fun h0 => ?_, ?_⟩, Or.inr ⟨_, _, hx.1, by simp [lits]; omega⟩⟩
    · have h00 := hcell 0 (by omega)
      obtain ⟨b, o, s⟩ := x
      have hsp : s = none := by simpa [Addr.add] using World.cell?_spot h00
      subst hsp
      refine ⟨b, o, rfl, by simpa [Addr.add] using lt_of_cell h00, fun i hi => ?_⟩
      have h1 := hcell i (by omega)
      rw [add_none] at h1
      rw [h1, hg i hi]
    · intro y hy
      simp only [List.mem_map] at hy
      obtain ⟨z, hzm, rfl⟩ := hy
      have := hz0 z (List.mem_of_mem_take hzm)
      omega
theorem by5 : Tryz.prog.bytesOf 5 = 1 := by kernel_rfl
theorem len_bytes {H : Type} {ts : List TypeId} {ds : List (DataW H)} (h : (DataW.weightsEach Tryz.prog ts ds).all (· ≤ reachBytes) = true) {j : Nat} {d : DataW H} (ht : ts[j]? = some 35) (hd : ds[j]? = some d) {n : Nat} (hn : n = 0 ∨ ∃ el rest, d = .slice el rest ∧ n ≤ el.length) : n ≤ 140737488351232 := by
  rcases hn with rfl | ⟨el, rest, rfl, hl⟩
  · omega
  · have := sized_slice h ht hd Tryz.underlying35
    rw [by5] at this
    unfold reachBytes at this
    omega
theorem sized_of {H : Type} {P : Program} {ts : List TypeId} {ds : List (DataW H)} (h : (DataW.weightsEach P ts ds).all (· ≤ reachBytes) = true) {j : Nat} {t : TypeId} {d : DataW H} (ht : ts[j]? = some t) (hd : ds[j]? = some d) : ∀ k ∈ d.weights P t, k ≤ reachBytes := fun k hk => by
  have := List.all_eq_true.1 h k (DataW.weights_mem_each ht hd k hk)
  simpa using this
end Go.Proofs.YtccoddmdlbdfjaaGreatDoor
