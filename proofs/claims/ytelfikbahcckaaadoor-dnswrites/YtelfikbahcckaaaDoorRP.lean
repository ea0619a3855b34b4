/-
  query, number and labels of the reference; conditions as each theorem has them.
-/
import Derived.Test.YtelfikbahcckaaaDoorPG
import Derived.Test.YtelfikbahcckaaaDoorRA
import Derived.Test.YtelfikbahcckaaaDoorN3
set_option linter.unusedSimpArgs false
set_option linter.unusedVariables false
namespace Go.Proofs.YtelfikbahcckaaaDoor
open Go.RowKit
set_option maxRecDepth 100000 in
set_option maxHeartbeats 4000000 in
theorem rquery_at (id : Int) (t : ByteArray) (w : World) (ht : t.size ≤ maxLen) :
    Calls Tryd.prog 35 #[.agg #[.int .i64 id, .string t]] w fun e w' => e = .returned (.bool (qry id (byt t))) ∧ Below w.heap.size w w' := by
  obtain ⟨W1, hW1⟩ : ∃ W1, W1 = w.alloc (.cells #[.int .i64 id, .string t] 40) := ⟨_, rfl⟩
  have b1 : Below w.heap.size w W1 := by rw [hW1]; exact (Below.refl _ _).alloc (Nat.le_refl _) _
  have T1 : Hid (Row W1 w.heap.size 40 [.int .i64 id, .string t]) := by rw [hW1]; exact Row.new w _ 40
  have hs1 : W1.heap.size = w.heap.size + 1 := by rw [hW1]; simp
  have HC := hide (rparseName_at t W1 ht)
  obtain ⟨R, hR⟩ : ∃ R, R = qry id (byt t) := ⟨_, rfl⟩
  rw [← hR]
  have HR := hide hR
  have B1 := hide b1
  have HW1 := hide hW1.symm
  obtain ⟨NM, hNM⟩ : ∃ NM, NM = strN (name (byt t)).1 := ⟨_, rfl⟩
  obtain ⟨E, hE⟩ : ∃ E, E = (name (byt t)).2 := ⟨_, rfl⟩
  rw [← hNM, ← hE, badV_badC] at HC
  have HNM := hide hNM
  have HE := hide hE
  clear b1 hW1 hR hNM hE
  go_enter Tryd.func35, Tryd.ntmps35
  go_wp2_with fail
  rw [HW1.out]
  refine HC.out.mono ?_
  rintro e w2 ⟨rfl, b2⟩
  obtain ⟨GF, hGF⟩ : ∃ GF, GF = w2.heap.size := ⟨_, rfl⟩
  obtain ⟨W4, hW4⟩ : ∃ W, W = (w2.alloc (.cells (badC .ok) 32)).setRow GF (badC E) := ⟨_, rfl⟩
  have z4 : (w2.alloc (.cells (badC .ok) 32)).heap[GF]? = some (.cells (badC .ok) 32) := by rw [hGF]; exact alloc_new _ _
  have b4 : Below w2.heap.size w2 W4 := by rw [hW4]; exact below_setRow ((Below.refl _ _).alloc (Nat.le_refl _) _) (by omega) _
  have l4 : W4.heap[GF]? = some (.cells (badC E) 32) := by rw [hW4]; exact setRow_heap _ _ _ _ _ z4
  have b14 : Below W1.heap.size W1 W4 := b2.trans (b4.mono b2.size)
  have t4 := T1.out.below b14 (by omega)
  have c0 : W4.cell? ⟨w.heap.size, 0, none⟩ = some (.int .i64 id) := t4.cell 0
  have c1 : W4.cell? ⟨w.heap.size, 1, none⟩ = some (.string t) := t4.cell 1
  have hl4 := t4.lt
  have hlg : GF < W4.heap.size := lt_of_some l4
  have g0 : W4.cell? ⟨GF, 0, none⟩ = some (.int .i64 (erN E : Nat)) := by
    simp only [World.cell?, l4]
    cases E <;> rfl
  have B4 := hide (B1.out.trans (b14.mono (by omega)))
  have Z4 := hide z4
  have HW4 := hide hW4
  have HGF := hide hGF.symm
  obtain ⟨EN, hEN⟩ : ∃ EN, EN = erN E := ⟨_, rfl⟩
  rw [← hEN] at g0
  have HEN := hide hEN
  clear b2 z4 b4 l4 b14 t4 hW4 hGF hEN HC
  by_cases h1 : 0 ≤ id
  · have d1 : decide (0 ≤ id) = true := decide_eq_true h1
    by_cases h2 : id ≤ 65535
    · have d2 : decide (id ≤ 65535) = true := decide_eq_true h2
      by_cases h3 : E = .ok
      · obtain rfl : EN = 0 := by rw [HEN.out, h3]; rfl
        have hn := name_some (l := byt t) (by rw [← HE.out]; exact h3)
        have hnb := name_byte (byt_lt t)
        have e4 : (NM.toList == t.toList) = decide ((name (byt t)).1 = byt t) := by rw [eq_byt, HNM.out, byt_strN _ hnb]
        have hRR : R = decide ((name (byt t)).1 = byt t) := by
          rw [HR.out, qry, d1, d2]
          simp only [Bool.true_and]
          apply decide_eq_decide.2
          constructor
          · intro h; rw [h]
          · intro h; exact Prod.ext h (by show (name (byt t)).2 = .ok; rw [← HE.out]; exact h3)
        rw [← hRR] at e4
        clear h1 h2 h3 hn hnb hRR
        go_wp2_with (first
          | (rw [HGF.out]; refine wpList_store_rowW rfl 32 _ _ rfl GF (badC E) rfl rfl 32 (badC .ok) Z4.out (by rw [badC_size]; exact info32) (by simp [badC_size]) (badC_one _) W4 HW4.out ?_))
        go_ret
        exact ⟨rfl, B4.out⟩
      · have d3 : ((EN : Int) == 0) = false := by
          rw [HEN.out]
          cases E with
          | ok => exact absurd rfl h3
          | one a c => rfl
          | two a b c => rfl
        have hRR : R = false := by
          rw [HR.out, qry]
          simp only [Bool.and_eq_false_iff, decide_eq_false_iff_not]
          right
          intro h
          exact h3 (by rw [HE.out, h])
        subst hRR
        clear h1 h2 h3
        go_wp2_with (first
          | (rw [HGF.out]; refine wpList_store_rowW rfl 32 _ _ rfl GF (badC E) rfl rfl 32 (badC .ok) Z4.out (by rw [badC_size]; exact info32) (by simp [badC_size]) (badC_one _) W4 HW4.out ?_))
        go_ret
        exact ⟨rfl, B4.out⟩
    · have d2 : decide (id ≤ 65535) = false := decide_eq_false h2
      have hRR : R = false := by rw [HR.out, qry, d2]; simp
      subst hRR
      clear h1 h2
      go_wp2_with (first
        | (rw [HGF.out]; refine wpList_store_rowW rfl 32 _ _ rfl GF (badC E) rfl rfl 32 (badC .ok) Z4.out (by rw [badC_size]; exact info32) (by simp [badC_size]) (badC_one _) W4 HW4.out ?_))
      go_ret
      exact ⟨rfl, B4.out⟩
  · have d1 : decide (0 ≤ id) = false := decide_eq_false h1
    have hRR : R = false := by rw [HR.out, qry, d1]; simp
    subst hRR
    clear h1
    go_wp2_with (first
      | (rw [HGF.out]; refine wpList_store_rowW rfl 32 _ _ rfl GF (badC E) rfl rfl 32 (badC .ok) Z4.out (by rw [badC_size]; exact info32) (by simp [badC_size]) (badC_one _) W4 HW4.out ?_))
    go_ret
    exact ⟨rfl, B4.out⟩
set_option maxRecDepth 100000 in
theorem number_new (n : Nat) (w : World) (hn : n < 65536) : Calls Tryd.prog 57 #[.int .i64 (n : Nat)] w fun e w' => e = .returned (.slice (some ⟨w.heap.size, 0, none⟩) 2 2) ∧ w' = w.alloc (.cells (nums .u8 (num2 n)).toArray 5) := by
  have hcell : (nums .u8 (num2 n)).toArray = #[.int .u8 ((n : Int) / 256 % 256), .int .u8 ((n : Int) % 256)] := by simp [nums, num2]
  rw [hcell]
  have hq : (n : Int) / 256 % 256 = n / 256 := by omega
  rw [hq]
  clear hcell hq
  go_enter Tryd.func57, Tryd.ntmps57
  go_wp2_with fail
  go_ret
  exact ⟨rfl, rfl⟩
/-- The bytes of labels, read from the front: the label so far, and the rest. -/
def lbs : List Nat → List Nat → List Nat
  | cur, [] => cur.length :: cur
  | cur, c :: r => if c = 46 then (cur.length :: cur) ++ lbs [] r else lbs (cur ++ [c]) r
theorem lbs_lbe : ∀ (r cur : List Nat), 46 ∉ cur → lbs cur r = lbe (pcs (cur ++ r))
  | [], cur, h => by rw [lbs, List.append_nil, pcs_one cur h]; simp [lbe]
  | c :: r, cur, h => by
    rw [lbs]
    split
    · rename_i hc
      rw [hc, pcs_app cur r h, lbs_lbe r [] (by simp)]
      simp [lbe]
    · rename_i hc
      rw [lbs_lbe r (cur ++ [c]) (by simp; exact ⟨h, fun e => hc e.symm⟩)]
      simp
/-- How far labels are. -/
def LabI (b TT : List Nat) (f k : Nat) (out : List Nat) : Prop := (k ≤ b.length ∧ f ≤ k ∧ out ++ lbs ((b.drop f).take (k - f)) (b.drop k) = TT) ∨ (k = b.length + 1 ∧ out = TT)
theorem byt_extract (t : ByteArray) (f k : Nat) : byt (t.extract f k) = ((byt t).drop f).take (k - f) := by
  unfold byt
  rw [ByteArray.data_extract, Array.toList_extract, List.extract_eq_take_drop, List.map_take, List.map_drop]
theorem LabI.last {b TT : List Nat} {f : Nat} {out : List Nat} (h : LabI b TT f b.length out) : LabI b TT (b.length + 1) (b.length + 1) (out ++ [b.length - f] ++ (b.drop f).take (b.length - f)) := by
  rcases h with ⟨h1, h2, h3⟩ | ⟨h1, _⟩
  · refine Or.inr ⟨rfl, ?_⟩
    rw [List.drop_length, lbs] at h3
    rw [← h3]
    simp
  · omega
theorem LabI.dot {b TT : List Nat} {f k : Nat} {out : List Nat} (h : LabI b TT f k out) (hk : k < b.length) (hc : b.getD k 0 = 46) : LabI b TT (k + 1) (k + 1) (out ++ [k - f] ++ (b.drop f).take (k - f)) := by
  rcases h with ⟨h1, h2, h3⟩ | ⟨h1, _⟩
  · refine Or.inl ⟨by omega, by omega, ?_⟩
    rw [drop_getD (d := 0) hk, hc, lbs, if_pos rfl] at h3
    rw [← h3]
    have : ((b.drop f).take (k - f)).length = k - f := by rw [List.length_take, List.length_drop]; omega
    rw [this]
    simp
  · omega
theorem LabI.on {b TT : List Nat} {f k : Nat} {out : List Nat} (h : LabI b TT f k out) (hk : k < b.length) (hc : b.getD k 0 ≠ 46) : LabI b TT f (k + 1) out := by
  rcases h with ⟨h1, h2, h3⟩ | ⟨h1, _⟩
  · refine Or.inl ⟨by omega, by omega, ?_⟩
    rw [drop_getD (d := 0) hk, lbs, if_neg hc] at h3
    rw [← h3]
    congr 2
    rw [show k + 1 - f = (k - f) + 1 by omega]
    have hkf : k - f < (b.drop f).length := by rw [List.length_drop]; omega
    rw [List.take_succ_eq_append_getElem hkf]
    congr 1
    simp [List.getD, show f + (k - f) = k by omega, List.getElem?_eq_getElem hk]
  · omega
theorem LabI.le {b TT : List Nat} {f k : Nat} {out : List Nat} (h : LabI b TT f k out) (hk : k ≤ b.length) : f ≤ k ∧ out.length ≤ TT.length := by
  rcases h with ⟨h1, h2, h3⟩ | ⟨h1, _⟩
  · exact ⟨h2, by rw [← h3]; simp⟩
  · omega
/-- An append as one step. -/
noncomputable def apbOk (ts : Array TypeId) (v u : Value) (w : World) : Bool := match (Builtin.append_ ts 22 #[v, u]).run Tryd.prog w with
  | .ok _ _ => true
  | _ => false
noncomputable def apbV (ts : Array TypeId) (v u : Value) (w : World) : Value := match (Builtin.append_ ts 22 #[v, u]).run Tryd.prog w with
  | .ok x _ => x
  | _ => undef
noncomputable def apbW (ts : Array TypeId) (v u : Value) (w : World) : World := match (Builtin.append_ ts 22 #[v, u]).run Tryd.prog w with
  | .ok _ y => y
  | _ => w
theorem run_apb {ts : Array TypeId} {v u : Value} {w : World} (h : apbOk ts v u w = true) : (Builtin.append_ ts 22 #[v, u]).run Tryd.prog w = .ok (apbV ts v u w) (apbW ts v u w) := by
  unfold apbOk at h
  unfold apbV apbW
  cases e : (Builtin.append_ ts 22 #[v, u]).run Tryd.prog w with
  | ok x y => rfl
  | _ => simp [e] at h
theorem apb_of {ts : Array TypeId} {v u v' : Value} {w w' : World} (h : (Builtin.append_ ts 22 #[v, u]).run Tryd.prog w = .ok v' w') : apbOk ts v u w = true ∧ apbV ts v u w = v' ∧ apbW ts v u w = w' := by
  unfold apbOk apbV apbW
  rw [h]
  exact ⟨rfl, rfl, rfl⟩
theorem run_opapb (ρ : Operand → Value) (dst : Option Tmp) (x y : Operand) (pos : String) (after : Array Edge) (guard : Option (Nat × Bool)) (w : World) (h : apbOk #[22, 22] (ρ x) (ρ y) w = true) :
    (execOp ρ { dst, op := .call { callee := .builtin .append, args := #[x, y], argTypes := #[22, 22] }, type := 22, pos, after, guard }).run Tryd.prog w = .ok (.value (apbV #[22, 22] (ρ x) (ρ y) w)) (apbW #[22, 22] (ρ x) (ρ y) w) := by
  unfold execOp
  simp only [resolve, invoke, builtin, Sem.run_bind, Sem.run_pure, Result.andThen_ok, List.map_toArray, List.map_cons, List.map_nil, run_apb h]
theorem run_opaps (ρ : Operand → Value) (dst : Option Tmp) (x y : Operand) (pos : String) (after : Array Edge) (guard : Option (Nat × Bool)) (w : World) (h : apbOk #[22, 9] (ρ x) (ρ y) w = true) :
    (execOp ρ { dst, op := .call { callee := .builtin .append, args := #[x, y], argTypes := #[22, 9] }, type := 22, pos, after, guard }).run Tryd.prog w = .ok (.value (apbV #[22, 9] (ρ x) (ρ y) w)) (apbW #[22, 9] (ρ x) (ρ y) w) := by
  unfold execOp
  simp only [resolve, invoke, builtin, Sem.run_bind, Sem.run_pure, Result.andThen_ok, List.map_toArray, List.map_cons, List.map_nil, run_apb h]
attribute [local go_sem ↓] run_opapb run_opaps
set_option maxRecDepth 100000 in
set_option maxHeartbeats 4000000 in
theorem labels_at (t : ByteArray) (w : World) (ht : t.size ≤ 253) : Calls Tryd.prog 58 #[.string t] w fun e w' => ∃ v, e = .returned v ∧ Own w' w.heap.size 5 v (nums .u8 (lbe (pcs (byt t)) ++ [0])) ∧ Below w.heap.size w w' := by
  obtain ⟨b, hb⟩ : ∃ b, b = byt t := ⟨_, rfl⟩
  have hbl : b.length = t.size := by rw [hb, byt_length]
  have hbt : ∀ x ∈ b, x < 256 := by rw [hb]; exact byt_lt t
  obtain ⟨TT, hTT⟩ : ∃ TT, TT = lbe (pcs b) := ⟨_, rfl⟩
  have hTl : TT.length = t.size + 1 := by rw [hTT, lbe_len _ (pcs_ne _), jn_pcs, hbl]
  rw [← hb, ← hTT]
  have HTT : Hid (lbs [] b = TT) := by show _ = _; rw [lbs_lbe b [] (by simp), hTT]; rfl
  have HTl := hide hTl
  have HB := hide hb
  have HBT := hide hbt
  have HBL := hide hbl
  obtain ⟨W1, hW1⟩ : ∃ W1, W1 = w.alloc (.cells #[] 5) := ⟨_, rfl⟩
  have b1 : Below w.heap.size w W1 := by rw [hW1]; exact (Below.refl _ _).alloc (Nat.le_refl _) _
  have o1 : Own W1 w.heap.size 5 (.slice (some ⟨w.heap.size, 0, none⟩) 0 0) (nums .u8 []) := by rw [hW1]; exact own_new5 w
  have HI0 : Hid (∃ out, Own W1 w.heap.size 5 (.slice (some ⟨w.heap.size, 0, none⟩) 0 0) (nums .u8 out) ∧ Below w.heap.size w W1 ∧ (∀ x ∈ out, x < 256) ∧ LabI b TT 0 0 out) := ⟨[], o1, b1, by simp, Or.inl ⟨by omega, by omega, by simpa using HTT.out⟩⟩
  have HW1 := hide hW1.symm
  clear hb hbl hbt hTT hTl hW1 b1 o1
  go_enter Tryd.func58, Tryd.ntmps58
  go_wp2_with fail
  rw [HW1.out]
  go_loopw [3, 4, 5] (fun o fr i wr => ∃ (f k : Nat), fr = .int .i64 f ∧ i = .int .i64 k ∧ f ≤ 300 ∧ k ≤ t.size + 1 ∧ Hid (∃ out, Own wr w.heap.size 5 o (nums .u8 out) ∧ Below w.heap.size w wr ∧ (∀ x ∈ out, x < 256) ∧ LabI b TT f k out)) (fun _ _ i _ => t.size + 1 - (intOf i).toNat)
  case atStart => exact ⟨0, 0, rfl, rfl, by omega, by omega, HI0.out⟩
  case round =>
    obtain ⟨f, k, rfl, rfl, hf3, hk, HJ⟩ := hrel
    obtain ⟨out, ho⟩ := HJ.out
    by_cases hks : k ≤ t.size
    · have d1 : decide ((k : Int) ≤ (t.size : Int)) = true := decide_eq_true (by omega)
      have d1' : decide (k ≤ t.size) = true := decide_eq_true hks
      by_cases hke : k = t.size
      · have d2 : ((k : Int) == (t.size : Int)) = true := by simp; omega
        obtain ⟨ow, bl, ob, hI⟩ := ho
        have hle := hI.le (by rw [HBL.out]; omega)
        have hTl' := HTl.out
        have hBr := bl.size
        obtain ⟨xa, xc, rfl, xs, xb⟩ := own_src ow ob
        obtain ⟨v4, w4, ap4, ow4, bl4', bu4⟩ := run_appN (w := wr.drew) (ow.keep fun _ _ => rfl) [k - f] (by simp; omega) (by simp; omega) hBr
        have bl4 : Below w.heap.size wr w4 := below_of_drew bl4'
        have hM4 : ∀ x ∈ out ++ [k - f], x < 256 := fun x hx => by rcases List.mem_append.1 hx with h | h; exact ob x h; simp at h; omega
        obtain ⟨ya, yc, rfl, _⟩ := own_src ow4 hM4
        have AP4 : Hid ((Builtin.append_ #[22, 22] 22 #[.slice xa out.length xc, .slice (some ⟨wr.heap.size, 0, none⟩) 1 1]).run Tryd.prog ((wr.alloc (.cells #[.int .u8 ((k : Int) - (f : Int))] 5)).drew) = .ok (.slice ya (out ++ [k - f]).length yc) w4) := by rw [← Int.ofNat_sub hle.1]; exact ap4
        obtain ⟨T, hT⟩ : ∃ T, T = t.extract f k := ⟨_, rfl⟩
        have hTb : byt T = (b.drop f).take (k - f) := by rw [hT, byt_extract, ← HB.out]
        have hTz : T.size ≤ 253 := by rw [← byt_length, hTb, List.length_take]; omega
        obtain ⟨v5, w5, ap5, ow5, bl5, bu5⟩ := run_apps ow4 T (by rw [List.length_append]; simp; omega) (Nat.le_trans hBr bl4.size)
        rw [hTb] at ow5
        have hM5 : ∀ x ∈ out ++ [k - f] ++ (b.drop f).take (k - f), x < 256 := fun x hx => by
          rcases List.mem_append.1 hx with h | h
          · exact hM4 x h
          · exact HBT.out x (List.mem_of_mem_drop (List.mem_of_mem_take h))
        rw [hT] at ap5
        obtain ⟨L4, hL4⟩ : ∃ L4, L4 = (out ++ [k - f]).length := ⟨_, rfl⟩
        have AP5 : Hid ((Builtin.append_ #[22, 9] 22 #[.slice ya L4 yc, .string (t.extract f k)]).run Tryd.prog w4 = .ok v5 w5) := by rw [hL4]; exact ap5
        rw [← hL4] at AP4
        obtain ⟨p1, p2, p3⟩ := apb_of AP4.out
        obtain ⟨p4, p5, p6⟩ := apb_of AP5.out
        have hfk : f ≤ k := hle.1
        have hIn : LabI b TT (k + 1) (k + 1) (out ++ [k - f] ++ (b.drop f).take (k - f)) := by
          have : k = b.length := by rw [HBL.out]; exact hke
          subst this
          exact hI.last
        have HI2 : Hid (∃ out, Own w5 w.heap.size 5 v5 (nums .u8 out) ∧ Below w.heap.size w w5 ∧ (∀ x ∈ out, x < 256) ∧ LabI b TT (k + 1) (k + 1) out) := ⟨_, ow5, (bl.trans bl4).trans bl5, hM5, hIn⟩
        clear ow bl ob hI hle hTl' xs xb ap4 ow4 bl4 bu4 hM4 ap5 ow5 bl5 bu5 hM5 hIn hL4 hT hTb hTz HJ HI0 bl4' AP4 AP5 hke
        go_wp2_with fail
        go_region
        all_goals go_wp2_with fail
        go_roundw
        case rel => exact ⟨k + 1, k + 1, by go_num, by go_num, by omega, by omega, HI2.out⟩
        case measure => simp [intOf]; omega
      · have d2 : ((k : Int) == (t.size : Int)) = false := by simp; omega
        have hx := fun w => run_ixstr t k (by omega) w
        rw [← HB.out] at hx
        have hkb : k < b.length := by rw [HBL.out]; omega
        have hcl := getD_lt HBT.out k
        by_cases h46 : b.getD k 0 = 46
        · have d3 : (((b.getD k 0 : Nat) : Int) == 46) = true := by rw [h46]; rfl
          obtain ⟨ow, bl, ob, hI⟩ := ho
          have hle := hI.le (by rw [HBL.out]; omega)
          have hTl' := HTl.out
          have hBr := bl.size
          obtain ⟨xa, xc, rfl, xs, xb⟩ := own_src ow ob
          obtain ⟨v4, w4, ap4, ow4, bl4', bu4⟩ := run_appN (w := wr.drew) (ow.keep fun _ _ => rfl) [k - f] (by simp; omega) (by simp; omega) hBr
          have bl4 : Below w.heap.size wr w4 := below_of_drew bl4'
          have hM4 : ∀ x ∈ out ++ [k - f], x < 256 := fun x hx => by rcases List.mem_append.1 hx with h | h; exact ob x h; simp at h; omega
          obtain ⟨ya, yc, rfl, _⟩ := own_src ow4 hM4
          have AP4 : Hid ((Builtin.append_ #[22, 22] 22 #[.slice xa out.length xc, .slice (some ⟨wr.heap.size, 0, none⟩) 1 1]).run Tryd.prog ((wr.alloc (.cells #[.int .u8 ((k : Int) - (f : Int))] 5)).drew) = .ok (.slice ya (out ++ [k - f]).length yc) w4) := by rw [← Int.ofNat_sub hle.1]; exact ap4
          obtain ⟨T, hT⟩ : ∃ T, T = t.extract f k := ⟨_, rfl⟩
          have hTb : byt T = (b.drop f).take (k - f) := by rw [hT, byt_extract, ← HB.out]
          have hTz : T.size ≤ 253 := by rw [← byt_length, hTb, List.length_take]; omega
          obtain ⟨v5, w5, ap5, ow5, bl5, bu5⟩ := run_apps ow4 T (by rw [List.length_append]; simp; omega) (Nat.le_trans hBr bl4.size)
          rw [hTb] at ow5
          have hM5 : ∀ x ∈ out ++ [k - f] ++ (b.drop f).take (k - f), x < 256 := fun x hx => by
            rcases List.mem_append.1 hx with h | h
            · exact hM4 x h
            · exact HBT.out x (List.mem_of_mem_drop (List.mem_of_mem_take h))
          rw [hT] at ap5
          obtain ⟨L4, hL4⟩ : ∃ L4, L4 = (out ++ [k - f]).length := ⟨_, rfl⟩
          have AP5 : Hid ((Builtin.append_ #[22, 9] 22 #[.slice ya L4 yc, .string (t.extract f k)]).run Tryd.prog w4 = .ok v5 w5) := by rw [hL4]; exact ap5
          rw [← hL4] at AP4
          obtain ⟨p1, p2, p3⟩ := apb_of AP4.out
          obtain ⟨p4, p5, p6⟩ := apb_of AP5.out
          have hfk : f ≤ k := hle.1
          have hIn := hI.dot hkb h46
          have HI2 : Hid (∃ out, Own w5 w.heap.size 5 v5 (nums .u8 out) ∧ Below w.heap.size w w5 ∧ (∀ x ∈ out, x < 256) ∧ LabI b TT (k + 1) (k + 1) out) := ⟨_, ow5, (bl.trans bl4).trans bl5, hM5, hIn⟩
          obtain ⟨ch, hch⟩ : ∃ ch, ch = b.getD k 0 := ⟨_, rfl⟩
          rw [← hch] at d3 hx
          clear ow bl ob hI hle hTl' xs xb ap4 ow4 bl4 bu4 hM4 ap5 ow5 bl5 bu5 hM5 hIn hL4 hT hTb hTz HJ HI0 bl4' AP4 AP5 h46 hch hcl
          go_wp2_with fail
          go_region
          all_goals go_wp2_with fail
          go_roundw
          case rel => exact ⟨k + 1, k + 1, by go_num, by go_num, by omega, by omega, HI2.out⟩
          case measure => simp [intOf]; omega
        · have d3 : (((b.getD k 0 : Nat) : Int) == 46) = false := by rw [beq_eq_false_iff_ne]; omega
          obtain ⟨ow, bl, ob, hI⟩ := ho
          have HI2 : Hid (∃ out, Own wr w.heap.size 5 u3 (nums .u8 out) ∧ Below w.heap.size w wr ∧ (∀ x ∈ out, x < 256) ∧ LabI b TT f (k + 1) out) := ⟨_, ow, bl, ob, hI.on hkb h46⟩
          obtain ⟨ch, hch⟩ : ∃ ch, ch = b.getD k 0 := ⟨_, rfl⟩
          rw [← hch] at d3 hx
          clear ow bl ob hI HJ HI0 h46 hch hcl
          go_wp2_with fail
          go_roundw
          case rel => exact ⟨f, k + 1, rfl, by go_num, by omega, by omega, HI2.out⟩
          case measure => simp [intOf]; omega
    · have d1 : decide ((k : Int) ≤ (t.size : Int)) = false := decide_eq_false (by omega)
      have d1' : decide (k ≤ t.size) = false := decide_eq_false hks
      obtain ⟨ow, bl, ob, hI⟩ := ho
      have hout : out = TT := by
        rcases hI with ⟨h1, _⟩ | ⟨_, h2⟩
        · rw [HBL.out] at h1; omega
        · exact h2
      subst hout
      have hTl' := HTl.out
      obtain ⟨xa, xc, rfl, xs, xb⟩ := own_src ow ob
      obtain ⟨v4, w4, ap4, ow4, bl4, bu4⟩ := run_appN ow [0] (by simp) (by simp; omega) bl.size
      have AP4 : Hid ((Builtin.append_ #[22, 22] 22 #[.slice xa out.length xc, .slice (some ⟨wr.heap.size, 0, none⟩) 1 1]).run Tryd.prog (wr.alloc (.cells #[.int .u8 0] 5)) = .ok v4 w4) := ap4
      have OW := hide ow4
      have BL := hide (bl.trans bl4)
      clear ow bl ob hI xs xb ap4 ow4 bl4 bu4 HJ HI0 hTl'
      go_wp2_with (first
        | (refine wpList_app_run _ rfl _ _ 22 22 rfl (.slice xa out.length xc) (.slice (some ⟨wr.heap.size, 0, none⟩) 1 1) rfl rfl AP4.out ?_))
      go_ret
      exact ⟨_, rfl, OW.out, BL.out⟩
end Go.Proofs.YtelfikbahcckaaaDoor
