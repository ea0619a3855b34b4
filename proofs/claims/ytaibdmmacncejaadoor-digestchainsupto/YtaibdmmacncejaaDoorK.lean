/-
  The text of a digest ('Hex' of package digest), and the examples that each statement begins with; conditions as each theorem has them.
-/
import Derived.Test.YtaibdmmacncejaaDoorJ
import Derived.Lib.SlBytesConst
set_option linter.unusedSimpArgs false
set_option linter.unusedVariables false
namespace Go.Proofs.YtaibdmmacncejaaDoor
open Go.RowKit

/-- Numbers as the bytes of a string. -/
def strN (l : List Nat) : ByteArray := ⟨(l.map UInt8.ofNat).toArray⟩
theorem strN_of (l : List Nat) : strOfNums (l.map fun (x : Nat) => (x : Int)) = strN l := by simp [strOfNums, strN]
theorem run_str (w : World) (b o len cap : Nat) (l : List Nat) (hl : l.length = len) (hc : ∀ i, i < len → w.cell? ⟨b, o + i, none⟩ = some (.int .u8 (l.getD i 0 : Nat))) : (convert 28 9 (.slice (some ⟨b, o, none⟩) len cap)).run Tryd.prog w = .ok (.string (strN l)) w := by
  rw [← strN_of]
  refine run_convert_bytes_arg (P := Tryd.prog) w 28 5 Tryd.underlying28 Tryd.underlying5 b o len cap (l.map fun (x : Nat) => (x : Int)) (by simpa using hl) (fun i hi => ?_) 9 Tryd.underlying9
  rw [hc i hi]
  have : i < l.length := by omega
  simp [List.getD, this]

theorem run_ix24 (V : Array Value) (k y : Nat) (hV : V[k]? = some (.int .u8 y)) (hk : k < 32) (w : World) : (Instr.index 24 (.agg V) (.int .i64 k)).run Tryd.prog w = .ok (.int .u8 y) w := by
  have hs : (sizeOf 5).run Tryd.prog w = .ok 1 w := by kernel_rfl
  have ha : (isAgg 5).run Tryd.prog w = .ok false w := by kernel_rfl
  have hu : Tryd.prog.underlying 24 = some (.array 32 5) := by kernel_rfl
  have h2 : (k : Int) < 32 := by omega
  simp [Instr.index, asIntOf, run_underlying hu, Go.part, hs, ha, hV, hk]
theorem hxs : ∀ q : Fin 16, ((⟨#[48, 49, 50, 51, 52, 53, 54, 55, 56, 57, 97, 98, 99, 100, 101, 102]⟩ : ByteArray).data.toList.getD q.val 0).toNat = hx q.val := by decide
theorem run_ixhex (k : IntKind) (q : Nat) (hq : q < 16) (w : World) : (Instr.index 9 (.string ⟨#[48, 49, 50, 51, 52, 53, 54, 55, 56, 57, 97, 98, 99, 100, 101, 102]⟩) (.int k q)).run Tryd.prog w = .ok (.int .u8 (hx q : Nat)) w := by
  have h16 : (⟨#[48, 49, 50, 51, 52, 53, 54, 55, 56, 57, 97, 98, 99, 100, 101, 102]⟩ : ByteArray).size = 16 := rfl
  rw [run_index_string w 9 _ k _ Tryd.underlying9, dif_pos ⟨by omega, by rw [h16]; omega⟩]
  have e : ((q : Int)).toNat = q := by omega
  simp only [e]
  have := hxs ⟨q, hq⟩
  simp only at this
  rw [← this]
  have h' : q < (⟨#[48, 49, 50, 51, 52, 53, 54, 55, 56, 57, 97, 98, 99, 100, 101, 102]⟩ : ByteArray).data.toList.length := hq
  rw [List.getD, List.getElem?_eq_getElem h']
  rfl
theorem and15 (y : Nat) (hy : y < 256) : bits .and .u8 (y : Int) 15 = (y % 16 : Nat) := by
  rw [show (15 : Int) = ((15 : Nat) : Int) from rfl, u8_and_nat y 15 hy (by omega), show (15 : Nat) = 2 ^ 4 - 1 from rfl, Nat.and_two_pow_sub_one_eq_mod]
theorem hx_lt {q : Nat} (h : q < 16) : hx q < 256 := by unfold hx; split <;> omega
theorem hexOf_length : ∀ l : List Nat, (hexOf l).length = 2 * l.length
  | [] => rfl
  | b :: t => by simp only [hexOf, List.length_cons, hexOf_length t]; omega
theorem hexOf_append : ∀ (l m : List Nat), hexOf (l ++ m) = hexOf l ++ hexOf m
  | [], m => rfl
  | b :: t, m => by simp only [List.cons_append, hexOf, hexOf_append t m]

/-- 'append' of bytes where there is room. -/
theorem run_app_into (w : World) (g n m cap : Nat) (a b z : List Nat) (ha : a.length = n) (hb : b.length = m) (hz : n + z.length = cap) (hm : m ≤ z.length) (hg : Row w g 5 (nums .u8 (a ++ z))) (h c : Nat) (hh : Row w h 5 (nums .u8 b)) :
    (Builtin.append_ #[28, 28] 28 #[.slice (some ⟨g, 0, none⟩) n cap, .slice (some ⟨h, 0, none⟩) m c]).run Tryd.prog w = .ok (.slice (some ⟨g, 0, none⟩) (n + m) cap) (w.setRow g (nums .u8 (a ++ b ++ z.drop m)).toArray) := by
  obtain ⟨i, hi, hz0, hs, hby⟩ := info5p
  have := run_append_room (P := Tryd.prog) w 28 28 5 i Tryd.underlying28 hi g n cap (nums .u8 (a ++ z)).toArray hg ⟨h, 0, none⟩ m c (nums .u8 b) (by rw [nums_length, hs, hb]; omega)
    (fun j u hu => by
      obtain ⟨hj, rfl⟩ := nums_at _ _ _ _ hu
      rw [add_none, Nat.zero_add]
      exact hh.num0 hj) (nums_one _ _) (by omega) (by rw [hs, nums_length]; simp [nums_length, ha, hb]; omega)
  rw [this]
  congr 3
  rw [hs, Nat.mul_one]
  simp [nums, List.take_append_of_le_length, ← ha, ← hb, List.drop_append]
/-- The operation 'append' as one step of a region that draws its order, where its run is known by an equation. -/
theorem step_app_run {P : Program} {ops : Array Oper} {o : Oper} {a : Act} {w : World} {K : Act → World → Prop} {Q : Exit → Act → World → Prop} {E : Prop} (hgd : o.guard = none) (d s : Operand) (t t' : TypeId)
    (ho : o.op = .call { callee := .builtin .append, args := #[d, s], argTypes := #[t, t'] }) (v u : Value) (hd : a.eval d = v) (hs : a.eval s = u) {v' : Value} {w' : World}
    (hr : (Builtin.append_ #[t, t'] o.type #[v, u]).run P w = .ok v' w') (hK : K (a.put o.dst v') w') :
    if Region.wanted o (yielded ops a.tmps) = true then Oper.wp P o a w K Q else E := by
  have hw : Region.wanted o (yielded ops a.tmps) = true := by simp [Region.wanted, hgd]
  rw [if_pos hw]
  unfold Oper.wp execOp
  simp only [ho, resolve, invoke, builtin, Sem.run_bind, Sem.run_pure, Result.andThen_ok, List.map_toArray, List.map_cons, List.map_nil, hd, hs, hr]
  exact hK

set_option maxRecDepth 100000 in
set_option maxHeartbeats 1000000 in
theorem hex_at (s : List Nat) (w : World) (hs : s.length = 32) (hb : ∀ x ∈ s, x < 256) :
    Calls Tryd.prog 19 #[.agg (nums .u8 s).toArray] w fun e w' => e = .returned (.string (strN (hexOf s))) ∧ Below w.heap.size w w' := by
  obtain ⟨V, hV⟩ : ∃ V, V = (nums .u8 s).toArray := ⟨_, rfl⟩
  rw [← hV]
  have hVs : V.size = 32 := by rw [hV]; simp [nums, hs]
  have hmk : ∀ w : World, (Instr.makeSlice 28 (.int .i64 0) (.int .i64 64)).run Tryd.prog w = .ok (.slice (some ⟨w.heap.size, 0, none⟩) 0 64) (w.alloc (.cells (nums .u8 (List.replicate 64 0)).toArray 5)) := fun w => run_make_cap 0 64 (by omega) (by omega) w
  obtain ⟨Z, hZ⟩ : ∃ Z, Z = (nums .u8 (List.replicate 64 0)).toArray := ⟨_, rfl⟩
  rw [← hZ] at hmk
  have HV := hide hV
  have HVs := hide hVs
  have HS := hide hs
  have HB := hide hb
  have HZ := hide hZ
  clear hV hVs hs hb hZ
  go_enter Tryd.func19, Tryd.ntmps19
  go_wp2_with (refine wpList_load_row rfl 24 _ rfl w.heap.size rfl 24 V _ _ (alloc_old _ (alloc_new _ _)) Tryd.underlying24 rfl ?_ ?_; (rw [HVs.out]; exact info24))
  go_loopw [3, 8] (fun t i wr => ∃ k : Nat, k ≤ 32 ∧ i = .int .i64 k ∧ t = .slice (some ⟨w.heap.size + 1, 0, none⟩) (2 * k) 64 ∧ Hid (Row wr (w.heap.size + 1) 5 (nums .u8 (hexOf (s.take k) ++ List.replicate (64 - 2 * k) 0)) ∧ Below w.heap.size w wr)) (fun _ i _ => 32 - (intOf i).toNat)
  case atStart =>
    refine ⟨0, by omega, rfl, rfl, ?_, ?_⟩
    · have := Row.new (w.alloc (.cells V 24)) Z 5
      rw [show (w.alloc (.cells V 24)).heap.size = w.heap.size + 1 by simp] at this
      rw [HZ.out] at this ⊢
      exact this
    · exact ((Below.refl _ _).alloc (Nat.le_refl _) _).alloc (by simp) _
  case round =>
    obtain ⟨k, hk, rfl, rfl, HI⟩ := hrel
    by_cases h1 : k < 32
    · have hkI : (k : Int) < 32 := by omega
      have hvk : V[k]? = some (.int .u8 (s.getD k 0 : Nat)) := by rw [HV.out, List.getElem?_toArray]; exact nums_get .u8 s k (by rw [HS.out]; exact h1)
      have hyl := getD_lt HB.out k
      obtain ⟨y, hy⟩ : ∃ y, y = s.getD k 0 := ⟨_, rfl⟩
      rw [← hy] at hvk hyl
      have hy2 : y < 256 := hyl
      have hix := run_ix24 V k y hvk h1
      obtain ⟨q1, hq1⟩ : ∃ q, q = y / 16 := ⟨_, rfl⟩
      obtain ⟨q2, hq2⟩ : ∃ q, q = y % 16 := ⟨_, rfl⟩
      have w1 : (y : Int) / 16 = q1 := by omega
      have w2 : bits .and .u8 (y : Int) 15 = q2 := by rw [hq2]; exact and15 y hy2
      have hx1 := run_ixhex .u8 q1 (by omega)
      have hx2 := run_ixhex .u8 q2 (by omega)
      have HY := hide hy
      have HQ1 := hide hq1
      have HQ2 := hide hq2
      have hq1l : (q1 : Int) < 16 := by omega
      have hq2l : (q2 : Int) < 16 := by omega
      clear hvk hy hq1 hq2
      obtain ⟨K2, hK2⟩ : ∃ K2, K2 = 2 * k := ⟨_, rfl⟩
      rw [← hK2]
      have HK2 := hide hK2
      clear hK2 hmk
      obtain ⟨i1, i2⟩ := HI.out
      obtain ⟨W1, hW1⟩ : ∃ W1, W1 = (wr.alloc (.cells #[.int .u8 (hx q1 : Nat), .int .u8 (hx q2 : Nat)] 5)).drew := ⟨_, rfl⟩
      have r1 : Row W1 wr.heap.size 5 (nums .u8 [hx q1, hx q2]) := by rw [hW1]; exact Row.new wr #[.int .u8 (hx q1 : Nat), .int .u8 (hx q2 : Nat)] 5
      have g1 : Row W1 (w.heap.size + 1) 5 (nums .u8 (hexOf (s.take k) ++ List.replicate (64 - 2 * k) 0)) := by rw [hW1]; exact i1.alloc _
      have hap := run_app_into W1 (w.heap.size + 1) K2 2 64 (hexOf (s.take k)) [hx q1, hx q2] (List.replicate (64 - 2 * k) 0) (by rw [hexOf_length, List.length_take, HS.out, HK2.out]; omega) rfl (by rw [List.length_replicate, HK2.out]; omega) (by rw [List.length_replicate]; omega) g1 wr.heap.size 2 r1
      obtain ⟨W2, hW2⟩ : ∃ W2, W2 = W1.setRow (w.heap.size + 1) (nums .u8 (hexOf (s.take k) ++ [hx q1, hx q2] ++ (List.replicate (64 - 2 * k) 0).drop 2)).toArray := ⟨_, rfl⟩
      rw [← hW2, hW1] at hap
      have HW1 := hide hW1
      have HW2 := hide hW2
      have G1 := hide g1
      have HAP := hide hap
      clear hW1 hW2 i1 i2 r1 g1 hap
      go_wp2_with fail
      go_region_held3 (fun w' => True) (trivial) ((refine step_app_run (by rfl) _ _ 28 28 (by rfl) _ _ (by rfl) (by rfl) HAP.out ?_))
      all_goals
        clear hix hx1 hx2 w1 w2
        go_wp2_with fail
        go_roundw
        case rel =>
          obtain ⟨i1, i2⟩ := HI.out
          have l1 := i1.lt
          refine ⟨k + 1, by omega, by go_num, by rw [HK2.out]; rfl, ?_, ?_⟩
          · have e : hexOf (s.take (k + 1)) ++ List.replicate (64 - 2 * (k + 1)) 0 = hexOf (s.take k) ++ [hx q1, hx q2] ++ (List.replicate (64 - 2 * k) 0).drop 2 := by
              have hl : k < s.length := by rw [HS.out]; exact h1
              have es : s[k] = y := by rw [HY.out]; simp [List.getD, List.getElem?_eq_getElem hl]
              rw [List.take_succ_eq_append_getElem hl, hexOf_append, es, HQ1.out, HQ2.out, List.drop_replicate, show 64 - 2 * k - 2 = 64 - 2 * (k + 1) by omega]
              rfl
            rw [e, HW2.out]
            exact setRow_heap _ _ _ _ _ _ G1.out
          · rw [HW2.out, HW1.out]
            exact i2.trans (((((Kept.refl (w.heap.size + 1) (w.heap.size + 1) wr).alloc _).drewN 1).setRow (Or.inl rfl) _).below (by omega) (by omega) i2.size)
        case measure => simp [intOf]; omega
    · obtain ⟨i1, i2⟩ := HI.out
      have hk2 : k = 32 := by omega
      have ek : hexOf (s.take k) ++ List.replicate (64 - 2 * k) 0 = hexOf s := by rw [hk2, List.take_of_length_le (by rw [HS.out]; omega)]; simp
      rw [ek] at i1
      have hst := run_str wr (w.heap.size + 1) 0 (2 * k) 64 (hexOf s) (by rw [hexOf_length, HS.out, hk2]) (fun i hi => by rw [Nat.zero_add]; exact i1.num0 (by rw [hexOf_length, HS.out]; omega))
      have I2 := hide i2
      obtain ⟨S, hS⟩ : ∃ S, S = strN (hexOf s) := ⟨_, rfl⟩
      rw [← hS] at hst
      have HS' := hide hS
      clear hmk i1 i2 HI ek hk2 hS
      go_wp2_with fail
      go_ret
      exact ⟨by rw [HS'.out]; rfl, I2.out⟩

theorem mem_dig (m : List Nat) : ∀ x ∈ dig m, x < 256 := by
  intro x hx
  have h : ∀ n, ∀ x ∈ hf n 4, x < 256 := by
    intro n x hx
    simp only [hf, List.mem_map] at hx
    obtain ⟨i, _, rfl⟩ := hx
    omega
  simp only [dig, bytesOf, List.mem_append] at hx
  rcases hx with ((((((hx | hx) | hx) | hx) | hx) | hx) | hx) | hx <;> exact h _ x hx

theorem parts_nil (w : World) : Parts w none 0 0 [] := ⟨rfl, Nat.le_refl _, Nat.zero_le _, fun _ => rfl, fun h => by omega⟩
theorem str_nil : strN (hexOf (dig [])) = ⟨#[101, 51, 98, 48, 99, 52, 52, 50, 57, 56, 102, 99, 49, 99, 49, 52, 57, 97, 102, 98, 102, 52, 99, 56, 57, 57, 54, 102, 98, 57, 50, 52, 50, 55, 97, 101, 52, 49, 101, 52, 54, 52, 57, 98, 57, 51, 52, 99, 97, 52, 57, 53, 57, 57, 49, 98, 55, 56, 53, 50, 98, 56, 53, 53]⟩ := by
  rw [dig_nil]; rfl
theorem str_abc : strN (hexOf (dig [97, 98, 99])) = ⟨#[98, 97, 55, 56, 49, 54, 98, 102, 56, 102, 48, 49, 99, 102, 101, 97, 52, 49, 52, 49, 52, 48, 100, 101, 53, 100, 97, 101, 50, 50, 50, 51, 98, 48, 48, 51, 54, 49, 97, 51, 57, 54, 49, 55, 55, 97, 57, 99, 98, 52, 49, 48, 102, 102, 54, 49, 102, 50, 48, 48, 49, 53, 97, 100]⟩ := by
  rw [dig_abc]; rfl

/-- A row that begins with the bytes l, whatever its mark. -/
theorem src_of_block {w : World} {g n cap : Nat} {ty : TypeId} {fr : Nat × Nat} {l : List Nat} {z : List Value} (h : w.heap[g]? = some (.cells (nums .u8 l ++ z).toArray ty fr)) (hn : l.length = n) (hc : n ≤ cap) (hm : cap ≤ maxLen) (hb : ∀ x ∈ l, x < 256) : Src w (some ⟨g, 0, none⟩) n cap l :=
  ⟨hn, hc, hm, fun e => (by cases e), fun h0 => ⟨g, 0, rfl, lt_of_some h, fun i hi => by
    rw [Nat.zero_add]
    simp only [World.cell?, h]
    rw [List.getElem?_toArray, List.getElem?_append_left (by rw [nums_length]; omega)]
    exact nums_get .u8 l i (by omega)⟩, hb⟩

set_option maxRecDepth 100000 in
set_option maxHeartbeats 1000000 in
theorem works_at (w : World) (hT : Tabs w) : Calls Tryd.prog 12 #[] w fun e w' => e = .returned (.bool true) ∧ Below w.heap.size w w' := by
  have h2 := hT.size
  have HT := hide hT
  clear hT
  go_enter Tryd.func12, Tryd.ntmps12
  go_wp2_with fail
  refine (sum_at none 0 0 [] _ HT.out (parts_nil _) (by simp)).mono ?_
  rintro e w1 ⟨rfl, b1⟩
  have hs1 := b1.size
  have B1 := hide b1
  clear b1
  go_wp2_with fail
  refine (hex_at (dig []) _ (dig_length _) (mem_dig _)).mono ?_
  rintro e w2 ⟨rfl, b2⟩
  have hs2 := b2.size
  have B2 : Hid (Below w.heap.size w w2) := B1.out.trans (b2.mono hs1)
  clear b2 B1
  rw [str_nil]
  have hcv1 := fun (w : World) (C : Array Value) (n c : Nat) => Lib.run_convert_bytes_const (P := Tryd.prog) w 28 5 C n c Tryd.underlying28 Tryd.underlying5
  have hcv2 := Lib.run_convert_bytes_const (P := Tryd.prog) (w2.alloc (.cells #[.int .u8 97] 5 (1, 2))) 28 5 #[.int .u8 98, .int .u8 99] 2 2 Tryd.underlying28 Tryd.underlying5
  rw [show (w2.alloc (.cells #[.int .u8 97] 5 (1, 2))).heap.size = w2.heap.size + 1 by simp] at hcv2
  obtain ⟨W3, hW3⟩ : ∃ W3, W3 = ((w2.alloc (.cells #[.int .u8 97] 5 (1, 2))).alloc (.cells #[.int .u8 98, .int .u8 99] 5 (2, 3))).alloc (.cells #[.slice (some ⟨w2.heap.size, 0, none⟩) 1 1, .slice none 0 0, .slice (some ⟨w2.heap.size + 1, 0, none⟩) 2 2] 28) := ⟨_, rfl⟩
  have hr1 : W3.heap[w2.heap.size]? = some (.cells (nums .u8 [97] ++ []).toArray 5 (1, 2)) := by rw [hW3]; exact alloc_old _ (alloc_old _ (alloc_new _ _))
  have hr2 : W3.heap[w2.heap.size + 1]? = some (.cells (nums .u8 [98, 99] ++ []).toArray 5 (2, 3)) := by rw [hW3]; exact alloc_old _ (alloc_new2 _ _ _)
  have hr3 : Row W3 (w2.heap.size + 2) 28 [.slice (some ⟨w2.heap.size, 0, none⟩) 1 1, .slice none 0 0, .slice (some ⟨w2.heap.size + 1, 0, none⟩) 2 2] := by
    rw [hW3]
    have := Row.new ((w2.alloc (.cells #[.int .u8 97] 5 (1, 2))).alloc (.cells #[.int .u8 98, .int .u8 99] 5 (2, 3))) #[.slice (some ⟨w2.heap.size, 0, none⟩) 1 1, .slice none 0 0, .slice (some ⟨w2.heap.size + 1, 0, none⟩) 2 2] 28
    rw [show ((w2.alloc (.cells #[.int .u8 97] 5 (1, 2))).alloc (.cells #[.int .u8 98, .int .u8 99] 5 (2, 3))).heap.size = w2.heap.size + 2 by simp] at this
    exact this
  have hb3 : Below w2.heap.size w2 W3 := by
    rw [hW3]
    exact (((Below.refl _ _).alloc (Nat.le_refl _) _).alloc (by simp) _).alloc (by simp; omega) _
  have hs3 := hb3.size
  have B3 : Hid (Below w.heap.size w W3) := B2.out.trans (hb3.mono (by omega))
  have hp : Parts W3 (some ⟨w2.heap.size + 2, 0, none⟩) 3 3 [[97], [], [98, 99]] := by
    refine ⟨rfl, Nat.le_refl _, by unfold maxLen; omega, fun e => (by cases e), fun _ => ⟨_, 0, rfl, hr3.lt, fun i hi => ?_⟩⟩
    match i, hi with
    | 0, _ => exact ⟨_, _, _, hr3.cell 0, src_of_block hr1 rfl (Nat.le_refl _) (by unfold maxLen; omega) (by simp)⟩
    | 1, _ => exact ⟨_, _, _, hr3.cell 1, ⟨rfl, Nat.le_refl _, Nat.zero_le _, fun _ => rfl, fun h => (by omega), by simp [List.getD]⟩⟩
    | 2, _ => exact ⟨_, _, _, hr3.cell 2, src_of_block hr2 rfl (Nat.le_refl _) (by unfold maxLen; omega) (by simp)⟩
  have HP := hide hp
  have HW3 := hide hW3
  have HT3 : Hid (Tabs W3) := HT.out.below B3.out h2
  have hsw : w2.heap.size + 3 = W3.heap.size := by rw [hW3]; simp
  clear hp hr1 hr2 hr3 hb3 hW3
  go_wp2_with fail
  clear hcv1 hcv2
  rw [← HW3.out]
  refine (sum_at _ 3 3 [[97], [], [98, 99]] W3 HT3.out HP.out (by simp)).mono ?_
  rintro e w4 ⟨rfl, b4⟩
  have hs4 := b4.size
  have B4 : Hid (Below w.heap.size w w4) := B3.out.trans (b4.mono (by omega))
  clear b4
  go_wp2_with fail
  refine (hex_at (dig [97, 98, 99]) _ (dig_length _) (mem_dig _)).mono ?_
  rintro e w5 ⟨rfl, b5⟩
  have B5 : Hid (Below w.heap.size w w5) := B4.out.trans (b5.mono (by omega))
  clear b5
  rw [str_abc]
  go_wp2_with fail
  go_ret
  exact ⟨rfl, B5.out⟩
end Go.Proofs.YtaibdmmacncejaaDoor
