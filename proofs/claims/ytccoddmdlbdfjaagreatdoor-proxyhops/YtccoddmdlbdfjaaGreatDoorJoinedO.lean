/-
  Slices that a call appends to; ParseName of package host; conditions as each theorem has them.
-/
import Derived.Test.YtccoddmdlbdfjaaGreatDoorH
import Derived.Test.YtccoddmdlbdfjaaGreatDoorG
set_option linter.unusedSimpArgs false
set_option linter.unusedVariables false
namespace Go.Proofs.YtccoddmdlbdfjaaGreatDoor
open Go.RowKit

/-- v is the call's own slice of the values xs, each one cell, in a block from B on. -/
def Own (w : World) (B : Nat) (e : TypeId) (v : Value) (xs : List Value) : Prop := w.ownsRow B e 1 v xs.length xs
theorem Own.keep {w w' : World} {B : Nat} {e : TypeId} {v : Value} {xs : List Value} (h : Own w B e v xs) (k : ∀ g, v.ownBlock = some g → w'.heap[g]? = w.heap[g]?) : Own w' B e v xs := by
  refine ⟨h.1, ?_⟩
  rcases h.2 with h0 | ⟨x, cap, cur, hv, hx, hh, hrest⟩
  · exact Or.inl h0
  · exact Or.inr ⟨x, cap, cur, hv, hx, (k x (by rw [hv]; rfl)).trans hh, hrest⟩
theorem Own.block {w : World} {B : Nat} {e : TypeId} {v : Value} {xs : List Value} (h : Own w B e v xs) {g : Nat} (hg : v.ownBlock = some g) : B ≤ g ∧ ∃ cur, w.heap[g]? = some (.cells cur e) := by
  rcases h.2 with ⟨rfl, _⟩ | ⟨x, cap, cur, rfl, hx, hh, hrest⟩
  · cases hg
  · simp [Value.ownBlock] at hg
    subst hg
    exact ⟨hx, cur, hh⟩
theorem Own.below {w w' : World} {B : Nat} {e : TypeId} {v : Value} {xs : List Value} (h : Own w B e v xs) (k : Below w.heap.size w w') : Own w' B e v xs :=
  h.keep fun g hg => by
    obtain ⟨_, cur, hh⟩ := h.block hg
    exact k.block g (lt_of_some hh)
/-- Where it lies. -/
theorem Own.lies {w : World} {B : Nat} {e : TypeId} {v : Value} {xs : List Value} (h : Own w B e v xs) (h0 : 0 < xs.length) : ∃ g cap, v = .slice (some ⟨g, 0, none⟩) xs.length cap ∧ B ≤ g ∧ g < w.heap.size ∧ xs.length ≤ cap ∧ cap ≤ maxLen ∧ (∀ j u, xs[j]? = some u → w.cell? ⟨g, j, none⟩ = some u) ∧ ∀ j, w.frozen? ⟨g, j, none⟩ = false := by
  rcases h.2 with ⟨rfl, e0⟩ | ⟨g, cap, cur, rfl, hx, hh, hc, hm, hs, ht⟩
  · omega
  · refine ⟨g, cap, rfl, hx, lt_of_some hh, hc, hm, fun j u hu => ?_, fun j => by simp [World.frozen?, hh]⟩
    have hj := (List.getElem?_eq_some_iff.1 hu).1
    rw [Nat.mul_one] at ht
    have : cur.toList[j]? = some u := by rw [← hu, ← ht, List.getElem?_take, if_pos (by omega)]
    simp only [World.cell?, hh]
    simpa using this
theorem Own.set {w : World} {B : Nat} {e : TypeId} {g n cap : Nat} {xs : List Value} (h : Own w B e (.slice (some ⟨g, 0, none⟩) n cap) xs) (j : Nat) (u : Value) : Own (w.setCell ⟨g, j, none⟩ u) B e (.slice (some ⟨g, 0, none⟩) n cap) (xs.set j u) := by
  refine ⟨by rw [List.length_set]; exact h.1, ?_⟩
  rcases h.2 with ⟨e0, _⟩ | ⟨g', cap', cur, hv, hx, hh, hc, hm, hs, ht⟩
  · cases e0
  · simp only [Value.slice.injEq, Option.some.injEq, Addr.mk.injEq, and_true] at hv
    obtain ⟨rfl, h2, rfl⟩ := hv
    refine Or.inr ⟨g, cap, cur.setIfInBounds j u, ?_, hx, heap_setCell_same hh j u, by rw [List.length_set]; exact hc, hm, by simpa using hs, ?_⟩
    · rw [List.length_set, h2]
    · rw [List.length_set]
      rw [Nat.mul_one] at ht ⊢
      rw [Array.toList_setIfInBounds, List.take_set, ht]
theorem own_app (sl e : TypeId) (z : Value) (by_ : Nat) (hu : Tryz.prog.underlying sl = some (.slice e)) (hinf : ∃ i, Tryz.prog.info? e = some i ∧ i.zero = some z ∧ i.size = 1 ∧ i.bytes = by_) (hzc : z.cells.size = 1)
    {w : World} {B : Nat} {v : Value} {xs : List Value} (hown : Own w B e v xs) (a : Addr) (m c : Nat) (news : List Value) (hl : news.length = m) (hnews : ∀ j u, news[j]? = some u → w.cell? (a.add j) = some u) (h1 : ∀ u ∈ news, u.oneCell' = true)
    (hlen : (xs.length + m) * by_ ≤ 140737488355328) (h63 : xs.length + m ≤ 140737488355328) (hB : B ≤ w.heap.size) :
    ∃ v' w', (Builtin.append_ #[sl, sl] sl #[v, .slice (some a) m c]).run Tryz.prog w = .ok v' w' ∧ Own w' B e v' (xs ++ news) ∧ Below B w w' ∧ (∀ k, k < w.heap.size → v.ownBlock ≠ some k → w'.heap[k]? = w.heap[k]?) := by
  obtain ⟨i, hi, hz, hsz, hby⟩ := hinf
  obtain ⟨v', w', hr, ho, hg, _⟩ := run_append_own (P := Tryz.prog) w B sl sl e i z 1 by_ hu hi hz hsz hby hzc (by omega) v xs.length xs hown a m c news (by omega) hnews h1 (by unfold maxLen; omega) hlen hB
  refine ⟨v', w', hr, ?_, (Below.refl B w).grown hg hB (fun k hk => (hown.block hk).1), fun k hk hne => ?_⟩
  · unfold Own
    rw [List.length_append, hl]
    exact ho
  · exact hg.block k hk (fun e => hne e.symm)
theorem inf9 : ∃ i, Tryz.prog.info? 9 = some i ∧ i.zero = some (.string ⟨#[]⟩) ∧ i.size = 1 ∧ i.bytes = 16 := info_parts (by kernel_rfl)
theorem inf3 : ∃ i, Tryz.prog.info? 3 = some i ∧ i.zero = some (.int .i64 0) ∧ i.size = 1 ∧ i.bytes = 8 := info_parts (by kernel_rfl)
/-- The operation 'append' for the walk, where its run is known by an equation. -/
theorem wpList_app_run {P : Program} (w : World) {ops : Array Oper} {rest : List Oper} {o : Oper} {a : Act} {Q : Exit → Act → World → Prop} (hgd : o.guard = none) (d s : Operand) (t t' : TypeId)
    (ho : o.op = .call { callee := .builtin .append, args := #[d, s], argTypes := #[t, t'] }) (v u : Value) (hd : a.eval d = v) (hs : a.eval s = u) {v' : Value} {w' : World}
    (hr : (Builtin.append_ #[t, t'] o.type #[v, u]).run P w = .ok v' w') (h : wpList P ops Q rest (a.put o.dst v') w') : wpList P ops Q (o :: rest) a w := by
  refine wpList_plain hgd fun K hK => ?_
  unfold Oper.wp execOp
  simp only [ho, resolve, invoke, builtin, Sem.run_bind, Sem.run_pure, Result.andThen_ok, List.map_toArray, List.map_cons, List.map_nil, hd, hs, hr]
  exact hK _ _ h
theorem strN_of (l : List Nat) : strOfNums (l.map fun (x : Nat) => (x : Int)) = strN l := by simp [strOfNums, strN]
theorem run_str (w : World) (b o len cap : Nat) (l : List Nat) (hl : l.length = len) (hc : ∀ i, i < len → w.cell? ⟨b, o + i, none⟩ = some (.int .u8 (l.getD i 0 : Nat))) : (convert 35 9 (.slice (some ⟨b, o, none⟩) len cap)).run Tryz.prog w = .ok (.string (strN l)) w := by
  rw [← strN_of]
  refine run_convert_bytes_arg (P := Tryz.prog) w 35 5 Tryz.underlying35 Tryz.underlying5 b o len cap (l.map fun (x : Nat) => (x : Int)) (by simpa using hl) (fun i hi => ?_) 9 Tryz.underlying9
  rw [hc i hi]
  have : i < l.length := by omega
  simp [List.getD, this]
theorem run_make_cap (l c : Nat) (hlc : l ≤ c) (hc : c ≤ 140737488355328) (w : World) : (Instr.makeSlice 35 (.int .i64 l) (.int .i64 c)).run Tryz.prog w = .ok (.slice (some ⟨w.heap.size, 0, none⟩) l c) (w.alloc (.cells (nums .u8 (List.replicate c 0)).toArray 5)) := by
  obtain ⟨i, hi, hz, hs, hb⟩ := info5p
  have hr := run_make (P := Tryz.prog) w 35 5 i (.int .u8 0) Tryz.underlying35 hi hz .i64 .i64 l c (by omega) (by omega) (by rw [hb]; omega) (by omega)
  simp only [Int.toNat_natCast, hs, Nat.mul_one] at hr
  rw [hr]
  have e : madeCells (Value.int .u8 0).cells c = (nums .u8 (List.replicate c 0)).toArray := by
    show madeCells #[Value.int .u8 0] c = _
    rw [← Array.toList_inj, toList_madeCells_one]
    simp [nums]
  rw [e]
theorem jn_snoc : ∀ (qs : List (List Nat)) (p : List Nat), qs ≠ [] → jn (qs ++ [p]) = jn qs ++ 46 :: p
  | [], _, h => absurd rfl h
  | [q], p, _ => rfl
  | q :: r :: s, p, _ => by
    have ih := jn_snoc (r :: s) p (by simp)
    simp only [List.cons_append, jn] at ih ⊢
    rw [ih]; simp
theorem jn_app : ∀ (qs rs : List (List Nat)), qs ≠ [] → rs ≠ [] → jn (qs ++ rs) = jn qs ++ 46 :: jn rs
  | [], _, h, _ => absurd rfl h
  | [q], r :: rs, _, _ => rfl
  | q :: r :: s, rs, _, h => by
    have ih := jn_app (r :: s) rs (by simp) h
    simp only [List.cons_append, jn] at ih ⊢
    rw [ih]; simp
theorem take_getD {α : Type} {ps : List α} {k : Nat} {d : α} (h : k < ps.length) : ps.take (k + 1) = ps.take k ++ [ps.getD k d] := by
  rw [List.take_succ_eq_append_getElem h, List.getD, List.getElem?_eq_getElem h]; rfl
theorem jn_take_len (ps : List (List Nat)) (k : Nat) : (jn (ps.take k)).length ≤ (jn ps).length := by
  by_cases h1 : ps.take k = []
  · rw [h1]; simp [jn]
  · by_cases h2 : ps.drop k = []
    · have : ps.take k = ps := by have := List.take_append_drop k ps; rw [h2, List.append_nil] at this; exact this
      rw [this]; exact Nat.le_refl _
    · have := jn_app (ps.take k) (ps.drop k) h1 h2
      rw [List.take_append_drop] at this
      rw [this]; simp
end Go.Proofs.YtccoddmdlbdfjaaGreatDoor

set_option linter.unusedSimpArgs false
set_option linter.unusedVariables false
namespace Go.Proofs.YtccoddmdlbdfjaaGreatDoor
open Go.RowKit

theorem labs_none : ∀ (ps : List (List Nat)) (a : Nat), labs a ps = none → ∀ p ∈ ps, labB p = true
  | [], _, _ => by simp
  | p :: ps, a, h => by
    unfold labs at h
    split at h
    · rename_i hp
      intro q hq
      simp at hq
      rcases hq with rfl | hq
      · exact hp
      · exact labs_none ps _ h q hq
    · cases h
theorem getLastD_getD {ps : List (List Nat)} (h : 0 < ps.length) : ps.getLastD [] = ps.getD (ps.length - 1) [] := by
  rw [List.getLastD_eq_getLast?, List.getLast?_eq_getElem?, List.getD]

set_option maxRecDepth 100000 in
set_option maxHeartbeats 4000000 in
theorem parseName_at (t : ByteArray) (w : World) (hm : t.size ≤ maxLen) (hV : Vars w) : Calls Tryz.prog 161 #[.string t] w fun e w' => ∃ v, e = .returned (.tuple #[.string (strN (name (byt t)).1), v]) ∧ IsEr w' (name (byt t)).2 v ∧ Below w.heap.size w w' := by
  obtain ⟨l, hl⟩ : ∃ l, l = byt t := ⟨_, rfl⟩
  rw [← hl]
  have HL : Hid (byt t = l) := hl.symm
  obtain ⟨N, hN⟩ : ∃ N, N = t.size := ⟨_, rfl⟩
  have HNL : Hid (N = l.length) := by show _ = _; rw [hN, hl, byt_length]
  have HLT : Hid (∀ x ∈ l, x < 256) := by rw [hl]; exact byt_lt t
  have hNI : (t.size : Int) = (N : Int) := by rw [hN]
  have HN := hide hN
  rw [← hN] at hm
  unfold maxLen at hm
  obtain ⟨m, hV⟩ := hV
  have HV := hide hV
  have h0 := lt_of_cell hV
  simp only at h0
  clear hl hN hV
  by_cases h253 : 253 < N
  · have HR : Hid (name l = ([], .one 253 3)) := by show _ = _; rw [name, if_pos (by rw [← HNL.out]; exact h253)]
    have hd : decide (253 < (N : Int)) = true := decide_eq_true (by omega)
    have hd' : decide (253 < N) = true := decide_eq_true (by omega)
    go_enter Tryz.func161, Tryz.ntmps161
    go_wp2_with fail
    refine (refuse_er 253 3 _).mono ?_
    rintro e w3 ⟨v, rfl, her, hb3⟩
    have HER := hide her
    have B3 := hide hb3
    clear her hb3
    go_wp2_with fail
    go_ret2
    refine ⟨v, ?_, ?_, B3.out⟩
    · rw [HR.out]; rfl
    · rw [HR.out]; exact HER.out
  have hd : decide (253 < (N : Int)) = false := decide_eq_false (by omega)
  have hd' : decide (253 < N) = false := decide_eq_false (by omega)
  have hN253 : N ≤ 253 := by omega
  clear h253
  obtain ⟨ps, hps⟩ : ∃ ps, ps = pcs l := ⟨_, rfl⟩
  have hln := pcs_len l
  rw [← hps] at hln
  have HPL : Hid (∀ p ∈ ps, p.length ≤ N) := fun p hp => by have := hln.2 p hp; have := HNL.out; omega
  have HPB : Hid (∀ p ∈ ps, ∀ x ∈ p, x < 256) := by rw [hps]; exact pcs_lt HLT.out
  have HJL : Hid (jn ps = l) := by show _ = _; rw [hps, jn_pcs]
  have hln1 := hln.1
  obtain ⟨n, hn⟩ : ∃ n, n = ps.length := ⟨_, rfl⟩
  have hn254 : n ≤ 254 := by have := HNL.out; omega
  have hn1 : 1 ≤ n := by
    rw [hn, hps]
    exact List.length_pos_iff.2 (pcs_ne l)
  have HAD : Hid (name l = match labs 0 ps with
      | some a => ([], .one a 61)
      | none => if (ps.getLastD []).all dig = true then ([], .one (N - (ps.getLastD []).length) 63) else (low l, .ok)) := by
    show _ = _
    rw [name, if_neg (by rw [← HNL.out]; omega), ← hps, ← HNL.out]
    rfl
  have HPS : Hid (pcs (byt t) = ps) := by show _ = _; rw [HL.out, hps]
  have HNN := hide hn
  have hmk : ∀ w, (Instr.makeSlice 35 (.int .i64 0) (.int .i64 (N : Int))).run Tryz.prog w = .ok (.slice (some ⟨w.heap.size, 0, none⟩) 0 N) (w.alloc (.cells (nums .u8 (List.replicate N 0)).toArray 5)) := fun w => run_make_cap 0 N (by omega) (by omega) w
  clear hln hln1 hps hn
  go_enter Tryz.func161, Tryz.ntmps161
  go_wp2_with fail
  clear hmk
  refine (split_at t m _ (w.heap.size + 1) (by simp) (by rw [← HN.out]; omega) (by
    rw [World.cell?_alloc_lt _ _ ⟨0, 0, none⟩ h0]; exact HV.out)).mono ?_
  rintro e w1 ⟨rfl, hw1⟩
  rw [HPS.out] at hw1 ⊢
  rw [← HNN.out]
  have i2 : Own w1 w.heap.size 5 (.slice (some ⟨w.heap.size, 0, none⟩) 0 N) [] := by
    refine ⟨rfl, Or.inr ⟨w.heap.size, N, (nums .u8 (List.replicate N 0)).toArray, rfl, Nat.le_refl _, ?_, Nat.zero_le _, by unfold maxLen; omega, by simp [nums_length], rfl⟩⟩
    rw [hw1]; exact alloc_old _ (alloc_new _ _)
  have i3 : Row w1 (w.heap.size + 1) 9 (strs ps) := by
    rw [hw1]
    have := Row.new (w.alloc (.cells (nums .u8 (List.replicate N 0)).toArray 5)) (strs ps).toArray 9
    simpa using this
  have i4 : Below w.heap.size w w1 := by
    rw [hw1]; exact ((Below.refl _ _).alloc (Nat.le_refl _) _).alloc (by simp) _
  have HI : Hid (Own w1 w.heap.size 5 (.slice (some ⟨w.heap.size, 0, none⟩) 0 N) (nums .u8 (low (jn (ps.take 0)))) ∧ Row w1 (w.heap.size + 1) 9 (strs ps) ∧ Below w.heap.size w w1) := ⟨i2, i3, i4⟩
  clear i2 i3 i4 hw1
  go_wp2_with fail
  go_loopw [4, 6, 23] (fun f at_ i wr => ∃ k a : Nat, k ≤ n ∧ i = .int .i64 k ∧ at_ = .int .i64 a ∧ a ≤ 254 * k ∧ Hid (labs 0 ps = labs a (ps.drop k) ∧ Own wr w.heap.size 5 f (nums .u8 (low (jn (ps.take k)))) ∧ Row wr (w.heap.size + 1) 9 (strs ps) ∧ Below w.heap.size w wr)) (fun _ _ i _ => n - (intOf i).toNat)
  case atStart => exact ⟨0, 0, by omega, rfl, rfl, by omega, rfl, HI.out⟩
  case round =>
    obtain ⟨k, a, hk, rfl, rfl, ha, HI⟩ := hrel
    obtain ⟨j1, i2, i3, i4⟩ := HI.out
    by_cases hkn : k < n
    · have hkn' : k < ps.length := by rw [← HNN.out]; exact hkn
      have hc : wr.cell? ⟨w.heap.size + 1, k, none⟩ = some (.string (strN (ps.getD k []))) := by rw [i3.cell]; exact strs_get ps k hkn'
      obtain ⟨p, hp⟩ : ∃ p, p = ps.getD k [] := ⟨_, rfl⟩
      have hpm : p ∈ ps := by rw [hp]; exact getD_mem hkn'
      have hpl := HPL.out p hpm
      have hpb := HPB.out p hpm
      have htk : ps.take (k + 1) = ps.take k ++ [p] := by rw [take_getD (d := []) hkn', hp]
      have hjl : (jn (ps.take k)).length ≤ N := by
        have := jn_take_len ps k
        rw [HJL.out] at this
        have := HNL.out; omega
      rw [drop_getD (d := []) hkn', ← hp] at j1
      rw [← hp] at hc
      have hdn : decide ((k : Int) < (n : Int)) = true := decide_eq_true (by omega)
      have hps : ((strN p).size : Int) = (p.length : Int) := by rw [strN_size]
      obtain ⟨P, hP⟩ : ∃ P, P = p.length := ⟨_, rfl⟩
      rw [← hP] at hps hpl
      have HP := hide hP
      have HPB' := hide hpb
      have J1 := hide j1
      have I2 := hide i2
      have I3 := hide i3
      have I4 := hide i4
      by_cases hk0 : k = 0
      · have g1 : decide (0 < (k : Int)) = false := decide_eq_false (by omega)
        have g2 : decide (0 < k) = false := decide_eq_false (by omega)
        have HJN : Hid (low (jn (ps.take (k + 1))) = low (jn (ps.take k)) ++ low p) := by
          show _ = _
          rw [htk, hk0]; simp [jn, low]
        have HLN : Hid ((low (jn (ps.take k))).length = (jn (ps.take k)).length) := low_length _
        have hjl2 := hjl
        clear hp hpm hpb j1 i2 i3 i4 hP htk hk0 hkn'
        generalize (jn (ps.take k)).length = JL at HLN hjl2 hjl
        go_wp2_with fail
        refine (readLabel_at (strN p) wr (by rw [strN_size, ← HP.out]; unfold maxLen; omega)).mono ?_
        rintro e w2 ⟨sv, rfl, hb2, hs2⟩
        rw [byt_strN p HPB'.out] at hs2 ⊢
        have o2 : Own w2 w.heap.size 5 u4 (nums .u8 (low (jn (ps.take k)))) := I2.out.below hb2
        have r2 : Row w2 (w.heap.size + 1) 9 (strs ps) := I3.out.keep (hb2.block _ I3.out.lt)
        have b2 : Below w.heap.size w w2 := I4.out.trans (hb2.mono I4.out.size)
        cases hlab : labB p with
        | false =>
          have HR : Hid (name l = ([], .one a 61)) := by
            show _ = _
            rw [HAD.out, J1.out, labs, if_neg (by simp [hlab])]
          have B2 := hide b2
          clear hs2 hb2 o2 r2 b2 hlab
          go_wp2_with fail
          refine (refuse_er a 61 _).mono ?_
          rintro e w3 ⟨v, rfl, her, hb3⟩
          have HER := hide her
          have B3 := hide (B2.out.trans (hb3.mono B2.out.size))
          clear her hb3
          go_wp2_with fail
          go_ret2
          refine ⟨v, ?_, ?_, B3.out⟩
          · rw [HR.out]; rfl
          · rw [HR.out]; exact HER.out
        | true =>
          obtain ⟨rfl, hrow2⟩ := hs2 hlab
          have hne : w.heap.size + 1 ≠ wr.heap.size := by have := I3.out.lt; omega
          obtain ⟨f3, w3, hap3, o3, b3, k3⟩ := own_app 35 5 (.int .u8 0) 1 Tryz.underlying35 info5p rfl o2 ⟨wr.heap.size, 0, none⟩ p.length p.length (nums .u8 (low p)) (by rw [nums_length, low_length])
            (fun j u hu => by rw [add_none, Nat.zero_add, hrow2.cell]; exact hu) (nums_one _ _) (by rw [nums_length, HLN.out]; have := HP.out; omega) (by rw [nums_length, HLN.out]; have := HP.out; omega) b2.size
          have r3 : Row w3 (w.heap.size + 1) 9 (strs ps) := by
            refine r2.keep (k3 _ r2.lt fun e => ?_)
            obtain ⟨_, cur, hc⟩ := o2.block e
            have := r2
            unfold Row at this
            rw [hc] at this
            simp at this
          have HN3 : Hid (labs 0 ps = labs (a + P + 1) (ps.drop (k + 1))) := by
            show _ = _
            rw [J1.out, labs, if_pos hlab, HP.out]
          have HO3 : Hid (Own w3 w.heap.size 5 f3 (nums .u8 (low (jn (ps.take (k + 1)))))) := by
            rw [← nums_append, ← HJN.out] at o3; exact o3
          have HR3 := hide r3
          have HB3 : Hid (Below w.heap.size w w3) := b2.trans b3
          rw [← HP.out] at hap3
          have HAP3 := hide hap3
          clear hs2 hb2 o2 r2 b2 hlab hrow2 o3 b3 k3 r3 hap3 hne
          rw [← HP.out]
          go_wp2_with (refine wpList_app_run _ rfl _ _ 35 35 rfl _ _ rfl rfl HAP3.out ?_)
          go_roundw
          case rel => exact ⟨k + 1, a + P + 1, by omega, by go_num, by go_num, by omega, HN3.out, HO3.out, HR3.out, HB3.out⟩
          case measure => simp [intOf]; omega
      · have g1 : decide (0 < (k : Int)) = true := decide_eq_true (by omega)
        have g2 : decide (0 < k) = true := decide_eq_true (by omega)
        have HJN : Hid (low (jn (ps.take (k + 1))) = (low (jn (ps.take k)) ++ [46]) ++ low p) := by
          show _ = _
          rw [htk, jn_snoc _ _ (by intro e; rw [List.take_eq_nil_iff] at e; rcases e with e | e; · omega
                                   · rw [e] at hkn'; simp at hkn')]
          simp [low, lo]
        obtain ⟨f1, w1', hap1, o1, b1, k1⟩ := own_app 35 5 (.int .u8 0) 1 Tryz.underlying35 info5p rfl (i2.below ((Below.refl _ _).alloc (Nat.le_refl _) (.cells #[.int .u8 46] 5))) ⟨wr.heap.size, 0, none⟩ 1 1 [.int .u8 46] rfl
          (fun j u hu => by
            have hj := (List.getElem?_eq_some_iff.1 hu).1
            simp at hj
            subst hj
            rw [add_none]
            simp at hu
            rw [← hu]; simp) (by simp [Value.oneCell']) (by rw [nums_length, low_length]; omega) (by rw [nums_length, low_length]; omega) (by simp; have := i4.size; omega)
        have r1 : Row w1' (w.heap.size + 1) 9 (strs ps) := by
          have hra := i3.alloc (.cells #[.int .u8 46] 5)
          refine hra.keep (k1 _ hra.lt fun e => ?_)
          obtain ⟨_, cur, hc⟩ := i2.block e
          have := i3
          unfold Row at this
          rw [hc] at this
          simp at this
        have o1' : Own w1' w.heap.size 5 f1 (nums .u8 (low (jn (ps.take k)) ++ [46])) := by rw [nums_append]; exact o1
        have bb1 : Below w.heap.size w w1' := (i4.alloc i4.size _).trans b1
        have HAP1 := hide hap1
        have O1 := hide o1'
        have R1 := hide r1
        have BB1 := hide bb1
        have HLN : Hid ((low (jn (ps.take k)) ++ [46]).length = (jn (ps.take k)).length + 1) := by show _ = _; rw [List.length_append, low_length]; rfl
        have hjl2 := hjl
        clear hp hpm hpb j1 i2 i3 i4 hP htk hk0 hkn' hap1 o1 o1' r1 bb1 b1 k1
        generalize (jn (ps.take k)).length = JL at HLN hjl2 hjl
        go_wp2_with (refine wpList_app_run _ rfl _ _ 35 35 rfl _ _ rfl rfl HAP1.out ?_)
        refine (readLabel_at (strN p) w1' (by rw [strN_size, ← HP.out]; unfold maxLen; omega)).mono ?_
        rintro e w2 ⟨sv, rfl, hb2, hs2⟩
        rw [byt_strN p HPB'.out] at hs2 ⊢
        have o2 : Own w2 w.heap.size 5 f1 (nums .u8 (low (jn (ps.take k)) ++ [46])) := O1.out.below hb2
        have r2 : Row w2 (w.heap.size + 1) 9 (strs ps) := R1.out.keep (hb2.block _ R1.out.lt)
        have b2 : Below w.heap.size w w2 := BB1.out.trans (hb2.mono BB1.out.size)
        cases hlab : labB p with
        | false =>
          have HR : Hid (name l = ([], .one a 61)) := by
            show _ = _
            rw [HAD.out, J1.out, labs, if_neg (by simp [hlab])]
          have B2 := hide b2
          clear hs2 hb2 o2 r2 b2 hlab
          go_wp2_with fail
          refine (refuse_er a 61 _).mono ?_
          rintro e w3 ⟨v, rfl, her, hb3⟩
          have HER := hide her
          have B3 := hide (B2.out.trans (hb3.mono B2.out.size))
          clear her hb3
          go_wp2_with fail
          go_ret2
          refine ⟨v, ?_, ?_, B3.out⟩
          · rw [HR.out]; rfl
          · rw [HR.out]; exact HER.out
        | true =>
          obtain ⟨rfl, hrow2⟩ := hs2 hlab
          have hne : w.heap.size + 1 ≠ w1'.heap.size := by have := R1.out.lt; omega
          obtain ⟨f3, w3, hap3, o3, b3, k3⟩ := own_app 35 5 (.int .u8 0) 1 Tryz.underlying35 info5p rfl o2 ⟨w1'.heap.size, 0, none⟩ p.length p.length (nums .u8 (low p)) (by rw [nums_length, low_length])
            (fun j u hu => by rw [add_none, Nat.zero_add, hrow2.cell]; exact hu) (nums_one _ _) (by rw [nums_length, HLN.out]; have := HP.out; omega) (by rw [nums_length, HLN.out]; have := HP.out; omega) b2.size
          have r3 : Row w3 (w.heap.size + 1) 9 (strs ps) := by
            refine r2.keep (k3 _ r2.lt fun e => ?_)
            obtain ⟨_, cur, hc⟩ := o2.block e
            have := r2
            unfold Row at this
            rw [hc] at this
            simp at this
          have HN3 : Hid (labs 0 ps = labs (a + P + 1) (ps.drop (k + 1))) := by
            show _ = _
            rw [J1.out, labs, if_pos hlab, HP.out]
          have HO3 : Hid (Own w3 w.heap.size 5 f3 (nums .u8 (low (jn (ps.take (k + 1)))))) := by
            rw [← nums_append, ← HJN.out] at o3; exact o3
          have HR3 := hide r3
          have HB3 : Hid (Below w.heap.size w w3) := b2.trans b3
          rw [← HP.out] at hap3
          have HAP3 := hide hap3
          clear hs2 hb2 o2 r2 b2 hlab hrow2 o3 b3 k3 r3 hap3 hne
          rw [← HP.out]
          go_wp2_with (refine wpList_app_run _ rfl _ _ 35 35 rfl _ _ rfl rfl HAP3.out ?_)
          go_roundw
          case rel => exact ⟨k + 1, a + P + 1, by omega, by go_num, by go_num, by omega, HN3.out, HO3.out, HR3.out, HB3.out⟩
          case measure => simp [intOf]; omega
    · have hkn2 : k = n := by omega
      have hdn : decide ((k : Int) < (n : Int)) = false := decide_eq_false (by omega)
      have hnone : labs 0 ps = none := by rw [j1, List.drop_eq_nil_of_le (by rw [← HNN.out]; omega)]; rfl
      have hl1 : n - 1 < ps.length := by rw [← HNN.out]; omega
      have hlast : ps.getLastD [] = ps.getD (n - 1) [] := by rw [getLastD_getD (by rw [← HNN.out]; omega), ← HNN.out]
      have hc : wr.cell? ⟨w.heap.size + 1, n - 1, none⟩ = some (.string (strN (ps.getD (n - 1) []))) := by rw [i3.cell]; exact strs_get ps _ hl1
      obtain ⟨p, hp⟩ : ∃ p, p = ps.getD (n - 1) [] := ⟨_, rfl⟩
      have hpm : p ∈ ps := by rw [hp]; exact getD_mem hl1
      have hpl := HPL.out p hpm
      have hpb := HPB.out p hpm
      have hplab := labs_none ps 0 hnone p hpm
      have hpne := ((labB_iff p).1 hplab).1
      rw [← hp] at hc hlast
      have HAD2 : Hid (name l = if p.all dig = true then ([], .one (N - p.length) 63) else (low l, .ok)) := by
        show _ = _
        rw [HAD.out, hnone, hlast]
      rw [show jn (ps.take k) = l by rw [List.take_of_length_le (by rw [← HNN.out]; omega), HJL.out]] at i2
      obtain ⟨g, cap, rfl, hBg, hgl, hlc, hcm, hcells, hfr⟩ := i2.lies (by rw [nums_length, low_length, ← HNL.out]; omega)
      have hstr := run_str wr g 0 (low l).length cap (low l) rfl (fun i hi => by
        rw [Nat.zero_add]; exact hcells i _ (nums_get .u8 _ i hi))
      rw [nums_length] at hlc ⊢
      have hps : ((strN p).size : Int) = (p.length : Int) := by rw [strN_size]
      obtain ⟨P, hP⟩ : ∃ P, P = p.length := ⟨_, rfl⟩
      rw [← hP] at hps hpl HAD2 hpne
      have HP := hide hP
      have HPB' := hide hpb
      have I4 := hide i4
      have hn1I : (n : Int) - 1 = ((n - 1 : Nat) : Int) := by omega
      obtain ⟨n1, hn1'⟩ : ∃ n1, n1 = n - 1 := ⟨_, rfl⟩
      rw [← hn1'] at hc hn1I
      have hn1n : n1 < n := by omega
      clear j1 i2 i3 i4 hp hpm hpb hlast hnone hl1 hplab hcells hfr hP hn1'
      obtain ⟨LL, hLL⟩ : ∃ LL, LL = (low l).length := ⟨_, rfl⟩
      rw [← hLL] at hstr hlc ⊢
      clear hLL
      cases hall : p.all dig with
      | true =>
        have HR : Hid (name l = ([], .one (N - P) 63)) := by show _ = _; rw [HAD2.out, if_pos hall]
        have HALL : Hid ((decide (p ≠ []) && p.all dig) = true) := by
          have : p ≠ [] := fun e => by rw [e] at HP; have := HP.out; simp at this; omega
          simp [Hid, this, hall]
        clear hall
        go_wp2_with fail
        refine (alone_at (strN p) _ (by rw [strN_size, ← HP.out]; unfold maxLen; omega)).mono ?_
        rintro e w2 ⟨rfl, rfl⟩
        rw [byt_strN p HPB'.out, HALL.out]
        have hNP : (N : Int) - (P : Int) = ((N - P : Nat) : Int) := by omega
        obtain ⟨M, hM⟩ : ∃ M, M = N - P := ⟨_, rfl⟩
        rw [← hM] at hNP HR
        clear hM
        go_wp2_with fail
        refine (refuse_er M 63 _).mono ?_
        rintro e w3 ⟨v, rfl, her, hb3⟩
        have HER := hide her
        have B3 := hide (I4.out.trans (hb3.mono I4.out.size))
        clear her hb3
        go_wp2_with fail
        go_ret2
        refine ⟨v, ?_, ?_, B3.out⟩
        · rw [HR.out]; rfl
        · rw [HR.out]; exact HER.out
      | false =>
        have HR : Hid (name l = (low l, .ok)) := by show _ = _; rw [HAD2.out, if_neg (by simp [hall])]
        have HALL : Hid ((decide (p ≠ []) && p.all dig) = false) := by simp [Hid, hall]
        clear hall
        go_wp2_with fail
        refine (alone_at (strN p) _ (by rw [strN_size, ← HP.out]; unfold maxLen; omega)).mono ?_
        rintro e w2 ⟨rfl, rfl⟩
        rw [byt_strN p HPB'.out, HALL.out]
        go_wp2_with fail
        go_ret2
        refine ⟨.nilIface, ?_, ?_, I4.out⟩
        · rw [HR.out]; rfl
        · rw [HR.out]; rfl
end Go.Proofs.YtccoddmdlbdfjaaGreatDoor
