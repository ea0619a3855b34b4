/-
  Clone and Live of package desc, its calls at a table that no call made, and slices of handles; conditions as each theorem has them.
-/
import Derived.Test.YthfkjephnhnpoaaE
import Derived.Maps.AppendAt
import Derived.OpenShut
set_option linter.unusedSimpArgs false
set_option linter.unusedVariables false
namespace Go.Proofs.Ythfkjephnhnpoaa
open Go.RowKit

theorem wrap_small (n : Int) (m : Nat) (hm : 0 < m) (hm1 : m ≤ 4611686018427387904) : ∃ k : Nat, k < m ∧ wrap64 ((IntKind.u64.wrap n).tmod m) = (k : Int) := by
  have hu : 0 ≤ IntKind.u64.wrap n := by
    have : IntKind.u64.wrap n = n % 18446744073709551616 := by simp [IntKind.wrap, IntKind.signed, IntKind.bits]
    rw [this]
    exact Int.emod_nonneg _ (by omega)
  generalize IntKind.u64.wrap n = u at hu
  rw [Int.tmod_eq_emod_of_nonneg hu]
  have h1 := Int.emod_nonneg u (show (m : Int) ≠ 0 by omega)
  have h2 := Int.emod_lt_of_pos u (show (0 : Int) < m by omega)
  refine ⟨(u % m).toNat, by omega, ?_⟩
  generalize u % (m : Int) = x at h1 h2
  rw [Int.toNat_of_nonneg h1]
  unfold wrap64
  omega

set_option maxHeartbeats 400000 in
theorem among (n : Int) (m : Nat) (hm : 0 < m) (hm1 : m ≤ 4611686018427387904) (w : World) : Calls Try.prog 10 #[.int .i64 n, .int .i64 m] w fun e w' => ∃ k : Nat, k < m ∧ e = .returned (.int .i64 k) ∧ w = w' := by
  go_enter Try.func10, Try.ntmps10
  go_wp2
  go_ret
  obtain ⟨k, hk, e⟩ := wrap_small n m hm hm1
  exact ⟨k, hk, by rw [← e]; rfl, rfl⟩


/-- The operation 'append' for the walk, where its run is known by an equation. -/
theorem wpList_app_run {P : Program} (w : World) {ops : Array Oper} {rest : List Oper} {o : Oper} {a : Act} {Q : Exit → Act → World → Prop} (hgd : o.guard = none) (d s : Operand) (t t' : TypeId)
    (ho : o.op = .call { callee := .builtin .append, args := #[d, s], argTypes := #[t, t'] }) (v u : Value) (hd : a.eval d = v) (hs : a.eval s = u) {v' : Value} {w' : World}
    (hr : (Builtin.append_ #[t, t'] o.type #[v, u]).run P w = .ok v' w') (h : wpList P ops Q rest (a.put o.dst v') w') : wpList P ops Q (o :: rest) a w := by
  refine wpList_plain hgd fun K hK => ?_
  unfold Oper.wp execOp
  simp only [ho, resolve, invoke, builtin, Sem.run_bind, Sem.run_pure, Result.andThen_ok, List.map_toArray, List.map_cons, List.map_nil, hd, hs, hr]
  exact hK _ _ h


/-- 'copy' of all entries. -/
theorem run_copy4 (w : World) (ty : TypeId) (g s : Nat) (cur es : List En) (hl : cur.length = es.length) (hg : Row w g cur) (hs : Row w s es) :
    (Builtin.copy_ #[52, 52] ty #[.slice (some ⟨g, 0, none⟩) es.length es.length, .slice (some ⟨s, 0, none⟩) es.length es.length]).run Try.prog w = .ok (goInt es.length) (w.setRow g (flat es).toArray) := by
  obtain ⟨i, hi, hz⟩ := Option.map_eq_some_iff.1 info58s
  have hload := run_loadCells_list (P := Try.prog) w ⟨s, 0, none⟩ (flat es) (fun j v hv => by
    rw [add_none, Nat.zero_add]
    unfold Row at hs
    simp [World.cell?, hs, hv])
  have hst := run_storeCells_at Try.prog g 0 58 (flat es) 0 (flat cur).toArray w hg (by simp [flat_length, hl]) (flat_one es)
  have e1 : es.length * 4 = (flat es).length := by rw [flat_length]; omega
  have e2 : (List.take (0 + 0) (flat cur).toArray.toList ++ flat es ++ List.drop (0 + 0 + (flat es).length) (flat cur).toArray.toList) = flat es := by
    simp [flat_length, hl]
  rw [e2] at hst
  simp [Builtin.copy_, run_underlying Try.underlying52, Builtin.lenOf, Builtin.firstCells, sizeOf, typeInfo, hi, hz, e1, hload, hst]

set_option maxHeartbeats 1000000 in
theorem clone_at (r g : Nat) (es : List En) (w : World) (h : IsTab w r g es) :
    Calls Try.prog 11 #[.pointer (some ⟨r, 0, none⟩)] w fun e w' => e = .returned (.pointer (some ⟨w.heap.size + 1, 0, none⟩)) ∧ IsTab w' (w.heap.size + 1) w.heap.size es ∧ Below w.heap.size w w' := by
  obtain ⟨c0, c1⟩ := thd_cells h.head
  obtain ⟨N, hN⟩ : ∃ N, N = es.length := ⟨_, rfl⟩
  have hl := h.lt
  have hm := h.max
  have hmk := run_make0 es.length hm
  have hcp := run_copy4 ((w.alloc (.cells (flat (List.replicate es.length zeroE)).toArray 58)).alloc (thd es.length w.heap.size)).drew 3 w.heap.size g (List.replicate es.length zeroE) es (by simp) (alloc_old _ (alloc_new _ _)) (alloc_old _ (alloc_old _ h.row))
  unfold thd at hcp
  have hd : Hid (((w.alloc (.cells (flat (List.replicate es.length zeroE)).toArray 58)).alloc (thd es.length w.heap.size)).heap[w.heap.size]? = some (.cells (flat (List.replicate es.length zeroE)).toArray 58)) := alloc_old _ (alloc_new _ _)
  rw [← hN] at c1 hm hcp hmk
  have H := hide h
  have HN := hide hN
  clear h hN
  go_enter Try.func11, Try.ntmps11
  go_wp2_with fail
  refine (isMade_at r true _ c0).mono ?_
  rintro x w1 ⟨rfl, rfl⟩
  go_wp2_with fail
  go_region
  clear hcp
  go_wp2
  go_ret
  refine ⟨rfl, ⟨?_, setRow_heap (World.drew _) w.heap.size _ _ 58 _ (alloc_old _ (alloc_new _ _)), by omega, H.out.max, H.out.ok⟩, below_setRow ((((Below.refl w.heap.size w).alloc (Nat.le_refl _) _).alloc (by simp) _).drew) (Nat.le_refl _) _⟩
  rw [setRow_other _ _ _ _ (by omega), ← HN.out]
  exact alloc_new2 _ _ _

/-- Handles as they lie in memory. -/
def prs : List (Nat × Nat) → List Value
  | [] => []
  | p :: t => .int .i64 (p.1 : Nat) :: .int .i64 (p.2 : Nat) :: prs t
theorem prs_length : ∀ l : List (Nat × Nat), (prs l).length = l.length * 2
  | [] => rfl
  | p :: t => by simp only [prs, List.length_cons, prs_length t]; omega
theorem prs_append : ∀ l m : List (Nat × Nat), prs (l ++ m) = prs l ++ prs m
  | [], m => rfl
  | p :: t, m => by simp [prs, prs_append t m]
theorem prs_at : ∀ (l : List (Nat × Nat)) (i : Nat) (p : Nat × Nat), l[i]? = some p → (prs l)[i * 2]? = some (.int .i64 (p.1 : Nat)) ∧ (prs l)[i * 2 + 1]? = some (.int .i64 (p.2 : Nat))
  | [], i, p, h => by simp at h
  | a :: t, 0, p, h => by simp at h; subst h; simp [prs]
  | a :: t, i + 1, p, h => by
    have := prs_at t i p (by simpa using h)
    rw [show (i + 1) * 2 = i * 2 + 2 by omega]
    simpa [prs] using this

theorem info32p : ∃ i, Try.prog.info? 32 = some i ∧ i.zero = some (.agg #[.int .i64 0, .int .i64 0]) ∧ i.size = 2 ∧ i.bytes = 16 := by
  have h : (Try.prog.info? 32).map (fun i => (i.zero, i.size, i.bytes)) = some (some (.agg #[.int .i64 0, .int .i64 0]), 2, 16) := by kernel_rfl
  obtain ⟨i, hi, hz⟩ := Option.map_eq_some_iff.1 h
  simp only [Prod.mk.injEq] at hz
  exact ⟨i, hi, hz.1, hz.2.1, hz.2.2⟩

/-- v is a slice of the handles l at the head of block h, which is the call's own. -/
structure OwnP (w : World) (h : Nat) (v : Value) (cap : Nat) (cur : Array Value) (l : List (Nat × Nat)) : Prop where
  val : v = .slice (some ⟨h, 0, none⟩) l.length cap
  row : w.heap[h]? = some (.cells cur 32 (0, 0))
  fit : l.length ≤ cap
  max : cap ≤ maxLen
  size : cur.size = cap * 2
  take : cur.toList.take (l.length * 2) = prs l

theorem OwnP.keep {w w' : World} {h : Nat} {v : Value} {cap : Nat} {cur : Array Value} {l : List (Nat × Nat)} (o : OwnP w h v cap cur l) (e : w'.heap[h]? = w.heap[h]?) : OwnP w' h v cap cur l := ⟨o.val, e.trans o.row, o.fit, o.max, o.size, o.take⟩
theorem OwnP.lt {w : World} {h : Nat} {v : Value} {cap : Nat} {cur : Array Value} {l : List (Nat × Nat)} (o : OwnP w h v cap cur l) : h < w.heap.size := lt_of_some o.row
theorem OwnP.cells {w : World} {h : Nat} {v : Value} {cap : Nat} {cur : Array Value} {l : List (Nat × Nat)} (o : OwnP w h v cap cur l) {k : Nat} {p : Nat × Nat} (hp : l[k]? = some p) :
    w.cell? ⟨h, k * 2, none⟩ = some (.int .i64 (p.1 : Nat)) ∧ w.cell? ⟨h, k * 2 + 1, none⟩ = some (.int .i64 (p.2 : Nat)) := by
  have hk := (List.getElem?_eq_some_iff.1 hp).1
  obtain ⟨h0, h1⟩ := prs_at l k p hp
  rw [← o.take, List.getElem?_take, if_pos (by omega)] at h0 h1
  simp only [World.cell?, o.row]
  exact ⟨by simpa using h0, by simpa using h1⟩
theorem OwnP.frozen {w : World} {h : Nat} {v : Value} {cap : Nat} {cur : Array Value} {l : List (Nat × Nat)} (o : OwnP w h v cap cur l) (k : Nat) : w.frozen? ⟨h, k, none⟩ = false := by
  simp [World.frozen?, o.row]

/-- 'append(v, h)' for a slice that is nil or the call's own. -/
theorem run_app_pair (ty : TypeId) {w : World} {v : Value} {l : List (Nat × Nat)} (ho : (v = .slice none 0 0 ∧ l = []) ∨ ∃ h cap cur, OwnP w h v cap cur l)
    (p : Nat × Nat) {s : Nat} (hs : w.heap[s]? = some (boxH p.1 p.2)) (hl : l.length < 8796093022207) :
    ∃ v' w' h' cap' cur', (Builtin.append_ #[40, 40] ty #[v, .slice (some ⟨s, 0, none⟩) 1 1]).run Try.prog w = .ok v' w' ∧ OwnP w' h' v' cap' cur' (l ++ [p]) ∧
      (h' = w.heap.size ∨ ∃ cap cur, OwnP w h' v cap cur l) ∧ w.heap.size ≤ w'.heap.size ∧ w'.os = w.os ∧ w'.tape = w.tape ∧ w'.output = w.output ∧ (∀ k, k < w.heap.size → v.ownBlock ≠ some k → w'.heap[k]? = w.heap[k]?) := by
  obtain ⟨i, hi, hz, hsz, hby⟩ := info32p
  have hown : w.ownsRow 0 32 2 v l.length (prs l) := by
    refine ⟨prs_length l, ?_⟩
    rcases ho with ⟨rfl, rfl⟩ | ⟨h, cap, cur, o⟩
    · exact Or.inl ⟨rfl, rfl⟩
    · exact Or.inr ⟨h, cap, cur, o.val, Nat.zero_le _, o.row, o.fit, o.max, o.size, o.take⟩
  obtain ⟨v', w', hr, hw, hg, hnil, hat⟩ := run_append_own_at (P := Try.prog) w 0 40 ty 32 i (.agg #[.int .i64 0, .int .i64 0]) 2 16 Try.underlying40 hi hz hsz hby rfl (by omega) v l.length (prs l) hown ⟨s, 0, none⟩ 1 1 (prs [p]) rfl
    (fun j u hu => by
      rw [add_none, Nat.zero_add]
      have hj : j = 0 ∨ j = 1 := by
        have := (List.getElem?_eq_some_iff.1 hu).1
        simp [prs] at this
        omega
      simp only [World.cell?, hs]
      rcases hj with rfl | rfl
      · simpa [prs] using hu
      · simpa [prs] using hu) (by intro u hu; simp [prs] at hu; rcases hu with rfl | rfl <;> rfl) (by unfold maxLen; omega) (by omega) (Nat.zero_le _)
  rcases hw.2 with ⟨hv, h0⟩ | ⟨h', cap', cur', hv, _, hh, h1, h2, h3, h4⟩
  · omega
  · subst hv
    refine ⟨_, w', h', cap', cur', hr, ⟨by simp, hh, by simpa using h1, h2, h3, ?_⟩, ?_, hg.size, hg.os, hg.tape, hg.output, fun k hk hne => hg.block k hk (Ne.symm hne)⟩
    · rw [prs_append, List.length_append]
      exact h4
    · simp only [Value.ownBlock] at hat
      rcases hat with hat | hat
      · rcases ho with ⟨rfl, rfl⟩ | ⟨h, cap, cur, o⟩
        · cases hat
        · have := o.val
          subst this
          simp at hat
          subst hat
          exact Or.inr ⟨cap, cur, o⟩
      · simp at hat
        exact Or.inl hat

/-- v is a slice of the handles l, nil or at the head of a block from B on. -/
def IsH (w : World) (B : Nat) (v : Value) (l : List (Nat × Nat)) : Prop := (v = .slice none 0 0 ∧ l = []) ∨ ∃ h cap cur, OwnP w h v cap cur l ∧ B ≤ h

theorem IsH.keep {w w' : World} {B : Nat} {v : Value} {l : List (Nat × Nat)} (h : IsH w B v l) (hb : ∀ k, B ≤ k → k < w.heap.size → w'.heap[k]? = w.heap[k]?) : IsH w' B v l := by
  rcases h with h | ⟨b, cap, cur, o, hle⟩
  · exact Or.inl h
  · exact Or.inr ⟨b, cap, cur, o.keep (hb b hle o.lt), hle⟩

/-- One more handle behind those of a slice of the call's own, and what it leaves. -/
theorem app_pair {w wr : World} {B : Nat} {v : Value} {l : List (Nat × Nat)} (hBw : B ≤ w.heap.size) (hB : Below B w wr) (h : IsH wr B v l) (p : Nat × Nat) (hl : l.length < 8796093022207) :
    ∃ v' w', (Builtin.append_ #[40, 40] 40 #[v, .slice (some ⟨wr.heap.size, 0, none⟩) 1 1]).run Try.prog (wr.alloc (boxH p.1 p.2)) = .ok v' w' ∧ IsH w' B v' (l ++ [p]) ∧ Below B w w' ∧ (∀ k, k < wr.heap.size → v.ownBlock ≠ some k → w'.heap[k]? = wr.heap[k]?) ∧ wr.heap.size ≤ w'.heap.size ∧ (∀ k, v'.ownBlock = some k → v.ownBlock = some k ∨ wr.heap.size ≤ k) := by
  obtain ⟨v', w', h', cap', cur', hr, hown, hat, hz, ho1, ho2, ho3, hblk⟩ := run_app_pair 40 (w := wr.alloc (boxH p.1 p.2)) (v := v) (l := l) (by
      rcases h with h | ⟨b, cap, cur, o, _⟩
      · exact Or.inl h
      · exact Or.inr ⟨b, cap, cur, o.keep (Below.heap_alloc _ _ _ o.lt)⟩) p (s := wr.heap.size) (alloc_new _ _) hl
  have hsz := hB.size
  have hle : B ≤ wr.heap.size → B ≤ h' := by
    intro hBw
    rcases hat with hat | ⟨cap, cur, hat⟩
    · rw [hat]; simp; omega
    · rcases h with ⟨e1, e2⟩ | ⟨b, cap2, cur2, o, hle⟩
      · rw [e1] at hat; have := hat.val; cases this
      · have e1 := hat.val
        rw [o.val] at e1
        simp at e1
        omega
  have hz' : wr.heap.size + 1 ≤ w'.heap.size := by simpa using hz
  have hblk' : ∀ k, k < wr.heap.size → v.ownBlock ≠ some k → w'.heap[k]? = wr.heap[k]? := fun k hk hne => by
    rw [hblk k (by simp; omega) hne, Below.heap_alloc _ _ _ hk]
  have hvb : ∀ k, k < B → v.ownBlock ≠ some k := fun k hk => by
    rcases h with ⟨e1, e2⟩ | ⟨b, cap2, cur2, o, hle⟩
    · rw [e1]; simp [Value.ownBlock]
    · rw [o.val]; simp [Value.ownBlock]; omega
  refine ⟨v', w', hr, Or.inr ⟨h', cap', cur', hown, hle (by omega)⟩, ⟨ho1.trans hB.os, ho2.trans hB.tape, ho3.trans hB.output, by omega, fun k hk => (hblk' k (by omega) (hvb k hk)).trans (hB.block k hk)⟩, hblk', by omega, fun k hk => ?_⟩
  rw [hown.val] at hk
  simp [Value.ownBlock] at hk
  subst hk
  rcases hat with hat | ⟨cap, cur, hat⟩
  · right; rw [hat]; simp
  · left; rw [hat.val]; rfl

set_option maxHeartbeats 1000000 in
theorem live_at (r g : Nat) (es : List En) (w : World) (h : IsTab w r g es) :
    Calls Try.prog 15 #[.pointer (some ⟨r, 0, none⟩)] w fun x w' => ∃ v, x = .returned v ∧ IsH w' w.heap.size v (live es es.length) ∧ Below w.heap.size w w' := by
  obtain ⟨c0, c1⟩ := thd_cells h.head
  obtain ⟨N, hN⟩ : ∃ N, N = es.length := ⟨_, rfl⟩
  have hl := h.lt
  have hm := h.max
  rw [← hN] at c1 hm ⊢
  have H := hide h
  have HN := hide hN
  clear h hN
  go_enter Try.func15, Try.ntmps15
  go_wp2_with fail
  refine (isMade_at r true _ c0).mono ?_
  rintro x w1 ⟨rfl, rfl⟩
  go_wp2_with fail
  go_loopw [3, 14] (fun u v wr => ∃ j : Nat, j ≤ N ∧ v = .int .i64 j ∧ Hid (IsH wr w.heap.size u (live es j)) ∧ Hid (Below w.heap.size w wr)) (fun _ v _ => N - (intOf v).toNat)
  case atStart => exact ⟨0, Nat.zero_le _, rfl, Or.inl ⟨rfl, rfl⟩, Below.refl _ _⟩
  case round =>
    obtain ⟨j, hj, rfl, HI, HB⟩ := hrel
    by_cases hlt : j < N
    · obtain ⟨e, he⟩ := get_lt (show j < es.length by rw [← HN.out]; exact hlt)
      have hc : (live es j).length ≤ 4096 := by have := live_le es j; omega
      have ht := H.out.below HB.out hl.1 hl.2
      obtain ⟨d0, d1, d2, d3⟩ := ht.row.cells he
      obtain ⟨t0, t1⟩ := thd_cells ht.head
      rw [← HN.out] at t1
      have hrl := ht.lt
      have HE := hide he
      have HCC := hide hc
      clear he ht hc
      by_cases hs : e.st = 1
      · rw [hs] at d0
        have HS := hide hs
        clear hs
        go_wp2_with fail
        refine (handle_at r g N j e _ (alloc_cell t1 _) hlt hm (alloc_cell d1 _)).mono ?_
        rintro x w2 ⟨rfl, hw2⟩
        have hi2 : IsH w2 w.heap.size u3 (live es j) := by
          rw [hw2]
          exact HI.out.keep fun k _ hk => (Below.heap_alloc _ _ _ (by simp; omega)).trans (Below.heap_alloc _ _ _ hk)
        have hb2 : Below w.heap.size w w2 := by
          rw [hw2]
          exact (HB.out.alloc HB.out.size _).alloc (by have := HB.out.size; simp; omega) _
        obtain ⟨v', w', hr, hi', hb', _, _, _⟩ := app_pair (Nat.le_refl _) hb2 hi2 (j, e.gen) (by have := HCC.out; omega)
        have HR := hide hr
        have HI' := hide hi'
        have HB' := hide hb'
        clear hw2 hi2 hb2 hr hi' hb'
        go_wp2_with (at_builtin; refine wpList_app_run _ rfl _ _ 40 40 rfl _ _ rfl rfl HR.out ?_)
        go_roundw
        case rel =>
          refine ⟨j + 1, by omega, by go_num, ?_, HB'.out⟩
          show IsH _ _ _ _
          rw [live_open HE.out HS.out]
          exact HI'.out
        case measure => simp [intOf]; omega
      · go_wp2_with fail
        go_roundw
        case rel =>
          refine ⟨j + 1, by omega, by go_num, ?_, HB.out.alloc HB.out.size _⟩
          show IsH _ _ _ _
          rw [live_shut HE.out hs]
          exact HI.out.keep fun k _ hk => Below.heap_alloc _ _ _ hk
        case measure => simp [intOf]; omega
    · obtain rfl : j = N := by omega
      go_wp2_with fail
      go_ret
      exact ⟨_, rfl, HI.out, HB.out⟩

end Go.Proofs.Ythfkjephnhnpoaa
