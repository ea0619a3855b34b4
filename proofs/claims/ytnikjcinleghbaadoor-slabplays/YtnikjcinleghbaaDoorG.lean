/-
  All calls at a slab that no call made, and what the statements' walks share: slices that came in, slices that the call itself appends to, the base package's helpers; conditions as each theorem has them.
-/
import Derived.Test.YtnikjcinleghbaaDoorF
import Derived.Laws.BytesArg
import Derived.Lib.SlBytesConst
import Derived.OpenShut
import Derived.OwnWalk
import Derived.Maps.AppendAt
set_option linter.unusedSimpArgs false
set_option linter.unusedVariables false
namespace Go.Proofs.YtnikjcinleghbaaDoor
open Go.RowKit

/-- A pointer to no slab that New made: nil, or to one that does not say that it was made. -/
def Unmade (w : World) (v : Value) : Prop := v = .pointer none ∨ ∃ r : Nat, v = .pointer (some ⟨r, 0, none⟩) ∧ w.cell? ⟨r, 0, none⟩ = some (.bool false)

set_option maxHeartbeats 400000 in
theorem get_un (v : Value) (w : World) (hv : Unmade w v) : Calls Tryd.prog 11 #[v] w fun e w' => e = .returned (.tuple #[.int .i64 0, .int .i64 1]) ∧ w = w' := by
  rcases hv with rfl | ⟨r, rfl, h0⟩
  all_goals
    go_enter Tryd.func11, Tryd.ntmps11
    go_wp2
    go_ret2
    exact ⟨rfl, rfl⟩

set_option maxHeartbeats 400000 in
theorem put_un (v : Value) (b : Int) (w : World) (hv : Unmade w v) : Calls Tryd.prog 13 #[v, .int .i64 b] w fun e w' => e = .returned (.int .i64 1) ∧ w = w' := by
  rcases hv with rfl | ⟨r, rfl, h0⟩
  all_goals
    go_enter Tryd.func13, Tryd.ntmps13
    go_wp2
    go_ret
    exact ⟨rfl, rfl⟩

set_option maxHeartbeats 400000 in
theorem write_un (v : Value) (b a : Int) (s : Value) (w : World) (hv : Unmade w v) : Calls Tryd.prog 16 #[v, .int .i64 b, .int .i64 a, s] w fun e w' => e = .returned (.int .i64 1) ∧ w = w' := by
  rcases hv with rfl | ⟨r, rfl, h0⟩
  all_goals
    go_enter Tryd.func16, Tryd.ntmps16
    go_wp2
    go_ret
    exact ⟨rfl, rfl⟩

set_option maxHeartbeats 400000 in
theorem read_un (v : Value) (b a n : Int) (w : World) (hv : Unmade w v) : Calls Tryd.prog 19 #[v, .int .i64 b, .int .i64 a, .int .i64 n] w fun e w' => e = .returned (.tuple #[.slice none 0 0, .int .i64 1]) ∧ w = w' := by
  rcases hv with rfl | ⟨r, rfl, h0⟩
  all_goals
    go_enter Tryd.func19, Tryd.ntmps19
    go_wp2
    go_ret2
    exact ⟨rfl, rfl⟩

set_option maxHeartbeats 400000 in
theorem clone_un (v : Value) (w : World) (hv : Unmade w v) : Calls Tryd.prog 21 #[v] w fun e w' => e = .returned (.pointer none) ∧ w = w' := by
  rcases hv with rfl | ⟨r, rfl, h0⟩
  all_goals
    go_enter Tryd.func21, Tryd.ntmps21
    go_wp2
    go_ret
    exact ⟨rfl, rfl⟩

set_option maxHeartbeats 400000 in
theorem held_un (v : Value) (w : World) (hv : Unmade w v) : Calls Tryd.prog 22 #[v] w fun e w' => e = .returned (.slice none 0 0) ∧ w = w' := by
  rcases hv with rfl | ⟨r, rfl, h0⟩
  all_goals
    go_enter Tryd.func22, Tryd.ntmps22
    go_wp2
    go_ret
    exact ⟨rfl, rfl⟩

set_option maxHeartbeats 400000 in
theorem used_un (v : Value) (w : World) (hv : Unmade w v) : Calls Tryd.prog 23 #[v] w fun e w' => e = .returned (.int .i64 0) ∧ w = w' := by
  rcases hv with rfl | ⟨r, rfl, h0⟩
  all_goals
    go_enter Tryd.func23, Tryd.ntmps23
    go_wp2
    go_ret
    exact ⟨rfl, rfl⟩

theorem getD_take' (a : List Int) (k i : Nat) : (a.take k).getD i 0 = if i < k then a.getD i 0 else 0 := by
  simp only [List.getD, List.getElem?_take]
  split <;> rfl
theorem getD_drop' (a : List Int) (k i : Nat) : (a.drop k).getD i 0 = a.getD (k + i) 0 := by
  simp only [List.getD, List.getElem?_drop]

/-- A slice of integers that came in: nil, or a row of cap cells. -/
def IsRow (k : IntKind) (w : World) (a : Option Addr) (len cap : Nat) (zs : List Int) : Prop :=
  (a = none ∧ len = 0 ∧ cap = 0 ∧ zs = []) ∨
  ∃ x, a = some x ∧ len ≤ cap ∧ cap ≤ maxLen ∧ zs.length = cap ∧ (∀ i, i < zs.length → w.cell? (x.add i) = some (.int k (zs.getD i 0))) ∧ ∀ n ∈ zs, (Lit.int k n).wf = true

theorem lt_of_cell {w : World} {a : Addr} {v : Value} (h : w.cell? a = some v) : a.block < w.heap.size := by
  unfold World.cell? at h
  cases e : w.heap[a.block]? with
  | none => simp [e] at h
  | some x => exact lt_of_some e

theorem row_lies {k : IntKind} {w : World} {a : Option Addr} {len cap : Nat} {zs : List Int} (h : IsRow k w a len cap zs) (h0 : 0 < len) :
    ∃ b o, a = some ⟨b, o, none⟩ ∧ b < w.heap.size ∧ ∀ i, i < len → w.cell? ⟨b, o + i, none⟩ = some (.int k ((zs.take len).getD i 0)) := by
  rcases h with ⟨_, h1, _⟩ | ⟨x, rfl, hl, hm, hz, hc, hw⟩
  · omega
  · obtain ⟨b, o, spot⟩ := x
    have hc0 := hc 0 (by omega)
    have hspot : spot = none := by simpa [Addr.add] using World.cell?_spot hc0
    subst hspot
    refine ⟨b, o, rfl, by simpa [Addr.add] using lt_of_cell hc0, fun i hi => ?_⟩
    have := hc i (by omega)
    rw [add_none] at this
    rw [this, getD_take', if_pos hi]

theorem row_len {k : IntKind} {w : World} {a : Option Addr} {len cap : Nat} {zs : List Int} (h : IsRow k w a len cap zs) : (zs.take len).length = len ∧ len ≤ cap ∧ cap ≤ maxLen ∧ (a = none → cap = 0) := by
  rcases h with ⟨rfl, rfl, rfl, rfl⟩ | ⟨x, rfl, hl, hm, hz, hc, hw⟩
  · simp
  · exact ⟨by rw [List.length_take]; omega, hl, hm, fun e => by cases e⟩

theorem row_src {w : World} {a : Option Addr} {len cap : Nat} {zs : List Int} (h : IsRow .u8 w a len cap zs) : Src w a len cap (zs.take len) := by
  have hl := row_len h
  refine ⟨hl.1, hl.2.1, hl.2.2.1, hl.2.2.2, fun h0 => ?_, fun x hx => ?_⟩
  · obtain ⟨b, o, e, _, hc⟩ := row_lies h h0
    exact ⟨b, o, e, hc⟩
  · rcases h with ⟨_, _, _, rfl⟩ | ⟨_, _, _, _, _, _, hw⟩
    · simp at hx
    · have := bounds_u8 (hw x (List.mem_of_mem_take hx))
      omega

/-- Where a slice that came in lies. -/
theorem row_old {k : IntKind} {w : World} {a : Option Addr} {len cap : Nat} {zs : List Int} (h : IsRow k w a len cap zs) (h0 : 0 < len) : ∀ b o, a = some ⟨b, o, none⟩ → b < w.heap.size := by
  obtain ⟨b, o, rfl, hb, _⟩ := row_lies h h0
  intro b' o' e
  simp at e
  omega

theorem run_str_src {w : World} {a : Option Addr} {len cap : Nat} {l : List Int} (h : Src w a len cap l) : (convert 30 9 (.slice a len cap)).run Tryd.prog w = .ok (.string (strOfNums l)) w := by
  by_cases h0 : 0 < len
  · obtain ⟨b, o, rfl, hc⟩ := h.lies h0
    exact run_convert_bytes_arg (P := Tryd.prog) w 30 5 Tryd.underlying30 Tryd.underlying5 b o len cap l h.hlen hc 9 Tryd.underlying9
  · obtain rfl : len = 0 := by omega
    obtain rfl : l = [] := List.eq_nil_of_length_eq_zero h.hlen
    cases a with
    | none => exact run_convert_bytes_nil (P := Tryd.prog) w 30 5 Tryd.underlying30 Tryd.underlying5 0 cap 9 Tryd.underlying9
    | some x =>
      rw [run_convert_bytes_string w 30 9 5 _ 0 cap Tryd.underlying30 Tryd.underlying5 Tryd.underlying9]
      exact run_bytesToString w x 0 cap [] (by simpa using run_loadCells_list (P := Tryd.prog) w x [] (by simp))

set_option maxHeartbeats 400000 in
theorem same_bytes (w : World) (a b : Option Addr) (n c m d : Nat) (l : List Int) (h1 : Src w a n c l) (h2 : Src w b m d l) : Calls Tryd.prog 18 #[.slice a n c, .slice b m d] w fun e w' => e = .returned (.bool true) ∧ w = w' := by
  have r1 := run_str_src h1
  have r2 := run_str_src h2
  clear h1 h2
  go_enter Tryd.func18, Tryd.ntmps18
  go_wp2
  go_ret
  simp

theorem wrap_small (n : Int) (m : Nat) (hm : 0 < m) (hm1 : m ≤ 65536) : ∃ k : Nat, k < m ∧ wrap64 ((IntKind.u64.wrap n).tmod m) = (k : Int) := by
  have hu : 0 ≤ IntKind.u64.wrap n := by
    have : IntKind.u64.wrap n = n % 18446744073709551616 := by simp [IntKind.wrap, IntKind.signed, IntKind.bits]
    rw [this]
    exact Int.emod_nonneg _ (by omega)
  generalize IntKind.u64.wrap n = u at hu
  rw [Int.tmod_eq_emod_of_nonneg hu]
  have h1 := Int.emod_nonneg u (show (m : Int) ≠ 0 by omega)
  have h2 := Int.emod_lt_of_pos u (show (0 : Int) < m by omega)
  refine ⟨(u % m).toNat, by omega, ?_⟩
  generalize u % (m : Int) = x at h1 h2
  rw [Int.toNat_of_nonneg h1]
  unfold wrap64
  omega

set_option maxHeartbeats 400000 in
theorem among (n : Int) (m : Nat) (hm : 0 < m) (hm1 : m ≤ 65536) (w : World) : Calls Tryd.prog 10 #[.int .i64 n, .int .i64 m] w fun e w' => ∃ k : Nat, k < m ∧ e = .returned (.int .i64 k) ∧ w = w' := by
  go_enter Tryd.func10, Tryd.ntmps10
  go_wp2
  go_ret
  obtain ⟨k, hk, e⟩ := wrap_small n m hm hm1
  exact ⟨k, hk, by rw [← e]; rfl, rfl⟩

theorem info5p : ∃ i, Tryd.prog.info? 5 = some i ∧ i.zero = some (.int .u8 0) ∧ i.size = 1 ∧ i.bytes = 1 := info_parts info5'

/-- The value v is a slice of the bytes l at the head of block h, which is the call's own. -/
def OwnAt (w : World) (h : Nat) (v : Value) (l : List Int) : Prop :=
  ∃ cap cur, v = .slice (some ⟨h, 0, none⟩) l.length cap ∧ w.heap[h]? = some (.cells cur 5 (0, 0)) ∧ l.length ≤ cap ∧ cap ≤ maxLen ∧ cur.size = cap ∧ cur.toList.take l.length = vals l

theorem OwnAt.keep {w w' : World} {h : Nat} {v : Value} {l : List Int} (o : OwnAt w h v l) (e : w'.heap[h]? = w.heap[h]?) : OwnAt w' h v l := by
  obtain ⟨cap, cur, h1, h2, h3⟩ := o
  exact ⟨cap, cur, h1, by rw [e]; exact h2, h3⟩

theorem OwnAt.lt {w : World} {h : Nat} {v : Value} {l : List Int} (o : OwnAt w h v l) : h < w.heap.size := by
  obtain ⟨cap, cur, h1, h2, h3⟩ := o
  exact lt_of_some h2

theorem OwnAt.row {w : World} {h : Nat} {v : Value} {l : List Int} (o : OwnAt w h v l) : w.ownsRow 0 5 1 v l.length (vals l) := by
  obtain ⟨cap, cur, h1, h2, h3, h4, h5, h6⟩ := o
  exact ⟨by rw [vals_length]; omega, Or.inr ⟨h, cap, cur, h1, Nat.zero_le _, h2, h3, h4, by omega, by simpa using h6⟩⟩

theorem OwnAt.block {w : World} {h : Nat} {v : Value} {l : List Int} (o : OwnAt w h v l) : v.ownBlock = some h := by
  obtain ⟨cap, cur, rfl, _⟩ := o
  rfl

theorem OwnAt.src {w : World} {h : Nat} {v : Value} {l : List Int} (o : OwnAt w h v l) (hb : ∀ x ∈ l, 0 ≤ x ∧ x < 256) : ∃ cap, v = .slice (some ⟨h, 0, none⟩) l.length cap ∧ Src w (some ⟨h, 0, none⟩) l.length cap l := by
  obtain ⟨cap, cur, rfl, h2, h3, h4, h5, h6⟩ := o
  refine ⟨cap, rfl, ⟨rfl, h3, h4, fun e => (by cases e), fun _ => ⟨h, 0, rfl, fun i hi => ?_⟩, hb⟩⟩
  have e1 : cur[i]? = (vals l)[i]? := by rw [← h6, List.getElem?_take, if_pos hi]; simp
  rw [Nat.zero_add]
  simp only [World.cell?, h2]
  simp [e1, vals, List.getD, hi]

theorem own_at_new (w : World) : OwnAt (w.alloc (.cells #[] 5)) w.heap.size (.slice (some ⟨w.heap.size, 0, none⟩) 0 0) [] :=
  ⟨0, #[], rfl, alloc_new _ _, by simp, Nat.zero_le _, by simp, by simp [vals]⟩

/-- 'append(v, x...)', v the call's own: the bytes are behind those that are there, in the same block or in a new one; nothing else has turned. -/
theorem run_app_at {w : World} {h : Nat} {v : Value} {l : List Int} (ty : TypeId) (o : OwnAt w h v l) {a : Option Addr} {m c : Nat} {bs : List Int} (hs : Src w a m c bs) (hlen : l.length + m ≤ 140737488355328) :
    ∃ v' w' h', (Builtin.append_ #[30, 30] ty #[v, .slice a m c]).run Tryd.prog w = .ok v' w' ∧ OwnAt w' h' v' (l ++ bs) ∧ (h' = h ∨ h' = w.heap.size) ∧ Kept h h w w' := by
  obtain ⟨i, hi, hz, hsz, hby⟩ := info5p
  have hown := o.row
  cases a with
  | none =>
    have hc := hs.nil rfl
    have := hs.hcap
    obtain rfl : m = 0 := by omega
    obtain rfl : c = 0 := hc
    obtain rfl : bs = [] := List.eq_nil_of_length_eq_zero hs.hlen
    exact ⟨v, w, h, run_append_owned_none (P := Tryd.prog) w 0 30 ty 5 i 1 Tryd.underlying30 hi v l.length (vals l) hown, by simpa using o, Or.inl rfl, Kept.refl _ _ _⟩
  | some x =>
    obtain ⟨v', w', hr, ho, hg, hnil, hat⟩ := run_append_own_at (P := Tryd.prog) w 0 30 ty 5 i (.int .u8 0) 1 1 Tryd.underlying30 hi hz hsz hby rfl (by omega) v l.length (vals l) hown x m c (vals bs) (by rw [vals_length, hs.hlen]; omega)
      (fun j u hu => by
        obtain ⟨hj, rfl⟩ := vals_at _ _ _ hu
        rw [hs.hlen] at hj
        obtain ⟨b, o, e, hcell⟩ := hs.lies (by omega)
        simp at e
        subst e
        rw [add_none]
        exact hcell j hj) (vals_one _) (by unfold maxLen; omega) (by omega) (Nat.zero_le _)
    rw [o.block] at hg hat
    rcases ho.2 with ⟨hv, _⟩ | ⟨h', cap, cur, hv, _, hh, h1, h2, h3, h4⟩
    · obtain ⟨cap0, cur0, rfl, _⟩ := o
      have := (hnil.1 hv).1
      cases this
    · subst hv
      refine ⟨_, w', h', hr, ⟨cap, cur, by rw [List.length_append, hs.hlen], hh, by rw [List.length_append, hs.hlen]; exact h1, h2, by omega, ?_⟩, ?_, ⟨hg.os, hg.tape, hg.output, hg.size, fun k hk e1 e2 => hg.block k hk (by simp; omega)⟩⟩
      · rw [List.length_append, hs.hlen]
        simpa [vals] using h4
      · simp [Value.ownBlock] at hat
        exact hat

/-- The operation 'append' for the walk, where its run is known by an equation. -/
theorem wpList_app_run {P : Program} (w : World) {ops : Array Oper} {rest : List Oper} {o : Oper} {a : Act} {Q : Exit → Act → World → Prop} (hgd : o.guard = none) (d s : Operand) (t t' : TypeId)
    (ho : o.op = .call { callee := .builtin .append, args := #[d, s], argTypes := #[t, t'] }) (v u : Value) (hd : a.eval d = v) (hs : a.eval s = u) {v' : Value} {w' : World}
    (hr : (Builtin.append_ #[t, t'] o.type #[v, u]).run P w = .ok v' w') (h : wpList P ops Q rest (a.put o.dst v') w') : wpList P ops Q (o :: rest) a w := by
  refine wpList_plain hgd fun K hK => ?_
  unfold Oper.wp execOp
  simp only [ho, resolve, invoke, builtin, Sem.run_bind, Sem.run_pure, Result.andThen_ok, List.map_toArray, List.map_cons, List.map_nil, hd, hs, hr]
  exact hK _ _ h

end Go.Proofs.YtnikjcinleghbaaDoor
