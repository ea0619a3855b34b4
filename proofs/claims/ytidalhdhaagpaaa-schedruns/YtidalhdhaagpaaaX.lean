/-
  A copy of a table, and SchedRuns' walk; conditions as each theorem has them.
-/
import Derived.Test.YtidalhdhaagpaaaP
import Derived.Maps.AppendAt
import Derived.OpenShut
set_option linter.unusedSimpArgs false
set_option linter.unusedVariables false
namespace Go.Proofs.Ytidalhdhaagpaaa
open Go.RowKit

/-- Slots as they lie in memory. -/
def prs : List (Int × Int) → List Value
  | [] => []
  | p :: t => .int .i64 p.1 :: .int .i64 p.2 :: prs t
theorem prs_length : ∀ l : List (Int × Int), (prs l).length = l.length * 2
  | [] => rfl
  | p :: t => by simp only [prs, List.length_cons, prs_length t]; omega
theorem prs_at : ∀ (l : List (Int × Int)) (i : Nat) (p : Int × Int), l[i]? = some p → (prs l)[i * 2]? = some (.int .i64 p.1) ∧ (prs l)[i * 2 + 1]? = some (.int .i64 p.2)
  | [], i, p, h => by simp at h
  | a :: t, 0, p, h => by simp at h; subst h; simp [prs]
  | a :: t, i + 1, p, h => by
    have := prs_at t i p (by simpa using h)
    rw [show (i + 1) * 2 = i * 2 + 2 by omega]
    simpa [prs] using this
theorem prs_one : ∀ (l : List (Int × Int)), ∀ v ∈ prs l, v.oneCell' = true
  | [], v, h => by simp [prs] at h
  | e :: t, v, h => by
    simp only [prs, List.mem_cons] at h
    rcases h with rfl | rfl | h
    · rfl
    · rfl
    · exact prs_one t v h
theorem prs_split (l : List (Int × Int)) (j : Nat) (v : Value) (h : (prs l)[j]? = some v) : ∃ i p, l[i]? = some p ∧ ((j = i * 2 ∧ v = .int .i64 p.1) ∨ (j = i * 2 + 1 ∧ v = .int .i64 p.2)) := by
  have hj := (List.getElem?_eq_some_iff.1 h).1
  rw [prs_length] at hj
  obtain ⟨p, hp⟩ := get_lt (T := l) (k := j / 2) (by omega)
  obtain ⟨h0, h1⟩ := prs_at l (j / 2) p hp
  refine ⟨j / 2, p, hp, ?_⟩
  rcases Nat.mod_two_eq_zero_or_one j with hm | hm
  · left
    have e : j = j / 2 * 2 := by omega
    rw [← e, h] at h0
    exact ⟨e, by simpa using h0⟩
  · right
    have e : j = j / 2 * 2 + 1 := by omega
    rw [← e, h] at h1
    exact ⟨e, by simpa using h1⟩

theorem info25p : ∃ i, Try.prog.info? 25 = some i ∧ i.zero = some (.agg #[.int .i64 0, .int .i64 0]) ∧ i.size = 2 ∧ i.bytes = 16 := by
  have h : (Try.prog.info? 25).map (fun i => (i.zero, i.size, i.bytes)) = some (some (.agg #[.int .i64 0, .int .i64 0]), 2, 16) := by kernel_rfl
  obtain ⟨i, hi, hz⟩ := Option.map_eq_some_iff.1 h
  simp only [Prod.mk.injEq] at hz
  exact ⟨i, hi, hz.1, hz.2.1, hz.2.2⟩

/-- The operation 'append' for the walk, where its run is known by an equation. -/
theorem wpList_app_run {P : Program} (w : World) {ops : Array Oper} {rest : List Oper} {o : Oper} {a : Act} {Q : Exit → Act → World → Prop} (hgd : o.guard = none) (d s : Operand) (t t' : TypeId)
    (ho : o.op = .call { callee := .builtin .append, args := #[d, s], argTypes := #[t, t'] }) (v u : Value) (hd : a.eval d = v) (hs : a.eval s = u) {v' : Value} {w' : World}
    (hr : (Builtin.append_ #[t, t'] o.type #[v, u]).run P w = .ok v' w') (h : wpList P ops Q rest (a.put o.dst v') w') : wpList P ops Q (o :: rest) a w := by
  refine wpList_plain hgd fun K hK => ?_
  unfold Oper.wp execOp
  simp only [ho, resolve, invoke, builtin, Sem.run_bind, Sem.run_pure, Result.andThen_ok, List.map_toArray, List.map_cons, List.map_nil, hd, hs, hr]
  exact hK _ _ h

/-- What 'append([]Slot{}, l...)' leaves. -/
theorem run_copy (w0 : World) (a : Option Addr) (b o n cap : Nat) (T : List (Int × Int)) (h : Tab w0 a b o n T) (hpos : 0 < n) :
    ∃ g c w', (Builtin.append_ #[22, 22] 22 #[.slice (some ⟨w0.heap.size, 0, none⟩) 0 0, .slice a n cap]).run Try.prog (w0.alloc (.cells #[] 25)) = .ok (.slice (some ⟨g, 0, none⟩) n c) w' ∧ Tab w' (some ⟨g, 0, none⟩) g 0 n T ∧ Below w0.heap.size w0 w' := by
  obtain ⟨i, hi, hz, hsz, hby⟩ := info25p
  obtain ⟨rfl, hb⟩ := h.ptr hpos
  have hlen := h.len
  have hmax := h.max
  have hown : (w0.alloc (.cells #[] 25)).ownsRow w0.heap.size 25 2 (.slice (some ⟨w0.heap.size, 0, none⟩) 0 0) 0 [] :=
    ⟨rfl, Or.inr ⟨w0.heap.size, 0, #[], rfl, Nat.le_refl _, alloc_new _ _, Nat.le_refl _, Nat.zero_le _, rfl, rfl⟩⟩
  have ht := h.alloc (.cells #[] 25)
  obtain ⟨v', w', hr, hw, hg, hnil, hat⟩ := run_append_own_at (P := Try.prog) (w0.alloc (.cells #[] 25)) w0.heap.size 22 22 25 i (.agg #[.int .i64 0, .int .i64 0]) 2 16 Try.underlying22 hi hz hsz hby rfl (by omega) (.slice (some ⟨w0.heap.size, 0, none⟩) 0 0) 0 [] hown ⟨b, o, none⟩ n cap (prs T) (by rw [prs_length, hlen])
    (fun j u hu => by
      rw [add_none]
      obtain ⟨x, p, hp, hc⟩ := prs_split T j u hu
      obtain ⟨c0, c1⟩ := ht.cells x p hp
      rcases hc with ⟨rfl, rfl⟩ | ⟨rfl, rfl⟩
      · exact c0
      · rw [← Nat.add_assoc]; exact c1) (prs_one T) (by unfold maxLen; omega) (by omega) (by simp)
  rcases hw.2 with ⟨hv, h0⟩ | ⟨h', cap', cur', hv, hbase, hh, h1, h2, h3, h4⟩
  · omega
  · subst hv
    rw [Nat.zero_add] at h1 h4 hr
    refine ⟨h', cap', w', hr, ⟨hlen, fun _ => ⟨rfl, lt_of_some hh⟩, fun x p hp => ?_, hmax⟩, ?_⟩
    · obtain ⟨q0, q1⟩ := prs_at T x p hp
      have hx := (List.getElem?_eq_some_iff.1 hp).1
      rw [List.nil_append] at h4
      rw [← h4, List.getElem?_take, if_pos (by omega)] at q0 q1
      rw [Nat.zero_add]
      simp only [World.cell?, hh]
      exact ⟨by simpa using q0, by simpa using q1⟩
    · exact (Below.alw (Below.refl _ _) _).grown hg (by simp) (fun k hk => by simp [Value.ownBlock] at hk; omega)

end Go.Proofs.Ytidalhdhaagpaaa
