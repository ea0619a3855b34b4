/-
  Slices of bytes that the call itself appends to, by the block in which each lies; conditions as each theorem has them.
-/
import Derived.Test.YtjojhnkibgkleaaJoinedRE
import Derived.Maps.AppendAt
set_option linter.unusedSimpArgs false
set_option linter.unusedVariables false
set_option maxRecDepth 8000
namespace Go.Proofs.Ytjojhnkibgkleaa
open Go.RowKit

theorem lt_of_cell {w : World} {a : Addr} {v : Value} (h : w.cell? a = some v) : a.block < w.heap.size := by
  unfold World.cell? at h
  cases e : w.heap[a.block]? with
  | none => simp [e] at h
  | some x => exact lt_of_some e
theorem src_block {w : World} {b : Nat} {l : List Int} {fr : Nat × Nat} {n : Nat} (hg : w.heap[b]? = some (.cells (vals l).toArray 5 fr)) (hn : l.length = n) (hm : n ≤ 65536) (hb : ∀ x ∈ l, 0 ≤ x ∧ x < 256) : Src w (some ⟨b, 0, none⟩) n n l :=
  ⟨hn, Nat.le_refl _, by unfold maxLen; omega, fun h => (by cases h), fun _ => ⟨b, 0, rfl, fun i hi => by rw [Nat.zero_add]; simp [World.cell?, hg, vals, List.getD, show i < l.length by omega]⟩, hb⟩
theorem wpList_app_run {P : Program} (w : World) {ops : Array Oper} {rest : List Oper} {o : Oper} {a : Act} {Q : Exit → Act → World → Prop} (hgd : o.guard = none) (d s : Operand) (t t' : TypeId)
    (ho : o.op = .call { callee := .builtin .append, args := #[d, s], argTypes := #[t, t'] }) (v u : Value) (hd : a.eval d = v) (hs : a.eval s = u) {v' : Value} {w' : World}
    (hr : (Builtin.append_ #[t, t'] o.type #[v, u]).run P w = .ok v' w') (h : wpList P ops Q rest (a.put o.dst v') w') : wpList P ops Q (o :: rest) a w := by
  refine wpList_plain hgd fun K hK => ?_
  unfold Oper.wp execOp
  simp only [ho, resolve, invoke, builtin, Sem.run_bind, Sem.run_pure, Result.andThen_ok, List.map_toArray, List.map_cons, List.map_nil, hd, hs, hr]
  exact hK _ _ h
theorem info5p : ∃ i, Try.prog.info? 5 = some i ∧ i.zero = some (.int .u8 0) ∧ i.size = 1 ∧ i.bytes = 1 := info_parts info5'

/-- The value v is a slice of the bytes l at the head of block h, which is the call's own. -/
def OwnAt (w : World) (h : Nat) (v : Value) (l : List Int) : Prop :=
  ∃ cap cur, v = .slice (some ⟨h, 0, none⟩) l.length cap ∧ w.heap[h]? = some (.cells cur 5 (0, 0)) ∧ l.length ≤ cap ∧ cap ≤ maxLen ∧ cur.size = cap ∧ cur.toList.take l.length = vals l

theorem OwnAt.keep {w w' : World} {h : Nat} {v : Value} {l : List Int} (o : OwnAt w h v l) (e : w'.heap[h]? = w.heap[h]?) : OwnAt w' h v l := by
  obtain ⟨cap, cur, h1, h2, h3⟩ := o
  exact ⟨cap, cur, h1, by rw [e]; exact h2, h3⟩

theorem OwnAt.lt {w : World} {h : Nat} {v : Value} {l : List Int} (o : OwnAt w h v l) : h < w.heap.size := by
  obtain ⟨cap, cur, h1, h2, h3⟩ := o
  exact lt_of_some h2

theorem OwnAt.row {w : World} {h : Nat} {v : Value} {l : List Int} (o : OwnAt w h v l) : w.ownsRow 0 5 1 v l.length (vals l) := by
  obtain ⟨cap, cur, h1, h2, h3, h4, h5, h6⟩ := o
  exact ⟨by rw [vals_length]; omega, Or.inr ⟨h, cap, cur, h1, Nat.zero_le _, h2, h3, h4, by omega, by simpa using h6⟩⟩

theorem OwnAt.block {w : World} {h : Nat} {v : Value} {l : List Int} (o : OwnAt w h v l) : v.ownBlock = some h := by
  obtain ⟨cap, cur, rfl, _⟩ := o
  rfl

theorem OwnAt.src {w : World} {h : Nat} {v : Value} {l : List Int} (o : OwnAt w h v l) (hb : ∀ x ∈ l, 0 ≤ x ∧ x < 256) : ∃ cap, v = .slice (some ⟨h, 0, none⟩) l.length cap ∧ Src w (some ⟨h, 0, none⟩) l.length cap l := by
  obtain ⟨cap, cur, rfl, h2, h3, h4, h5, h6⟩ := o
  refine ⟨cap, rfl, ⟨rfl, h3, h4, fun e => (by cases e), fun _ => ⟨h, 0, rfl, fun i hi => ?_⟩, hb⟩⟩
  have e1 : cur[i]? = (vals l)[i]? := by rw [← h6, List.getElem?_take, if_pos hi]; simp
  rw [Nat.zero_add]
  simp only [World.cell?, h2]
  simp [e1, vals, List.getD, hi]

theorem own_at_new (w : World) : OwnAt (w.alloc (.cells #[] 5)) w.heap.size (.slice (some ⟨w.heap.size, 0, none⟩) 0 0) [] :=
  ⟨0, #[], rfl, alloc_new _ _, by simp, Nat.zero_le _, by simp, by simp [vals]⟩

/-- 'append(v, x...)', v the call's own: the bytes are behind those that are there, in the same block or in a new one; nothing else has turned. -/
theorem run_app_at {w : World} {h : Nat} {v : Value} {l : List Int} (ty : TypeId) (o : OwnAt w h v l) {a : Option Addr} {m c : Nat} {bs : List Int} (hs : Src w a m c bs) (hlen : l.length + m ≤ 140737488355328) :
    ∃ v' w' h', (Builtin.append_ #[45, 45] ty #[v, .slice a m c]).run Try.prog w = .ok v' w' ∧ OwnAt w' h' v' (l ++ bs) ∧ (h' = h ∨ h' = w.heap.size) ∧ Kept h h w w' := by
  obtain ⟨i, hi, hz, hsz, hby⟩ := info5p
  have hown := o.row
  cases a with
  | none =>
    have hc := hs.nil rfl
    have := hs.hcap
    obtain rfl : m = 0 := by omega
    obtain rfl : c = 0 := hc
    obtain rfl : bs = [] := List.eq_nil_of_length_eq_zero hs.hlen
    exact ⟨v, w, h, run_append_owned_none (P := Try.prog) w 0 45 ty 5 i 1 Try.underlying45 hi v l.length (vals l) hown, by simpa using o, Or.inl rfl, Kept.refl _ _ _⟩
  | some x =>
    obtain ⟨v', w', hr, ho, hg, hnil, hat⟩ := run_append_own_at (P := Try.prog) w 0 45 ty 5 i (.int .u8 0) 1 1 Try.underlying45 hi hz hsz hby rfl (by omega) v l.length (vals l) hown x m c (vals bs) (by rw [vals_length, hs.hlen]; omega)
      (fun j u hu => by
        obtain ⟨hj, rfl⟩ := vals_at _ _ _ hu
        rw [hs.hlen] at hj
        obtain ⟨b, o, e, hcell⟩ := hs.lies (by omega)
        simp at e
        subst e
        rw [add_none]
        exact hcell j hj) (vals_one _) (by unfold maxLen; omega) (by omega) (Nat.zero_le _)
    rw [o.block] at hg hat
    rcases ho.2 with ⟨hv, _⟩ | ⟨h', cap, cur, hv, _, hh, h1, h2, h3, h4⟩
    · obtain ⟨cap0, cur0, rfl, _⟩ := o
      have := (hnil.1 hv).1
      cases this
    · subst hv
      refine ⟨_, w', h', hr, ⟨cap, cur, by rw [List.length_append, hs.hlen], hh, by rw [List.length_append, hs.hlen]; exact h1, h2, by omega, ?_⟩, ?_, ⟨hg.os, hg.tape, hg.output, hg.size, fun k hk e1 e2 => hg.block k hk (by simp; omega)⟩⟩
      · rw [List.length_append, hs.hlen]
        simpa [vals] using h4
      · simp [Value.ownBlock] at hat
        exact hat

theorem str_append (a b : List Int) : strOfNums a ++ strOfNums b = strOfNums (a ++ b) := by
  unfold strOfNums
  rw [ByteArray.mk_append_mk]
  simp

end Go.Proofs.Ytjojhnkibgkleaa
