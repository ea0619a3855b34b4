/-
  What the statements' walks share: slices that came in, slices that the call itself appends to, and the helpers Among and SameBytes of the base package; conditions as each theorem has them.
-/
import Derived.Test.YtfijoienicjilaaH
import Derived.OpenShut
import Derived.OwnWalk
set_option linter.unusedSimpArgs false
set_option linter.unusedVariables false
namespace Go.Proofs.Ytfijoienicjilaa
open Go.RowKit

/-- A slice of integers that came in: nil, or a row of cap cells. -/
def IsRow (k : IntKind) (w : World) (a : Option Addr) (len cap : Nat) (zs : List Int) : Prop :=
  (a = none ∧ len = 0 ∧ cap = 0 ∧ zs = []) ∨
  ∃ x, a = some x ∧ len ≤ cap ∧ cap ≤ maxLen ∧ zs.length = cap ∧ (∀ i, i < zs.length → w.cell? (x.add i) = some (.int k (zs.getD i 0))) ∧ ∀ n ∈ zs, (Lit.int k n).wf = true

theorem lt_of_cell {w : World} {a : Addr} {v : Value} (h : w.cell? a = some v) : a.block < w.heap.size := by
  unfold World.cell? at h
  cases e : w.heap[a.block]? with
  | none => simp [e] at h
  | some x => exact lt_of_some e

theorem row_lies {k : IntKind} {w : World} {a : Option Addr} {len cap : Nat} {zs : List Int} (h : IsRow k w a len cap zs) (h0 : 0 < len) :
    ∃ b o, a = some ⟨b, o, none⟩ ∧ b < w.heap.size ∧ ∀ i, i < len → w.cell? ⟨b, o + i, none⟩ = some (.int k ((zs.take len).getD i 0)) := by
  rcases h with ⟨_, h1, _⟩ | ⟨x, rfl, hl, hm, hz, hc, hw⟩
  · omega
  · obtain ⟨b, o, spot⟩ := x
    have hc0 := hc 0 (by omega)
    have hspot : spot = none := by simpa [Addr.add] using World.cell?_spot hc0
    subst hspot
    refine ⟨b, o, rfl, by simpa [Addr.add] using lt_of_cell hc0, fun i hi => ?_⟩
    have := hc i (by omega)
    rw [add_none] at this
    rw [this, getD_take', if_pos hi]

theorem row_len {k : IntKind} {w : World} {a : Option Addr} {len cap : Nat} {zs : List Int} (h : IsRow k w a len cap zs) : (zs.take len).length = len ∧ len ≤ cap ∧ cap ≤ maxLen ∧ (a = none → cap = 0) := by
  rcases h with ⟨rfl, rfl, rfl, rfl⟩ | ⟨x, rfl, hl, hm, hz, hc, hw⟩
  · simp
  · exact ⟨by rw [List.length_take]; omega, hl, hm, fun e => by cases e⟩

theorem row_src {w : World} {a : Option Addr} {len cap : Nat} {zs : List Int} (h : IsRow .u8 w a len cap zs) : Src w a len cap (zs.take len) := by
  have hl := row_len h
  refine ⟨hl.1, hl.2.1, hl.2.2.1, hl.2.2.2, fun h0 => ?_, fun x hx => ?_⟩
  · obtain ⟨b, o, e, _, hc⟩ := row_lies h h0
    exact ⟨b, o, e, hc⟩
  · rcases h with ⟨_, _, _, rfl⟩ | ⟨_, _, _, _, _, _, hw⟩
    · simp at hx
    · have := bounds_u8 (hw x (List.mem_of_mem_take hx))
      omega

/-- Where a slice that came in lies. -/
theorem row_old {k : IntKind} {w : World} {a : Option Addr} {len cap : Nat} {zs : List Int} (h : IsRow k w a len cap zs) (h0 : 0 < len) : ∀ b o, a = some ⟨b, o, none⟩ → b < w.heap.size := by
  obtain ⟨b, o, rfl, hb, _⟩ := row_lies h h0
  intro b' o' e
  simp at e
  omega

theorem run_str_src {w : World} {a : Option Addr} {len cap : Nat} {l : List Int} (h : Src w a len cap l) : (convert 30 9 (.slice a len cap)).run Try.prog w = .ok (.string (strOfNums l)) w := by
  by_cases h0 : 0 < len
  · obtain ⟨b, o, rfl, hc⟩ := h.lies h0
    exact run_convert_bytes_arg (P := Try.prog) w 30 5 Try.underlying30 Try.underlying5 b o len cap l h.hlen hc 9 Try.underlying9
  · obtain rfl : len = 0 := by omega
    obtain rfl : l = [] := List.eq_nil_of_length_eq_zero h.hlen
    cases a with
    | none => exact run_convert_bytes_nil (P := Try.prog) w 30 5 Try.underlying30 Try.underlying5 0 cap 9 Try.underlying9
    | some x =>
      rw [run_convert_bytes_string w 30 9 5 _ 0 cap Try.underlying30 Try.underlying5 Try.underlying9]
      exact run_bytesToString w x 0 cap [] (by simpa using run_loadCells_list (P := Try.prog) w x [] (by simp))

set_option maxHeartbeats 400000 in
theorem same_bytes (w : World) (a b : Option Addr) (n c m d : Nat) (l : List Int) (h1 : Src w a n c l) (h2 : Src w b m d l) : Calls Try.prog 14 #[.slice a n c, .slice b m d] w fun e w' => e = .returned (.bool true) ∧ w = w' := by
  have r1 := run_str_src h1
  have r2 := run_str_src h2
  clear h1 h2
  go_enter Try.func14, Try.ntmps14
  go_wp2
  go_ret
  simp

theorem wrap_small (n : Int) (m : Nat) (hm : 0 < m) (hm1 : m ≤ 65536) : ∃ k : Nat, k < m ∧ wrap64 ((IntKind.u64.wrap n).tmod m) = (k : Int) := by
  have hu : 0 ≤ IntKind.u64.wrap n := by
    have : IntKind.u64.wrap n = n % 18446744073709551616 := by simp [IntKind.wrap, IntKind.signed, IntKind.bits]
    rw [this]
    exact Int.emod_nonneg _ (by omega)
  generalize IntKind.u64.wrap n = u at hu
  rw [Int.tmod_eq_emod_of_nonneg hu]
  have h1 := Int.emod_nonneg u (show (m : Int) ≠ 0 by omega)
  have h2 := Int.emod_lt_of_pos u (show (0 : Int) < m by omega)
  refine ⟨(u % m).toNat, by omega, ?_⟩
  generalize u % (m : Int) = x at h1 h2
  rw [Int.toNat_of_nonneg h1]
  unfold wrap64
  omega

set_option maxHeartbeats 400000 in
theorem among (n : Int) (m : Nat) (hm : 0 < m) (hm1 : m ≤ 65536) (w : World) : Calls Try.prog 10 #[.int .i64 n, .int .i64 m] w fun e w' => ∃ k : Nat, k < m ∧ e = .returned (.int .i64 k) ∧ w = w' := by
  go_enter Try.func10, Try.ntmps10
  go_wp2
  go_ret
  obtain ⟨k, hk, e⟩ := wrap_small n m hm hm1
  exact ⟨k, hk, by rw [← e]; rfl, rfl⟩

theorem own_src {w : World} {B : Nat} {v : Value} {l : List Int} (h : w.ownsRow B 5 1 v l.length (vals l)) (hb : ∀ x ∈ l, 0 ≤ x ∧ x < 256) : ∃ a cap, v = .slice a l.length cap ∧ Src w a l.length cap l ∧ ∀ b o, a = some ⟨b, o, none⟩ → B ≤ b := by
  rcases h.2 with ⟨rfl, h0⟩ | ⟨g, cap, cur, rfl, hg, hh, hc, hm, hs, ht⟩
  · obtain rfl : l = [] := List.eq_nil_of_length_eq_zero h0
    exact ⟨none, 0, rfl, ⟨rfl, Nat.le_refl _, Nat.zero_le _, fun _ => rfl, fun h => by simp at h, by simp⟩, fun b o e => by cases e⟩
  · refine ⟨some ⟨g, 0, none⟩, cap, rfl, ⟨rfl, hc, hm, fun e => (by cases e), fun _ => ⟨g, 0, rfl, fun i hi => ?_⟩, hb⟩, fun b o e => by simp at e; omega⟩
    rw [Nat.mul_one] at ht
    have e1 : cur[i]? = (vals l)[i]? := by rw [← ht, List.getElem?_take, if_pos hi]; simp
    rw [Nat.zero_add]
    simp only [World.cell?, hh]
    simp [e1, vals, List.getD, hi]

theorem info5p : ∃ i, Try.prog.info? 5 = some i ∧ i.zero = some (.int .u8 0) ∧ i.size = 1 ∧ i.bytes = 1 := info_parts info5'

/-- 'append(v, x...)', v the call's own: the bytes are behind those that are there; nothing below B has turned. -/
theorem run_app {w : World} {B : Nat} {v : Value} {l : List Int} (ty : TypeId) (hown : w.ownsRow B 5 1 v l.length (vals l)) {a : Option Addr} {m c : Nat} {bs : List Int} (hs : Src w a m c bs) (hlen : l.length + m ≤ 140737488355328) (hB : B ≤ w.heap.size) :
    ∃ v' w', (Builtin.append_ #[30, 30] ty #[v, .slice a m c]).run Try.prog w = .ok v' w' ∧ w'.ownsRow B 5 1 v' (l ++ bs).length (vals (l ++ bs)) ∧ Below B w w' := by
  obtain ⟨i, hi, hz, hsz, hby⟩ := info5p
  have hrow : ∀ k, v.ownBlock = some k → B ≤ k := by
    intro k hk
    rcases hown.2 with ⟨rfl, _⟩ | ⟨g, cap, cur, rfl, hg, _⟩
    · cases hk
    · simp [Value.ownBlock] at hk; omega
  cases a with
  | none =>
    have hc := hs.nil rfl
    have := hs.hcap
    obtain rfl : m = 0 := by omega
    obtain rfl : c = 0 := hc
    obtain rfl : bs = [] := List.eq_nil_of_length_eq_zero hs.hlen
    exact ⟨v, w, run_append_owned_none (P := Try.prog) w B 30 ty 5 i 1 Try.underlying30 hi v l.length (vals l) hown, by simpa using hown, Below.refl _ _⟩
  | some x =>
    obtain ⟨v', w', hr, ho, hg, _⟩ := run_append_own (P := Try.prog) w B 30 ty 5 i (.int .u8 0) 1 1 Try.underlying30 hi hz hsz hby rfl (by omega) v l.length (vals l) hown x m c (vals bs) (by rw [vals_length, hs.hlen]; omega)
      (fun j u hu => by
        obtain ⟨hj, rfl⟩ := vals_at _ _ _ hu
        rw [hs.hlen] at hj
        obtain ⟨b, o, e, hcell⟩ := hs.lies (by omega)
        simp at e
        subst e
        rw [add_none]
        exact hcell j hj) (vals_one _) (by unfold maxLen; omega) (by omega) hB
    refine ⟨v', w', hr, ?_, (Below.refl B w).grown hg hB hrow⟩
    rw [List.length_append, hs.hlen]
    simpa [vals] using ho

theorem own_keep {w w' : World} {B r g : Nat} {v : Value} {l : List Int} (h : w.ownsRow B 5 1 v l.length (vals l)) (k : Kept r g w w') (hr : r < B) (hg : g < B) : w'.ownsRow B 5 1 v l.length (vals l) := by
  refine ⟨h.1, ?_⟩
  rcases h.2 with h0 | ⟨x, cap, cur, hv, hx, hh, hrest⟩
  · exact Or.inl h0
  · exact Or.inr ⟨x, cap, cur, hv, hx, k.at_ hh (by omega) (by omega), hrest⟩

theorem IsRing.fits {w : World} {r g n : Nat} {ic oc : Int} {q : List Int} (h : IsRing w r g n ic oc q) : q.length ≤ n ∧ n ≤ 65536 := by
  obtain ⟨p, zs, h⟩ := h
  exact ⟨h.shape.fits, h.shape.max⟩

/-- Below B nothing has turned but the blocks r and g. -/
structure KeptB (B r g : Nat) (w w' : World) : Prop where
  os : w'.os = w.os
  tape : w'.tape = w.tape
  output : w'.output = w.output
  size : w.heap.size ≤ w'.heap.size
  block : ∀ k, k < B → k ≠ r → k ≠ g → w'.heap[k]? = w.heap[k]?

theorem KeptB.refl (B r g : Nat) (w : World) : KeptB B r g w w := ⟨rfl, rfl, rfl, Nat.le_refl _, fun _ _ _ _ => rfl⟩
theorem KeptB.trans {B r g : Nat} {a b c : World} (h : KeptB B r g a b) (k : KeptB B r g b c) : KeptB B r g a c :=
  ⟨k.os.trans h.os, k.tape.trans h.tape, k.output.trans h.output, Nat.le_trans h.size k.size, fun i hi h1 h2 => (k.block i hi h1 h2).trans (h.block i hi h1 h2)⟩
theorem KeptB.of_kept {B r g : Nat} {a b : World} (h : Kept r g a b) (hB : B ≤ a.heap.size) : KeptB B r g a b := ⟨h.os, h.tape, h.output, h.size, fun k hk h1 h2 => h.block k (by omega) h1 h2⟩
theorem KeptB.of_below {B r g : Nat} {a b : World} (h : Below B a b) : KeptB B r g a b := ⟨h.os, h.tape, h.output, h.size, fun k hk _ _ => h.block k hk⟩
theorem KeptB.below {B r g C : Nat} {a b : World} (h : KeptB B r g a b) (hr : C ≤ r) (hg : C ≤ g) (hC : C ≤ B) : Below C a b := ⟨h.os, h.tape, h.output, h.size, fun k hk => h.block k (by omega) (by omega) (by omega)⟩
theorem KeptB.drewN {B r g : Nat} {a b : World} (h : KeptB B r g a b) (n : Nat) : KeptB B r g a (b.drewN n) := ⟨h.os, h.tape, h.output, h.size, h.block⟩

theorem own_new (w : World) : (w.alloc (.cells #[] 5)).ownsRow w.heap.size 5 1 (.slice (some ⟨w.heap.size, 0, none⟩) 0 0) ([] : List Int).length (vals []) :=
  ⟨by simp [vals], Or.inr ⟨w.heap.size, 0, #[], rfl, Nat.le_refl _, alloc_new _ _, by simp, Nat.zero_le _, by simp, by simp [vals]⟩⟩

/-- The operation 'append' for the walk, where its run is known by an equation. -/
theorem wpList_app_run {P : Program} (w : World) {ops : Array Oper} {rest : List Oper} {o : Oper} {a : Act} {Q : Exit → Act → World → Prop} (hgd : o.guard = none) (d s : Operand) (t t' : TypeId)
    (ho : o.op = .call { callee := .builtin .append, args := #[d, s], argTypes := #[t, t'] }) (v u : Value) (hd : a.eval d = v) (hs : a.eval s = u) {v' : Value} {w' : World}
    (hr : (Builtin.append_ #[t, t'] o.type #[v, u]).run P w = .ok v' w') (h : wpList P ops Q rest (a.put o.dst v') w') : wpList P ops Q (o :: rest) a w := by
  refine wpList_plain hgd fun K hK => ?_
  unfold Oper.wp execOp
  simp only [ho, resolve, invoke, builtin, Sem.run_bind, Sem.run_pure, Result.andThen_ok, List.map_toArray, List.map_cons, List.map_nil, hd, hs, hr]
  exact hK _ _ h

theorem IsRing.nums {w : World} {r g n : Nat} {ic oc : Int} {q : List Int} (h : IsRing w r g n ic oc q) : 0 ≤ ic ∧ ic < 4294967296 ∧ 0 ≤ oc ∧ oc < 4294967296 ∧ (ic - oc) % 4294967296 = q.length := by
  obtain ⟨p, zs, h⟩ := h
  exact ⟨h.shape.ic0, h.shape.ic1, h.shape.oc0, h.shape.oc1, h.shape.diff⟩

theorem len_ringD (r g n : Nat) (ic oc : Int) (q : List Int) (w : World) (h : IsRing w r g n ic oc q) (k : Nat) :
    Calls Try.prog 24 #[.pointer (some ⟨r, 0, none⟩)] (w.drewN k) fun e w' => e = .returned (.int .i64 q.length) ∧ ∃ n, w' = w.drewN n := by
  refine (len_ring r g n ic oc q (w.drewN k) (h.keep rfl rfl)).mono ?_
  rintro e w' ⟨he, m, rfl⟩
  exact ⟨he, _, World.drewN_drewN _ _ _⟩

theorem free_ringD (r g n : Nat) (ic oc : Int) (q : List Int) (w : World) (h : IsRing w r g n ic oc q) (k : Nat) :
    Calls Try.prog 27 #[.pointer (some ⟨r, 0, none⟩)] (w.drewN k) fun e w' => e = .returned (.int .i64 (n - q.length)) ∧ ∃ n, w' = w.drewN n := by
  refine (free_ring r g n ic oc q (w.drewN k) (h.keep rfl rfl)).mono ?_
  rintro e w' ⟨he, m, rfl⟩
  exact ⟨he, _, World.drewN_drewN _ _ _⟩

theorem moved_ringD (r g n : Nat) (ic oc : Int) (q : List Int) (w : World) (h : IsRing w r g n ic oc q) (k : Nat) :
    Calls Try.prog 25 #[.pointer (some ⟨r, 0, none⟩)] (w.drewN k) fun e w' => e = .returned (.tuple #[.int .i64 ic, .int .i64 oc]) ∧ ∃ n, w' = w.drewN n := by
  refine (moved_ring r g n ic oc q (w.drewN k) (h.keep rfl rfl)).mono ?_
  rintro e w' ⟨he, m, rfl⟩
  exact ⟨he, _, World.drewN_drewN _ _ _⟩

theorem cap_ringD (r g n : Nat) (ic oc : Int) (q : List Int) (w : World) (h : IsRing w r g n ic oc q) (k : Nat) :
    Calls Try.prog 26 #[.pointer (some ⟨r, 0, none⟩)] (w.drewN k) fun e w' => e = .returned (.int .i64 n) ∧ ∃ n, w' = w.drewN n := by
  refine (cap_ring r g n ic oc q (w.drewN k) (h.keep rfl rfl)).mono ?_
  rintro e w' ⟨he, rfl⟩
  exact ⟨he, k, rfl⟩

end Go.Proofs.Ytfijoienicjilaa
