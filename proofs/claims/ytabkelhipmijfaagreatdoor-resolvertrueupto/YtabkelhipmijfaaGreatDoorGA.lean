/-
  A resolver as it lies in memory, and what stays of the memory; conditions as each theorem has them.
-/
import Derived.Test.YtabkelhipmijfaaGreatDoorGM
import Derived.Test.YtabkelhipmijfaaGreatDoorVK
import Derived.Test.YtabkelhipmijfaaGreatDoorJoined9
import Derived.Test.YtabkelhipmijfaaGreatDoorJoined8
import Derived.Laws.AppendOwn
import Derived.Deep.MidRow
set_option linter.unusedSimpArgs false
set_option linter.unusedVariables false
namespace Go.Proofs.YtabkelhipmijfaaGreatDoor
open Go.RowKit

/-- Nothing that was there has turned but what lies in the blocks of S. -/
structure KeptS (S : Nat → Prop) (w w' : World) : Prop where
  os : w'.os = w.os
  tape : w'.tape = w.tape
  output : w'.output = w.output
  size : w.heap.size ≤ w'.heap.size
  block : ∀ k, k < w.heap.size → ¬ S k → w'.heap[k]? = w.heap[k]?
theorem KeptS.refl (S : Nat → Prop) (w : World) : KeptS S w w := ⟨rfl, rfl, rfl, Nat.le_refl _, fun _ _ _ => rfl⟩
theorem KeptS.trans {S T : Nat → Prop} {a b c : World} (h : KeptS S a b) (k : KeptS T b c) (hT : ∀ x, T x → S x ∨ a.heap.size ≤ x) : KeptS S a c :=
  ⟨k.os.trans h.os, k.tape.trans h.tape, k.output.trans h.output, Nat.le_trans h.size k.size, fun i hi h1 => (k.block i (Nat.lt_of_lt_of_le hi h.size) (fun t => by
    rcases hT i t with h2 | h2
    · exact h1 h2
    · omega)).trans (h.block i hi h1)⟩
theorem KeptS.drewN {S : Nat → Prop} {a b : World} (h : KeptS S a b) (n : Nat) : KeptS S a (b.drewN n) := ⟨h.os, h.tape, h.output, h.size, h.block⟩
theorem KeptS.of_drewN {S : Nat → Prop} {a b : World} {n : Nat} (h : KeptS S (a.drewN n) b) : KeptS S a b := ⟨h.os, h.tape, h.output, h.size, h.block⟩
theorem KeptS.of_below {S : Nat → Prop} {a b : World} (h : Below a.heap.size a b) : KeptS S a b := ⟨h.os, h.tape, h.output, h.size, fun k hk _ => h.block k hk⟩
theorem KeptS.of_nm {S : Nat → Prop} {r g : Nat} {a b : World} (h : Nm.Kept r g a b) (hr : S r) (hg : S g) : KeptS S a b :=
  ⟨h.os, h.tape, h.output, h.size, fun k hk hn => h.block k hk (fun e => hn (e ▸ hr)) (fun e => hn (e ▸ hg))⟩
theorem KeptS.mono {S T : Nat → Prop} {a b : World} (h : KeptS S a b) (hT : ∀ x, S x → T x ∨ a.heap.size ≤ x) : KeptS T a b := (KeptS.refl T a).trans h hT
theorem KeptS.setCell {S : Nat → Prop} {a b : World} (h : KeptS S a b) {p : Addr} (hp : S p.block) (u : Value) : KeptS S a (b.setCell p u) :=
  h.trans ⟨rfl, rfl, rfl, by simp [World.setCell], fun k hk h1 => Below.heap_setCell _ _ _ _ (fun e => h1 (e ▸ hp))⟩ (fun _ => Or.inl)
theorem KeptS.setRow {S : Nat → Prop} {a b : World} (h : KeptS S a b) {p : Nat} (hp : S p) (cs : Array Value) : KeptS S a (b.setRow p cs) :=
  h.trans ⟨rfl, rfl, rfl, by simp [World.setRow], fun k hk h1 => setRow_other b p k cs (fun e => h1 (e ▸ hp))⟩ (fun _ => Or.inl)
theorem KeptS.alloc {S : Nat → Prop} {a b : World} (h : KeptS S a b) (o : Obj) : KeptS S a (b.alloc o) :=
  h.trans (T := fun _ => False) ⟨rfl, rfl, rfl, by simp, fun k hk _ => Below.heap_alloc _ _ _ hk⟩ (fun _ h => h.elim)
theorem KeptS.below {S : Nat → Prop} {a b : World} (h : KeptS S a b) {B : Nat} (hB : B ≤ a.heap.size) (hS : ∀ x, S x → B ≤ x) : Below B a b :=
  ⟨h.os, h.tape, h.output, h.size, fun k hk => h.block k (by omega) (fun s => by have := hS k s; omega)⟩
/-- What belongs to a resolver behind a call: what did, and what the call made. -/
def grow (S : Nat → Prop) (w w' : World) : Nat → Prop := fun k => S k ∨ (w.heap.size ≤ k ∧ k < w'.heap.size)

theorem own_keep {w w' : World} {e : TypeId} {s n : Nat} {v : Value} {xs : List Value} (h : w.ownsRow 0 e s v n xs) (k : ∀ g, v.ownBlock = some g → w'.heap[g]? = w.heap[g]?) : w'.ownsRow 0 e s v n xs := by
  refine ⟨h.1, ?_⟩
  rcases h.2 with h0 | ⟨x, cap, cur, hv, hx, hh, hrest⟩
  · exact Or.inl h0
  · exact Or.inr ⟨x, cap, cur, hv, hx, (k x (by rw [hv]; rfl)).trans hh, hrest⟩
theorem own_block {w : World} {e : TypeId} {s n : Nat} {v : Value} {xs : List Value} (h : w.ownsRow 0 e s v n xs) {g : Nat} (hg : v.ownBlock = some g) : ∃ cur, w.heap[g]? = some (.cells cur e) := by
  rcases h.2 with ⟨rfl, _⟩ | ⟨x, cap, cur, rfl, hx, hh, hrest⟩
  · cases hg
  · simp [Value.ownBlock] at hg
    subst hg
    exact ⟨cur, hh⟩
theorem own_shape {w : World} {e : TypeId} {s n : Nat} {v : Value} {xs : List Value} (h : w.ownsRow 0 e s v n xs) : ∃ a c, v = .slice a n c := by
  rcases h.2 with ⟨rfl, rfl⟩ | ⟨x, cap, cur, rfl, _⟩
  · exact ⟨_, _, rfl⟩
  · exact ⟨_, _, rfl⟩
theorem own_base {w : World} {B : Nat} {e : TypeId} {s n : Nat} {v : Value} {xs : List Value} (h : w.ownsRow B e s v n xs) : w.ownsRow 0 e s v n xs := by
  refine ⟨h.1, ?_⟩
  rcases h.2 with h0 | ⟨x, cap, cur, hv, hx, hrest⟩
  · exact Or.inl h0
  · exact Or.inr ⟨x, cap, cur, hv, Nat.zero_le _, hrest⟩
/-- 'append' to a slice of its own, and where it lies then. -/
theorem app_gen {w : World} (t e : TypeId) (z : Value) (size bytes : Nat) (ht : Tryz.prog.underlying t = some (.slice e)) (hi : ∃ i, Tryz.prog.info? e = some i ∧ i.zero = some z ∧ i.size = size ∧ i.bytes = bytes)
    (hzs : z.cells.size = size) (hsz : 0 < size) {v : Value} {n : Nat} {xs : List Value} (hown : w.ownsRow 0 e size v n xs) (a : Addr) (m c : Nat) (news : List Value) (hl : news.length = m * size)
    (hnews : ∀ j u, news[j]? = some u → w.cell? (a.add j) = some u) (h1 : ∀ u ∈ news, u.oneCell' = true) (h63 : n + m ≤ maxLen) (hbytes : (n + m) * bytes ≤ 140737488355328) (hm : 0 < m) :
    ∃ v' w', (Builtin.append_ #[t, t] t #[v, .slice (some a) m c]).run Tryz.prog w = .ok v' w' ∧ w'.ownsRow 0 e size v' (n + m) (xs ++ news) ∧ w.grownBy w' v.ownBlock ∧
      (∀ g, v'.ownBlock = some g → v.ownBlock = some g ∨ w.heap.size ≤ g) := by
  obtain ⟨i, hi, hz, hs, hby⟩ := hi
  obtain ⟨v', w', hr, ho, hg, _⟩ := run_append_own (P := Tryz.prog) w 0 t t e i z size bytes ht hi hz hs hby hzs hsz v n xs hown a m c news hl hnews h1 h63 hbytes (Nat.zero_le _)
  refine ⟨v', w', hr, ho, hg, fun g hgv => ?_⟩
  rcases hown.2 with ⟨rfl, rfl⟩ | ⟨x, cap, cur, rfl, hbg, hh, hnc, hcm, hcs, htake⟩
  · right
    obtain ⟨v2, w2, hr2, ho2, _⟩ := run_append_own (P := Tryz.prog) w w.heap.size t t e i z size bytes ht hi hz hs hby hzs hsz (.slice none 0 0) 0 xs ⟨hown.1, Or.inl ⟨rfl, rfl⟩⟩ a m c news hl hnews h1 h63 hbytes (Nat.le_refl _)
    rw [hr] at hr2
    injection hr2 with e1 e2
    subst e1
    exact (ho2.lt g hgv).1
  · subst hs
    by_cases hroom : n + m ≤ cap
    · left
      have hfit : n * i.size + news.length ≤ cur.size := by rw [hl, hcs, ← Nat.add_mul]; exact Nat.mul_le_mul_right _ hroom
      have hr2 := run_append_room (P := Tryz.prog) w t t e i ht hi x n cap cur hh a m c news hl hnews h1 hroom hfit
      have e1 := (Result.ok.inj (hr.symm.trans hr2)).1
      rw [e1] at hgv
      exact hgv
    · right
      have holds : ∀ j u, xs[j]? = some u → w.cell? ((⟨x, 0, none⟩ : Addr).add j) = some u := hown.cells (g := x) rfl
      have hr2 := run_append_grow (P := Tryz.prog) w t t e i z ht hi hz ⟨x, 0, none⟩ n cap xs hown.1 holds a m c news hl hnews (by omega) (by simp only [maxLen] at h63; omega) (growslice_fits (by omega) (by rw [hby]; exact hbytes))
      rw [hr] at hr2
      injection hr2 with e1 e2
      subst e1
      have hgv : some w.heap.size = some g := hgv
      injection hgv with e
      exact Nat.le_of_eq e
/-- An append as one step. -/
def gOk (P : Program) (t : TypeId) (v u : Value) (w : World) : Bool := match (Builtin.append_ #[t, t] t #[v, u]).run P w with
  | .ok _ _ => true
  | _ => false
def gV (P : Program) (t : TypeId) (v u : Value) (w : World) : Value := match (Builtin.append_ #[t, t] t #[v, u]).run P w with
  | .ok v _ => v
  | _ => .nilIface
def gW (P : Program) (t : TypeId) (v u : Value) (w : World) : World := match (Builtin.append_ #[t, t] t #[v, u]).run P w with
  | .ok _ w => w
  | _ => w
theorem g_of {t : TypeId} {v u v' : Value} {w w' : World} (h : (Builtin.append_ #[t, t] t #[v, u]).run Tryz.prog w = .ok v' w') : gOk Tryz.prog t v u w = true ∧ gV Tryz.prog t v u w = v' ∧ gW Tryz.prog t v u w = w' := by
  unfold gOk gV gW
  rw [h]
  exact ⟨rfl, rfl, rfl⟩
theorem g_run {t : TypeId} {v u : Value} {w : World} (h : gOk Tryz.prog t v u w = true) : (Builtin.append_ #[t, t] t #[v, u]).run Tryz.prog w = .ok (gV Tryz.prog t v u w) (gW Tryz.prog t v u w) := by
  unfold gOk at h
  unfold gV gW
  cases e : (Builtin.append_ #[t, t] t #[v, u]).run Tryz.prog w with
  | ok x y => rfl
  | _ => simp [e] at h
theorem g_step (t : TypeId) (ρ : Operand → Value) (dst : Option Tmp) (x y : Operand) (pos : String) (after : Array Edge) (guard : Option (Nat × Bool)) (w : World) (h : gOk Tryz.prog t (ρ x) (ρ y) w = true) :
    (execOp ρ { dst, op := .call { callee := .builtin .append, args := #[x, y], argTypes := #[t, t] }, type := t, pos, after, guard }).run Tryz.prog w = .ok (.value (gV Tryz.prog t (ρ x) (ρ y) w)) (gW Tryz.prog t (ρ x) (ρ y) w) := by
  unfold execOp
  simp only [resolve, invoke, builtin, Sem.run_bind, Sem.run_pure, Result.andThen_ok, List.map_toArray, List.map_cons, List.map_nil, g_run h]

theorem step_app_run {P : Program} {ops : Array Oper} {o : Oper} {a : Act} {w : World} {K : Act → World → Prop} {Q : Exit → Act → World → Prop} {E : Prop} (hgd : o.guard = none) (d s : Operand) (t t' : TypeId)
    (ho : o.op = .call { callee := .builtin .append, args := #[d, s], argTypes := #[t, t'] }) (v u : Value) (hd : a.eval d = v) (hs : a.eval s = u) {v' : Value} {w' : World}
    (hr : (Builtin.append_ #[t, t'] o.type #[v, u]).run P w = .ok v' w') (hK : K (a.put o.dst v') w') :
    if Region.wanted o (yielded ops a.tmps) = true then Oper.wp P o a w K Q else E := by
  have hw : Region.wanted o (yielded ops a.tmps) = true := by simp [Region.wanted, hgd]
  rw [if_pos hw]
  unfold Oper.wp execOp
  simp only [ho, resolve, invoke, builtin, Sem.run_bind, Sem.run_pure, Result.andThen_ok, List.map_toArray, List.map_cons, List.map_nil, hd, hs, hr]
  exact hK
theorem ty_ne {w : World} {x y : Nat} {c d : Array Value} {t u : TypeId} {f g : Nat × Nat} (hx : w.heap[x]? = some (.cells c t f)) (hy : w.heap[y]? = some (.cells d u g)) (h : t ≠ u) : x ≠ y := by
  intro e
  subst e
  rw [hx] at hy
  simp at hy
  exact h hy.2.1

/-- A question as it lies in memory, and several. -/
def qC (q : Qn) : List Value := [.int .i64 q.id, .string q.nm, .int .i64 q.sent, .int .i64 q.again]
def qCs (L : List Qn) : List Value := L.flatMap qC
theorem qC_len (q : Qn) : (qC q).length = 4 := rfl
theorem qCs_append (l m : List Qn) : qCs (l ++ m) = qCs l ++ qCs m := by simp [qCs]
theorem qCs_cons (q : Qn) (l : List Qn) : qCs (q :: l) = qC q ++ qCs l := by simp [qCs]
theorem qCs_len (l : List Qn) : (qCs l).length = l.length * 4 := by
  induction l with
  | nil => rfl
  | cons x l ih => rw [qCs_cons, List.length_append, ih, List.length_cons, qC_len]; omega
theorem qCs_get (l : List Qn) (i j : Nat) (h : i < l.length) (hj : j < 4) : (qCs l)[i * 4 + j]? = (qC (qAt l i))[j]? := by
  induction l generalizing i with
  | nil => simp at h
  | cons x l ih =>
    rw [qCs_cons]
    cases i with
    | zero => rw [Nat.zero_mul, Nat.zero_add, List.getElem?_append_left (by rw [qC_len]; exact hj)]; rfl
    | succ i =>
      rw [List.getElem?_append_right (by rw [qC_len]; omega), qC_len, show (i + 1) * 4 + j - 4 = i * 4 + j by omega, ih i (by simp at h; omega)]
      rfl
theorem qC_one (q : Qn) : ∀ u ∈ qC q, u.oneCell' = true := by
  intro u hu
  simp only [qC, List.mem_cons, List.mem_nil_iff, or_false] at hu
  rcases hu with rfl | rfl | rfl | rfl <;> rfl
theorem qCs_one (L : List Qn) : ∀ u ∈ qCs L, u.oneCell' = true := by
  intro u hu
  simp only [qCs, List.mem_flatMap] at hu
  obtain ⟨q, _, hq⟩ := hu
  exact qC_one q u hq
def OwnQ (w : World) (v : Value) (L : List Qn) : Prop := w.ownsRow 0 87 4 v L.length (qCs L)
/-- Posts: each in memory of its own, or empty. -/
structure IsPs (w : World) (S : Nat → Prop) (v : Value) (V : List Value) (L : List (List Nat)) : Prop where
  own : w.ownsRow 0 30 1 v L.length V
  each : ∀ (i : Nat) (l : List Nat) (u : Value), L[i]? = some l → V[i]? = some u → w.ownsRow 0 5 1 u l.length (nums .u8 l) ∧ (∀ g, u.ownBlock = some g → S g) ∧ ∀ x ∈ l, x < 256
theorem IsPs.len {w : World} {S : Nat → Prop} {v : Value} {V : List Value} {L : List (List Nat)} (h : IsPs w S v V L) : V.length = L.length := by have := h.own.1; omega
theorem IsPs.keep {w w' : World} {S : Nat → Prop} {v : Value} {V : List Value} {L : List (List Nat)} (h : IsPs w S v V L) (k1 : ∀ g, v.ownBlock = some g → w'.heap[g]? = w.heap[g]?) (k2 : ∀ g cur, S g → w.heap[g]? = some (.cells cur 5) → w'.heap[g]? = w.heap[g]?) : IsPs w' S v V L := by
  refine ⟨own_keep h.own k1, fun i l u hl hu => ?_⟩
  obtain ⟨h1, h2, h3⟩ := h.each i l u hl hu
  refine ⟨own_keep h1 (fun g hg => ?_), h2, h3⟩
  obtain ⟨cur, hc⟩ := own_block h1 hg
  exact k2 g cur (h2 g hg) hc
theorem IsPs.wide {w : World} {S T : Nat → Prop} {v : Value} {V : List Value} {L : List (List Nat)} (h : IsPs w S v V L) (hT : ∀ k, S k → T k) : IsPs w T v V L :=
  ⟨h.own, fun i l u hl hu => ⟨(h.each i l u hl hu).1, fun g hg => hT g ((h.each i l u hl hu).2.1 g hg), (h.each i l u hl hu).2.2⟩⟩

/-- A resolver in memory: S is what belongs to it. -/
structure IsRs (w : World) (S : Nat → Prop) (r t g : Nat) (qv pv : Value) (V : List Value) (R : Rs) : Prop where
  head : w.heap[r]? = some (.cells #[.int .i64 R.most, .pointer (some ⟨t, 0, none⟩), qv, pv] 74)
  tab : Nm.IsTab w t g R.tab
  qs : OwnQ w qv R.qs
  ps : IsPs w S pv V R.ps
  ok : R.Ok
  lt : ∀ k, S k → k < w.heap.size
  sr : S r
  st : S t
  sg : S g
  sq : ∀ k, qv.ownBlock = some k → S k
  sp : ∀ k, pv.ownBlock = some k → S k
def Res (w : World) (S : Nat → Prop) (r : Nat) (R : Rs) : Prop := ∃ t g qv pv V, IsRs w S r t g qv pv V R
theorem IsRs.keep {w w' : World} {S : Nat → Prop} {r t g : Nat} {qv pv : Value} {V : List Value} {R : Rs} (h : IsRs w S r t g qv pv V R) (k : ∀ i, S i → w'.heap[i]? = w.heap[i]?) (hs : w.heap.size ≤ w'.heap.size) : IsRs w' S r t g qv pv V R :=
  ⟨(k r h.sr).trans h.head, h.tab.keep (k t h.st) (k g h.sg), own_keep h.qs (fun i hi => k i (h.sq i hi)), h.ps.keep (fun i hi => k i (h.sp i hi)) (fun i _ hi _ => k i hi), h.ok, fun i hi => Nat.lt_of_lt_of_le (h.lt i hi) hs, h.sr, h.st, h.sg, h.sq, h.sp⟩
theorem IsRs.below {w w' : World} {S : Nat → Prop} {r t g : Nat} {qv pv : Value} {V : List Value} {R : Rs} (h : IsRs w S r t g qv pv V R) (k : Below w.heap.size w w') : IsRs w' S r t g qv pv V R := h.keep (fun i hi => k.block i (h.lt i hi)) k.size
theorem IsRs.wide {w : World} {S T : Nat → Prop} {r t g : Nat} {qv pv : Value} {V : List Value} {R : Rs} (h : IsRs w S r t g qv pv V R) (hT : ∀ k, S k → T k) (hl : ∀ k, T k → k < w.heap.size) : IsRs w T r t g qv pv V R :=
  ⟨h.head, h.tab, h.qs, h.ps.wide hT, h.ok, hl, hT _ h.sr, hT _ h.st, hT _ h.sg, fun i hi => hT _ (h.sq i hi), fun i hi => hT _ (h.sp i hi)⟩
theorem Res.of {w : World} {S : Nat → Prop} {r t g : Nat} {qv pv : Value} {V : List Value} {R : Rs} (h : IsRs w S r t g qv pv V R) : Res w S r R := ⟨t, g, qv, pv, V, h⟩
theorem Res.below {w w' : World} {S : Nat → Prop} {r : Nat} {R : Rs} (h : Res w S r R) (k : Below w.heap.size w w') : Res w' S r R := by
  obtain ⟨t, g, qv, pv, V, h⟩ := h
  exact Res.of (h.below k)
theorem Res.off {w w' : World} {S T : Nat → Prop} {r : Nat} {R : Rs} (h : Res w S r R) (k : KeptS T w w') (hd : ∀ i, S i → ¬ T i) : Res w' S r R := by
  obtain ⟨t, g, qv, pv, V, h⟩ := h
  exact Res.of (h.keep (fun i hi => k.block i (h.lt i hi) (hd i hi)) k.size)
theorem Res.ok {w : World} {S : Nat → Prop} {r : Nat} {R : Rs} (h : Res w S r R) : R.Ok := by
  obtain ⟨t, g, qv, pv, V, h⟩ := h
  exact h.ok
theorem Res.lt {w : World} {S : Nat → Prop} {r : Nat} {R : Rs} (h : Res w S r R) : ∀ k, S k → k < w.heap.size := by
  obtain ⟨t, g, qv, pv, V, h⟩ := h
  exact h.lt
theorem IsRs.grow {w w' : World} {S : Nat → Prop} {r t g : Nat} {qv pv : Value} {V : List Value} {R : Rs} (h : IsRs w' S r t g qv pv V R) : IsRs w' (YtabkelhipmijfaaGreatDoor.grow S w w') r t g qv pv V R := h.wide (fun k hk => Or.inl hk) (fun k hk => hk.elim (h.lt k) (fun x => x.2))
theorem IsRs.stay {w w' : World} {S : Nat → Prop} {r t g : Nat} {qv pv : Value} {V : List Value} {R : Rs} (h : IsRs w S r t g qv pv V R) (k : Below w.heap.size w w') : Res w' (YtabkelhipmijfaaGreatDoor.grow S w w') r R ∧ KeptS S w w' := ⟨Res.of (h.below k).grow, KeptS.of_below k⟩
theorem IsRs.cells {w : World} {S : Nat → Prop} {r t g : Nat} {qv pv : Value} {V : List Value} {R : Rs} (h : IsRs w S r t g qv pv V R) : w.cell? ⟨r, 0, none⟩ = some (.int .i64 R.most) ∧ w.cell? ⟨r, 1, none⟩ = some (.pointer (some ⟨t, 0, none⟩)) ∧ w.cell? ⟨r, 2, none⟩ = some qv ∧ w.cell? ⟨r, 3, none⟩ = some pv := by
  have := h.head
  simp [World.cell?, this]
theorem IsRs.frozen {w : World} {S : Nat → Prop} {r t g : Nat} {qv pv : Value} {V : List Value} {R : Rs} (h : IsRs w S r t g qv pv V R) (o : Nat) : w.frozen? ⟨r, o, none⟩ = false := by
  have := h.head
  simp [World.frozen?, this]
/-- The cells of a question that is there. -/
theorem own_q {w : World} {v : Value} {L : List Qn} (h : OwnQ w v L) {i : Nat} (hi : i < L.length) : ∃ b c, v = .slice (some ⟨b, 0, none⟩) L.length c ∧ v.ownBlock = some b ∧ L.length ≤ c ∧ c ≤ maxLen ∧ (∃ cur, w.heap[b]? = some (.cells cur 87) ∧ cur.size = c * 4 ∧ cur.toList.take (L.length * 4) = qCs L) ∧ ∀ j, j < 4 → w.cell? ⟨b, i * 4 + j, none⟩ = (qC (qAt L i))[j]? := by
  rcases h.2 with ⟨_, h0⟩ | ⟨x, cap, cur, rfl, hx, hh, hnc, hcm, hcs, htake⟩
  · omega
  · refine ⟨x, cap, rfl, rfl, hnc, hcm, ⟨cur, hh, hcs, htake⟩, fun j hj => ?_⟩
    have := h.cells (g := x) rfl (i * 4 + j)
    have hlt : i * 4 + j < (qCs L).length := by rw [qCs_len]; omega
    rw [← qCs_get L i j hi hj]
    have h2 := this (qCs L)[i * 4 + j] (List.getElem?_eq_getElem hlt)
    rw [Nm.add_none, Nat.zero_add] at h2
    rw [h2, List.getElem?_eq_getElem hlt]

end Go.Proofs.YtabkelhipmijfaaGreatDoor
