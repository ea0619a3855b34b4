/-
  Rules wherever they lie, a call's own ones, and how they are added to; conditions as each theorem has them.
-/
import Derived.Test.YtiejandeoopiiaaGreatDoorRA
import Derived.Deep.MidRow
set_option linter.unusedSimpArgs false
set_option linter.unusedVariables false
namespace Go.Proofs.YtiejandeoopiiaaGreatDoor
open Go.RowKit

def ruCs (l : List Ru) : List Value := l.flatMap ruC
theorem ruC_len (r : Ru) : (ruC r).length = 9 := rfl
theorem ruCs_append (l m : List Ru) : ruCs (l ++ m) = ruCs l ++ ruCs m := by simp [ruCs]
theorem ruCs_cons (r : Ru) (l : List Ru) : ruCs (r :: l) = ruC r ++ ruCs l := by simp [ruCs]
theorem ruCs_len (l : List Ru) : (ruCs l).length = l.length * 9 := by
  induction l with
  | nil => rfl
  | cons x l ih => rw [ruCs_cons, List.length_append, ih, ruC_len, List.length_cons]; omega
theorem ruCs_get (l : List Ru) (i j : Nat) (h : i < l.length) (hj : j < 9) : (ruCs l)[i * 9 + j]? = (ruC (l.getD i noRu))[j]? := by
  induction l generalizing i with
  | nil => simp at h
  | cons x r ih =>
    rw [ruCs_cons]
    cases i with
    | zero => rw [Nat.zero_mul, Nat.zero_add, List.getElem?_append_left (by rw [ruC_len]; exact hj)]; rfl
    | succ i =>
      rw [List.getElem?_append_right (by rw [ruC_len]; omega), ruC_len, show (i + 1) * 9 + j - 9 = i * 9 + j by omega, ih i (by simp at h; omega)]
      simp
theorem ruC_one (r : Ru) : ∀ u ∈ ruC r, u.oneCell' = true := by
  intro u hu
  simp [ruC] at hu
  rcases hu with rfl | rfl | rfl | rfl | rfl | rfl | rfl | rfl | rfl <;> rfl
theorem ruCs_one (l : List Ru) : ∀ u ∈ ruCs l, u.oneCell' = true := by
  intro u hu
  obtain ⟨r, _, h⟩ := List.mem_flatMap.1 hu
  exact ruC_one r u h
theorem ruV_ruC (r : Ru) : ruV r = .agg (ruC r).toArray := rfl
def okRs (l : List Ru) : Prop := ∀ r ∈ l, r.ok
theorem noRu_ok : noRu.ok := by
  refine ⟨⟨?_, ?_, ?_, ?_⟩, ?_, ?_, ?_, ?_⟩ <;> first | decide | (unfold maxLen; decide) | (unfold in64; decide)
theorem okRs_getD {l : List Ru} (h : okRs l) (i : Nat) : (l.getD i noRu).ok := by
  rw [List.getD]
  cases e : l[i]? with
  | none => exact noRu_ok
  | some x => exact h x (List.mem_of_getElem? e)

/-- A slice of rules wherever it lies. -/
structure SrcR (w : World) (a : Option Addr) (len cap : Nat) (l : List Ru) : Prop where
  hlen : l.length = len
  hcap : len ≤ cap
  hmax : cap ≤ maxLen
  nil : a = none → cap = 0
  lies : 0 < len → ∃ b o, a = some ⟨b, o, none⟩ ∧ b < w.heap.size ∧ w.rangeAt b o (ruCs l)
  ok : okRs l
theorem SrcR.keep {w w' : World} {a : Option Addr} {len cap : Nat} {l : List Ru} (h : SrcR w a len cap l) (hk : 0 < len → ∀ b o, a = some ⟨b, o, none⟩ → w'.heap[b]? = w.heap[b]?) (hs : w.heap.size ≤ w'.heap.size) : SrcR w' a len cap l := by
  refine ⟨h.hlen, h.hcap, h.hmax, h.nil, fun h0 => ?_, h.ok⟩
  obtain ⟨b, o, e, hb, hc⟩ := h.lies h0
  exact ⟨b, o, e, by omega, fun j u hu => (World.cell?_of_block (hk h0 b o e)).trans (hc j u hu)⟩
theorem SrcR.lt {w : World} {a : Option Addr} {len cap : Nat} {l : List Ru} (h : SrcR w a len cap l) (h0 : 0 < len) {b o : Nat} (e : a = some ⟨b, o, none⟩) : b < w.heap.size := by
  obtain ⟨b', o', e', hb, hc⟩ := h.lies h0
  rw [e] at e'
  simp only [Option.some.injEq, Addr.mk.injEq, and_true] at e'
  omega
theorem SrcR.below {w w' : World} {a : Option Addr} {len cap : Nat} {l : List Ru} (h : SrcR w a len cap l) (k : Below w.heap.size w w') : SrcR w' a len cap l :=
  h.keep (fun h0 b o e => k.block b (h.lt h0 e)) k.size
theorem SrcR.drew {w : World} {a : Option Addr} {len cap : Nat} {l : List Ru} (h : SrcR w a len cap l) : SrcR w.drew a len cap l := h.keep (fun _ _ _ _ => rfl) (Nat.le_refl _)
theorem SrcR.nilS (w : World) : SrcR w none 0 0 [] := ⟨rfl, Nat.le_refl _, Nat.zero_le _, fun _ => rfl, fun h => by omega, by intro f hf; simp at hf⟩
theorem SrcR.at_ {w : World} {a : Option Addr} {len cap : Nat} {l : List Ru} (h : SrcR w a len cap l) {i : Nat} (hi : i < len) : ∃ b o, a = some ⟨b, o, none⟩ ∧ b < w.heap.size ∧ w.rangeAt b (o + i * 9) (ruC (l.getD i noRu)) := by
  obtain ⟨b, o, e, hb, hc⟩ := h.lies (by omega)
  refine ⟨b, o, e, hb, fun j u hu => ?_⟩
  have hj : j < 9 := by rw [← ruC_len (l.getD i noRu)]; exact (List.getElem?_eq_some_iff.1 hu).1
  rw [Nat.add_assoc]
  exact hc (i * 9 + j) u (by rw [ruCs_get l i j (by rw [h.hlen]; exact hi) hj]; exact hu)
/-- Its first n, and what lies behind them. -/
theorem SrcR.take {w : World} {a : Option Addr} {len cap : Nat} {l : List Ru} (h : SrcR w a len cap l) {n : Nat} (hn : n ≤ len) : SrcR w a n cap (l.take n) := by
  refine ⟨by rw [List.length_take, h.hlen]; omega, by have := h.hcap; omega, h.hmax, h.nil, fun h0 => ?_, fun r hr => h.ok r (List.mem_of_mem_take hr)⟩
  obtain ⟨b, o, e, hb, hc⟩ := h.lies (by omega)
  refine ⟨b, o, e, hb, fun j u hu => hc j u ?_⟩
  rw [← List.take_append_drop n l, ruCs_append, List.getElem?_append_left (List.getElem?_eq_some_iff.1 hu).1]
  exact hu
theorem SrcR.drop {w : World} {b o : Nat} {len cap : Nat} {l : List Ru} (h : SrcR w (some ⟨b, o, none⟩) len cap l) {n : Nat} (hn : n ≤ len) : SrcR w (some ⟨b, o + n * 9, none⟩) (len - n) (cap - n) (l.drop n) := by
  refine ⟨by rw [List.length_drop, h.hlen], by have := h.hcap; omega, by have := h.hmax; omega, (fun e => by cases e), fun h0 => ?_, fun r hr => h.ok r (List.mem_of_mem_drop hr)⟩
  obtain ⟨b', o', e, hb, hc⟩ := h.lies (by omega)
  obtain ⟨rfl, rfl⟩ : b = b' ∧ o = o' := by simpa using e
  refine ⟨b, _, rfl, hb, fun j u hu => ?_⟩
  rw [Nat.add_assoc]
  refine hc (n * 9 + j) u ?_
  rw [← List.take_append_drop n l, ruCs_append, List.getElem?_append_right (by rw [ruCs_len, List.length_take, h.hlen]; omega), ruCs_len, List.length_take, h.hlen, show n * 9 + j - min n len * 9 = j by rw [Nat.min_eq_left hn]; omega]
  exact hu

/-- The call's own rules. -/
def OwnR (w : World) (B : Nat) (v : Value) (l : List Ru) : Prop := w.ownsRow B 37 9 v l.length (ruCs l)
theorem OwnR.block {w : World} {B : Nat} {v : Value} {l : List Ru} (h : OwnR w B v l) {g : Nat} (hg : v.ownBlock = some g) : B ≤ g ∧ ∃ cur, w.heap[g]? = some (.cells cur 37) := by
  rcases h.2 with ⟨rfl, _⟩ | ⟨x, cap, cur, rfl, hx, hh, hrest⟩
  · cases hg
  · simp [Value.ownBlock] at hg
    subst hg
    exact ⟨hx, cur, hh⟩
theorem OwnR.keep {w w' : World} {B : Nat} {v : Value} {l : List Ru} (h : OwnR w B v l) (k : ∀ g, v.ownBlock = some g → w'.heap[g]? = w.heap[g]?) : OwnR w' B v l := by
  refine ⟨h.1, ?_⟩
  rcases h.2 with h0 | ⟨x, cap, cur, hv, hx, hh, hrest⟩
  · exact Or.inl h0
  · exact Or.inr ⟨x, cap, cur, hv, hx, (k x (by rw [hv]; rfl)).trans hh, hrest⟩
theorem OwnR.below {w w' : World} {B : Nat} {v : Value} {l : List Ru} (h : OwnR w B v l) (k : Below w.heap.size w w') : OwnR w' B v l :=
  h.keep fun g hg => by obtain ⟨_, cur, hh⟩ := h.block hg; exact k.block g (lt_of_some hh)
theorem OwnR.nil (w : World) (B : Nat) : OwnR w B (.slice none 0 0) [] := ⟨rfl, Or.inl ⟨rfl, rfl⟩⟩
theorem OwnR.src {w : World} {B : Nat} {v : Value} {l : List Ru} (h : OwnR w B v l) (hb : okRs l) : ∃ a cap, v = .slice a l.length cap ∧ SrcR w a l.length cap l ∧ (∀ b o, a = some ⟨b, o, none⟩ → B ≤ b ∧ o = 0) := by
  rcases h.2 with ⟨rfl, h0⟩ | ⟨g, cap, cur, rfl, hx, hh, hc, hm, hs, ht⟩
  · have : l = [] := List.length_eq_zero_iff.1 h0
    subst this
    exact ⟨none, 0, rfl, SrcR.nilS w, fun b o e => by cases e⟩
  · refine ⟨_, cap, rfl, ⟨rfl, hc, hm, (fun e => by cases e), fun _ => ⟨g, 0, rfl, lt_of_some hh, fun j u hu => ?_⟩, hb⟩, fun b o e => by cases e; exact ⟨hx, rfl⟩⟩
    have hj := (List.getElem?_eq_some_iff.1 hu).1
    rw [ruCs_len] at hj
    have : cur.toList[j]? = some u := by rw [← hu, ← ht, List.getElem?_take, if_pos (by omega)]
    rw [Nat.zero_add]
    simp only [World.cell?, hh]
    simpa using this
theorem undRs : Tryz.prog.underlying 22 = some (.slice 37) := by kernel_rfl
theorem infoRup : ∃ i, Tryz.prog.info? 37 = some i ∧ i.zero = some (.agg #[.bool false, .int .u8 0, .int .u8 0, .int .u8 0, .int .u8 0, .int .i64 0, .string ⟨#[]⟩, .int .i64 0, .int .i64 0]) ∧ i.size = 9 ∧ i.bytes = 48 := info_parts (by kernel_rfl)
theorem own_newR (w : World) : OwnR (w.alloc (.cells #[] 37)) w.heap.size (.slice (some ⟨w.heap.size, 0, none⟩) 0 0) [] :=
  ⟨rfl, Or.inr ⟨w.heap.size, 0, #[], rfl, Nat.le_refl _, alloc_new _ _, by simp, Nat.zero_le _, by simp, by simp [ruCs]⟩⟩
/-- 'append(v, x...)', v the call's own rules. -/
theorem run_appR {w : World} {B : Nat} {v : Value} {l : List Ru} (hown : OwnR w B v l) {a : Option Addr} {m c : Nat} {gs : List Ru} (hs : SrcR w a m c gs) (hlen : (l.length + m) * 48 ≤ 140737488355328) (hB : B ≤ w.heap.size) :
    ∃ v' w', (Builtin.append_ #[22, 22] 22 #[v, .slice a m c]).run Tryz.prog w = .ok v' w' ∧ OwnR w' B v' (l ++ gs) ∧ Below B w w' := by
  obtain ⟨i, hi, hz, hsz, hby⟩ := infoRup
  cases a with
  | none =>
    have hc := hs.nil rfl
    have := hs.hcap
    obtain rfl : m = 0 := by omega
    obtain rfl : c = 0 := hc
    obtain rfl : gs = [] := List.eq_nil_of_length_eq_zero hs.hlen
    exact ⟨v, w, run_append_owned_none (P := Tryz.prog) w B 22 22 37 i 9 undRs hi v _ (ruCs l) hown, by simpa using hown, Below.refl _ _⟩
  | some x =>
    obtain ⟨v', w', hr, ho, hg, _⟩ := run_append_own (P := Tryz.prog) w B 22 22 37 i _ 9 48 undRs hi hz hsz hby rfl (by omega) v l.length (ruCs l) hown x m c (ruCs gs) (by rw [ruCs_len, hs.hlen])
      (fun j u hu => by
        have hj := (List.getElem?_eq_some_iff.1 hu).1
        rw [ruCs_len, hs.hlen] at hj
        obtain ⟨b, o, e, _, hcell⟩ := hs.lies (by omega)
        simp at e
        subst e
        rw [add_none]
        exact hcell j u hu) (ruCs_one _) (by unfold maxLen; omega) hlen hB
    refine ⟨v', w', hr, ?_, (Below.refl B w).grown hg hB (fun k hk => (hown.block hk).1)⟩
    unfold OwnR
    rw [ruCs_append, List.length_append, hs.hlen]
    exact ho

end Go.Proofs.YtiejandeoopiiaaGreatDoor
