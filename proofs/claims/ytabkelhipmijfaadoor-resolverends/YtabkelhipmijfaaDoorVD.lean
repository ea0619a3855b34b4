/-
  Addresses wherever they lie, a call's own ones, how base holds them side by side, and what a slot tells and is filled with; conditions as each theorem has them.
-/
import Derived.Test.YtabkelhipmijfaaDoorVC
import Derived.Test.YtabkelhipmijfaaDoorShelf
set_option linter.unusedSimpArgs false
set_option linter.unusedVariables false
namespace Go.Proofs.YtabkelhipmijfaaDoor.Nm
open Go.RowKit
/-- The call's own addresses. -/
def OwnA (w : World) (B : Nat) (v : Value) (l : List Ad) : Prop := w.ownsRow B 70 4 v l.length (adCs l)
theorem OwnA.block {w : World} {B : Nat} {v : Value} {l : List Ad} (h : OwnA w B v l) {g : Nat} (hg : v.ownBlock = some g) : B ≤ g ∧ ∃ cur, w.heap[g]? = some (.cells cur 70) := by
  rcases h.2 with ⟨rfl, _⟩ | ⟨x, cap, cur, rfl, hx, hh, hrest⟩
  · cases hg
  · simp [Value.ownBlock] at hg
    subst hg
    exact ⟨hx, cur, hh⟩
theorem OwnA.keep {w w' : World} {B : Nat} {v : Value} {l : List Ad} (h : OwnA w B v l) (k : ∀ g, v.ownBlock = some g → w'.heap[g]? = w.heap[g]?) : OwnA w' B v l := by
  refine ⟨h.1, ?_⟩
  rcases h.2 with h0 | ⟨x, cap, cur, hv, hx, hh, hrest⟩
  · exact Or.inl h0
  · exact Or.inr ⟨x, cap, cur, hv, hx, (k x (by rw [hv]; rfl)).trans hh, hrest⟩
theorem OwnA.below {w w' : World} {B : Nat} {v : Value} {l : List Ad} (h : OwnA w B v l) (k : Below w.heap.size w w') : OwnA w' B v l :=
  h.keep fun g hg => by obtain ⟨_, cur, hh⟩ := h.block hg; exact k.block g (lt_of_some hh)
theorem OwnA.nil (w : World) (B : Nat) : OwnA w B (.slice none 0 0) [] := ⟨rfl, Or.inl ⟨rfl, rfl⟩⟩
theorem OwnA.shape {w : World} {B : Nat} {v : Value} {l : List Ad} (h : OwnA w B v l) : ∃ a cap, v = .slice a l.length cap := by
  rcases h.2 with ⟨rfl, h0⟩ | ⟨g, cap, cur, rfl, _⟩
  · exact ⟨none, 0, by rw [h0]⟩
  · exact ⟨_, cap, rfl⟩
theorem und30 : Tryd.prog.underlying 28 = some (.slice 70) := by kernel_rfl
theorem info37p : ∃ i, Tryd.prog.info? 70 = some i ∧ i.zero = some (.agg #[.int .u8 0, .int .u8 0, .int .u8 0, .int .u8 0]) ∧ i.size = 4 ∧ i.bytes = 4 := info_parts (by kernel_rfl)
/-- A slice of addresses wherever it lies. -/
structure SrcA (w : World) (a : Option Addr) (len cap : Nat) (l : List Ad) : Prop where
  hlen : l.length = len
  hcap : len ≤ cap
  hmax : cap ≤ maxLen
  nil : a = none → cap = 0
  lies : 0 < len → ∃ b o, a = some ⟨b, o, none⟩ ∧ b < w.heap.size ∧ ∀ j u, (adCs l)[j]? = some u → w.cell? ⟨b, o + j, none⟩ = some u
  byte : okA l
theorem SrcA.keep {w w' : World} {a : Option Addr} {len cap : Nat} {l : List Ad} (h : SrcA w a len cap l) (hk : 0 < len → ∀ b o, a = some ⟨b, o, none⟩ → w'.heap[b]? = w.heap[b]?) (hs : w.heap.size ≤ w'.heap.size) : SrcA w' a len cap l := by
  refine ⟨h.hlen, h.hcap, h.hmax, h.nil, fun h0 => ?_, h.byte⟩
  obtain ⟨b, o, e, hb, hc⟩ := h.lies h0
  exact ⟨b, o, e, by omega, fun j u hu => (World.cell?_of_block (hk h0 b o e)).trans (hc j u hu)⟩
theorem SrcA.lt {w : World} {a : Option Addr} {len cap : Nat} {l : List Ad} (h : SrcA w a len cap l) (h0 : 0 < len) {b o : Nat} (e : a = some ⟨b, o, none⟩) : b < w.heap.size := by
  obtain ⟨b', o', e', hb, hc⟩ := h.lies h0
  rw [e] at e'
  simp only [Option.some.injEq, Addr.mk.injEq, and_true] at e'
  omega
theorem SrcA.below {w w' : World} {a : Option Addr} {len cap : Nat} {l : List Ad} (h : SrcA w a len cap l) (k : Below w.heap.size w w') : SrcA w' a len cap l :=
  h.keep (fun h0 b o e => k.block b (h.lt h0 e)) k.size
theorem SrcA.nilS (w : World) : SrcA w none 0 0 [] := ⟨rfl, Nat.le_refl _, Nat.zero_le _, fun _ => rfl, fun h => by omega, by intro f hf; simp at hf⟩
theorem SrcA.at_ {w : World} {a : Option Addr} {len cap : Nat} {l : List Ad} (h : SrcA w a len cap l) {i : Nat} (hi : i < len) : ∃ b o, a = some ⟨b, o, none⟩ ∧ w.cell? ⟨b, o + 4 * i, none⟩ = some (.int .u8 ((l.getD i (0, 0, 0, 0)).1 : Nat)) ∧ w.cell? ⟨b, o + 4 * i + 1, none⟩ = some (.int .u8 ((l.getD i (0, 0, 0, 0)).2.1 : Nat)) ∧ w.cell? ⟨b, o + 4 * i + 2, none⟩ = some (.int .u8 ((l.getD i (0, 0, 0, 0)).2.2.1 : Nat)) ∧ w.cell? ⟨b, o + 4 * i + 3, none⟩ = some (.int .u8 ((l.getD i (0, 0, 0, 0)).2.2.2 : Nat)) := by
  obtain ⟨b, o, e, hb, hc⟩ := h.lies (by omega)
  obtain ⟨g1, g2, g3, g4⟩ := adCs_get l i (by rw [h.hlen]; exact hi)
  exact ⟨b, o, e, hc _ _ g1, by have := hc _ _ g2; rwa [← Nat.add_assoc] at this, by have := hc _ _ g3; rwa [← Nat.add_assoc] at this, by have := hc _ _ g4; rwa [← Nat.add_assoc] at this⟩
theorem OwnA.src {w : World} {B : Nat} {v : Value} {l : List Ad} (h : OwnA w B v l) (hb : okA l) : ∃ a cap, v = .slice a l.length cap ∧ SrcA w a l.length cap l ∧ (∀ b o, a = some ⟨b, o, none⟩ → B ≤ b) := by
  rcases h.2 with ⟨rfl, h0⟩ | ⟨g, cap, cur, rfl, hx, hh, hc, hm, hs, ht⟩
  · have : l = [] := List.length_eq_zero_iff.1 h0
    subst this
    exact ⟨none, 0, rfl, SrcA.nilS w, fun b o e => by cases e⟩
  · refine ⟨_, cap, rfl, ⟨rfl, hc, hm, (fun e => by cases e), fun _ => ⟨g, 0, rfl, lt_of_some hh, fun j u hu => ?_⟩, hb⟩, fun b o e => by cases e; exact hx⟩
    have hj := (List.getElem?_eq_some_iff.1 hu).1
    rw [adCs_len] at hj
    have : cur.toList[j]? = some u := by rw [← hu, ← ht, List.getElem?_take, if_pos (by omega)]
    rw [Nat.zero_add]
    simp only [World.cell?, hh]
    simpa using this
theorem own_new37 (w : World) : OwnA (w.alloc (.cells #[] 70)) w.heap.size (.slice (some ⟨w.heap.size, 0, none⟩) 0 0) [] :=
  ⟨rfl, Or.inr ⟨w.heap.size, 0, #[], rfl, Nat.le_refl _, alloc_new _ _, by simp, Nat.zero_le _, by simp, by simp [adCs]⟩⟩
/-- 'append(v, x...)', v the call's own addresses. -/
theorem run_appS {w : World} {B : Nat} {v : Value} {l : List Ad} (hown : OwnA w B v l) {a : Option Addr} {m c : Nat} {gs : List Ad} (hs : SrcA w a m c gs) (hlen : (l.length + m) * 4 ≤ 140737488355328) (hB : B ≤ w.heap.size) :
    ∃ v' w', (Builtin.append_ #[28, 28] 28 #[v, .slice a m c]).run Tryd.prog w = .ok v' w' ∧ OwnA w' B v' (l ++ gs) ∧ Below B w w' := by
  obtain ⟨i, hi, hz, hsz, hby⟩ := info37p
  cases a with
  | none =>
    have hc := hs.nil rfl
    have := hs.hcap
    obtain rfl : m = 0 := by omega
    obtain rfl : c = 0 := hc
    obtain rfl : gs = [] := List.eq_nil_of_length_eq_zero hs.hlen
    exact ⟨v, w, run_append_owned_none (P := Tryd.prog) w B 28 28 70 i 4 und30 hi v _ (adCs l) hown, by simpa using hown, Below.refl _ _⟩
  | some x =>
    obtain ⟨v', w', hr, ho, hg, _⟩ := run_append_own (P := Tryd.prog) w B 28 28 70 i _ 4 4 und30 hi hz hsz hby rfl (by omega) v l.length (adCs l) hown x m c (adCs gs) (by rw [adCs_len, hs.hlen])
      (fun j u hu => by
        have hj := (List.getElem?_eq_some_iff.1 hu).1
        rw [adCs_len, hs.hlen] at hj
        obtain ⟨b, o, e, _, hcell⟩ := hs.lies (by omega)
        simp at e
        subst e
        rw [add_none]
        exact hcell j u hu) (adCs_one _) (by unfold maxLen; omega) hlen hB
    refine ⟨v', w', hr, ?_, (Below.refl B w).grown hg hB (fun k hk => (hown.block hk).1)⟩
    unfold OwnA
    rw [adCs_append, List.length_append, hs.hlen]
    exact ho
/-- An append as one step. -/
def apOk (P : Program) (v u : Value) (w : World) : Bool := match (Builtin.append_ #[28, 28] 28 #[v, u]).run P w with
  | .ok _ _ => true
  | _ => false
def apV (P : Program) (v u : Value) (w : World) : Value := match (Builtin.append_ #[28, 28] 28 #[v, u]).run P w with
  | .ok x _ => x
  | _ => undef
def apW (P : Program) (v u : Value) (w : World) : World := match (Builtin.append_ #[28, 28] 28 #[v, u]).run P w with
  | .ok _ y => y
  | _ => w
theorem run_ap30 {v u : Value} {w : World} (h : apOk Tryd.prog v u w = true) : (Builtin.append_ #[28, 28] 28 #[v, u]).run Tryd.prog w = .ok (apV Tryd.prog v u w) (apW Tryd.prog v u w) := by
  unfold apOk at h
  unfold apV apW
  cases e : (Builtin.append_ #[28, 28] 28 #[v, u]).run Tryd.prog w with
  | ok x y => rfl
  | _ => simp [e] at h
theorem ap_of {v u v' : Value} {w w' : World} (h : (Builtin.append_ #[28, 28] 28 #[v, u]).run Tryd.prog w = .ok v' w') : apOk Tryd.prog v u w = true ∧ apV Tryd.prog v u w = v' ∧ apW Tryd.prog v u w = w' := by
  unfold apOk apV apW
  rw [h]
  exact ⟨rfl, rfl, rfl⟩
theorem run_opap (ρ : Operand → Value) (dst : Option Tmp) (x y : Operand) (pos : String) (after : Array Edge) (guard : Option (Nat × Bool)) (w : World) (h : apOk Tryd.prog (ρ x) (ρ y) w = true) :
    (execOp ρ { dst, op := .call { callee := .builtin .append, args := #[x, y], argTypes := #[28, 28] }, type := 28, pos, after, guard }).run Tryd.prog w = .ok (.value (apV Tryd.prog (ρ x) (ρ y) w)) (apW Tryd.prog (ρ x) (ρ y) w) := by
  unfold execOp
  simp only [resolve, invoke, builtin, Sem.run_bind, Sem.run_pure, Result.andThen_ok, List.map_toArray, List.map_cons, List.map_nil, run_ap30 h]


end Go.Proofs.YtabkelhipmijfaaDoor.Nm
