/-
  Addresses that a call appends to; conditions as each theorem has them.
-/
import Derived.Test.YtabkelhipmijfaaGreatDoorJoinedMB
set_option linter.unusedSimpArgs false
set_option linter.unusedVariables false
namespace Go.Proofs.YtabkelhipmijfaaGreatDoor
open Go.RowKit
/-- An address as it lies in memory, and several. -/
def adC (d : Ad) : List Value := [.int .u8 (d.1 : Nat), .int .u8 (d.2.1 : Nat), .int .u8 (d.2.2.1 : Nat), .int .u8 (d.2.2.2 : Nat)]
def adCs (l : List Ad) : List Value := l.flatMap adC
theorem adCs_append (l m : List Ad) : adCs (l ++ m) = adCs l ++ adCs m := by simp [adCs]
theorem adCs_len (l : List Ad) : (adCs l).length = l.length * 4 := by
  induction l with
  | nil => rfl
  | cons x l ih => simp only [adCs, List.flatMap_cons, List.length_append, List.length_cons] at ih ⊢; rw [ih]; simp [adC]; omega
/-- The call's own addresses. -/
def OwnA (w : World) (B : Nat) (v : Value) (l : List Ad) : Prop := w.ownsRow B 39 4 v l.length (adCs l)
theorem OwnA.block {w : World} {B : Nat} {v : Value} {l : List Ad} (h : OwnA w B v l) {g : Nat} (hg : v.ownBlock = some g) : B ≤ g ∧ ∃ cur, w.heap[g]? = some (.cells cur 39) := by
  rcases h.2 with ⟨rfl, _⟩ | ⟨x, cap, cur, rfl, hx, hh, hrest⟩
  · cases hg
  · simp [Value.ownBlock] at hg
    subst hg
    exact ⟨hx, cur, hh⟩
theorem OwnA.keep {w w' : World} {B : Nat} {v : Value} {l : List Ad} (h : OwnA w B v l) (k : ∀ g, v.ownBlock = some g → w'.heap[g]? = w.heap[g]?) : OwnA w' B v l := by
  refine ⟨h.1, ?_⟩
  rcases h.2 with h0 | ⟨x, cap, cur, hv, hx, hh, hrest⟩
  · exact Or.inl h0
  · exact Or.inr ⟨x, cap, cur, hv, hx, (k x (by rw [hv]; rfl)).trans hh, hrest⟩
theorem OwnA.below {w w' : World} {B : Nat} {v : Value} {l : List Ad} (h : OwnA w B v l) (k : Below w.heap.size w w') : OwnA w' B v l :=
  h.keep fun g hg => by obtain ⟨_, cur, hh⟩ := h.block hg; exact k.block g (lt_of_some hh)
theorem OwnA.kept {w w' : World} {B g : Nat} {v : Value} {l : List Ad} {ty : TypeId} {C : List Value} (h : OwnA w B v l) (hr : Row w g ty C) (ht : ty ≠ 39) (k : Kept g g w w') : OwnA w' B v l :=
  h.keep fun x hx => by
    obtain ⟨_, cur, hh⟩ := h.block hx
    have : x ≠ g := fun e => by subst e; unfold Row at hr; rw [hh] at hr; simp at hr; exact ht hr.2.symm
    exact k.block x (lt_of_some hh) this this
theorem OwnA.but {w w' : World} {B r : Nat} {v : Value} {l : List Ad} {ty : TypeId} {C : List Value} (h : OwnA w B v l) (hr : Row w r ty C) (ht : ty ≠ 39) (k : But v w w') : Row w' r ty C :=
  hr.keep (k r hr.lt (fun e => by
    obtain ⟨_, cur, hh⟩ := h.block e
    unfold Row at hr
    rw [hh] at hr
    simp at hr
    exact ht hr.2.symm))
theorem OwnA.nil (w : World) (B : Nat) : OwnA w B (.slice none 0 0) [] := ⟨rfl, Or.inl ⟨rfl, rfl⟩⟩
theorem OwnA.shape {w : World} {B : Nat} {v : Value} {l : List Ad} (h : OwnA w B v l) : ∃ a cap, v = .slice a l.length cap := by
  rcases h.2 with ⟨rfl, h0⟩ | ⟨g, cap, cur, rfl, _⟩
  · exact ⟨none, 0, by rw [h0]⟩
  · exact ⟨_, cap, rfl⟩
theorem und41 : Tryz.prog.underlying 31 = some (.slice 39) := by kernel_rfl
theorem info75p : ∃ i, Tryz.prog.info? 39 = some i ∧ i.zero = some (.agg #[.int .u8 0, .int .u8 0, .int .u8 0, .int .u8 0]) ∧ i.size = 4 ∧ i.bytes = 4 := info_parts (by kernel_rfl)
theorem run_appA {w : World} {B : Nat} {v : Value} {l : List Ad} (h : OwnA w B v l) (d : Ad) (hl : l.length ≤ 1000) (hB : B ≤ w.heap.size) :
    ∃ v' w', (Builtin.append_ #[31, 31] 31 #[v, .slice (some ⟨w.heap.size, 0, none⟩) 1 1]).run Tryz.prog (w.alloc (.cells (adC d).toArray 39)) = .ok v' w' ∧ OwnA w' B v' (l ++ [d]) ∧ Below B w w' ∧ But v w w' := by
  obtain ⟨i, hi, hz, hsz, hby⟩ := info75p
  have ha := (Below.refl w.heap.size w).alloc (Nat.le_refl _) (.cells (adC d).toArray 39)
  obtain ⟨v', w', hr, ho, hg, _⟩ := run_append_own (P := Tryz.prog) (w.alloc (.cells (adC d).toArray 39)) B 31 31 39 i _ 4 4 und41 hi hz hsz hby rfl (by omega) v l.length (adCs l) (h.below ha) ⟨w.heap.size, 0, none⟩ 1 1 (adC d) rfl
    (fun j u hu => by
      rw [add_none, Nat.zero_add]
      have hn : (w.alloc (.cells (adC d).toArray 39)).heap[w.heap.size]? = some (.cells (adC d).toArray 39) := alloc_new _ _
      simp only [World.cell?, hn]
      simpa using hu) (by intro u hu; simp [adC] at hu; rcases hu with rfl | rfl | rfl | rfl <;> rfl) (by unfold maxLen; omega) (by omega) (by simp; omega)
  refine ⟨v', w', hr, ?_, (ha.mono hB).trans ((Below.refl B _).grown hg (by simp; omega) (fun k hk => (h.block hk).1)), fun k hk hne => (hg.block k (by simp; omega) (fun e => hne e.symm)).trans (ha.block k hk)⟩
  unfold OwnA
  rw [adCs_append, List.length_append]
  have e : adCs [d] = adC d := by simp [adCs]
  rw [e]
  exact ho
/-- An append as one step. -/
def apOk (P : Program) (v u : Value) (w : World) : Bool := match (Builtin.append_ #[31, 31] 31 #[v, u]).run P w with
  | .ok _ _ => true
  | _ => false
def apV (P : Program) (v u : Value) (w : World) : Value := match (Builtin.append_ #[31, 31] 31 #[v, u]).run P w with
  | .ok x _ => x
  | _ => undef
def apW (P : Program) (v u : Value) (w : World) : World := match (Builtin.append_ #[31, 31] 31 #[v, u]).run P w with
  | .ok _ y => y
  | _ => w
theorem run_ap41 {v u : Value} {w : World} (h : apOk Tryz.prog v u w = true) : (Builtin.append_ #[31, 31] 31 #[v, u]).run Tryz.prog w = .ok (apV Tryz.prog v u w) (apW Tryz.prog v u w) := by
  unfold apOk at h
  unfold apV apW
  cases e : (Builtin.append_ #[31, 31] 31 #[v, u]).run Tryz.prog w with
  | ok x y => rfl
  | _ => simp [e] at h
theorem ap_of {v u v' : Value} {w w' : World} (h : (Builtin.append_ #[31, 31] 31 #[v, u]).run Tryz.prog w = .ok v' w') : apOk Tryz.prog v u w = true ∧ apV Tryz.prog v u w = v' ∧ apW Tryz.prog v u w = w' := by
  unfold apOk apV apW
  rw [h]
  exact ⟨rfl, rfl, rfl⟩
theorem run_opap (ρ : Operand → Value) (dst : Option Tmp) (x y : Operand) (pos : String) (after : Array Edge) (guard : Option (Nat × Bool)) (w : World) (h : apOk Tryz.prog (ρ x) (ρ y) w = true) :
    (execOp ρ { dst, op := .call { callee := .builtin .append, args := #[x, y], argTypes := #[31, 31] }, type := 31, pos, after, guard }).run Tryz.prog w = .ok (.value (apV Tryz.prog (ρ x) (ρ y) w)) (apW Tryz.prog (ρ x) (ρ y) w) := by
  unfold execOp
  simp only [resolve, invoke, builtin, Sem.run_bind, Sem.run_pure, Result.andThen_ok, List.map_toArray, List.map_cons, List.map_nil, run_ap41 h]
attribute [local go_sem ↓] run_opap
set_option maxRecDepth 100000 in
set_option maxHeartbeats 2000000 in
theorem appendAddr_at (v : Value) (l : List Ad) (B : Nat) (w : World) (x : Option Addr) (y : Nat) (bs : List Nat) (h : OwnA w B v l) (hB : B ≤ w.heap.size) (hl : l.length ≤ 16) (hs : Src w x 4 y bs) :
    Calls Tryz.prog 111 #[v, .slice x 4 y] w fun e w' => ∃ v', e = .returned v' ∧ OwnA w' B v' (more l (bs.getD 0 0, bs.getD 1 0, bs.getD 2 0, bs.getD 3 0)) ∧ Below B w w' ∧ But v w w' := by
  obtain ⟨va, vc, rfl⟩ := h.shape
  obtain ⟨xb, xo, rfl, hxl, hc⟩ := hs.lies (by omega)
  by_cases h16 : l.length = 16
  · have d1 : ((l.length : Int) == 16) = true := by simp; omega
    have HM : Hid (more l (bs.getD 0 0, bs.getD 1 0, bs.getD 2 0, bs.getD 3 0) = l) := by show _ = _; unfold more; rw [if_pos h16]
    have H := hide h
    clear h hs hc h16
    go_enter Tryz.func111, Tryz.ntmps111
    go_wp2_with fail
    go_ret
    rw [HM.out]
    exact ⟨_, rfl, H.out, Below.refl _ _, fun _ _ _ => rfl⟩
  · have d1 : ((l.length : Int) == 16) = false := by simp; omega
    have HM : Hid (more l (bs.getD 0 0, bs.getD 1 0, bs.getD 2 0, bs.getD 3 0) = l ++ [(bs.getD 0 0, bs.getD 1 0, bs.getD 2 0, bs.getD 3 0)]) := by show _ = _; unfold more; rw [if_neg h16]
    have e0 := hc 0 (by omega)
    have e1 := hc 1 (by omega)
    have e2 := hc 2 (by omega)
    have e3 := hc 3 (by omega)
    rw [Nat.add_zero] at e0
    have hd : OwnA w.drew B (.slice va l.length vc) l := h.keep fun _ _ => rfl
    obtain ⟨v', w', ap, ow, bl, bu⟩ := run_appA hd (bs.getD 0 0, bs.getD 1 0, bs.getD 2 0, bs.getD 3 0) (by omega) hB
    rw [HM.out]
    generalize bs.getD 0 0 = b0 at *
    generalize bs.getD 1 0 = b1 at *
    generalize bs.getD 2 0 = b2 at *
    generalize bs.getD 3 0 = b3 at *
    have hy := hs.hcap
    have ap2 : (Builtin.append_ #[31, 31] 31 #[.slice va l.length vc, .slice (some ⟨w.heap.size, 0, none⟩) 1 1]).run Tryz.prog ((w.alloc (.cells #[.int .u8 (b0 : Nat), .int .u8 (b1 : Nat), .int .u8 (b2 : Nat), .int .u8 (b3 : Nat)] 39)).drew) = .ok v' w' := ap
    obtain ⟨q1, q2, q3⟩ := ap_of ap2
    clear ap2
    have OW := hide ow
    have BL : Hid (Below B w w') := below_of_drew bl
    have BU : Hid (But (.slice va l.length vc) w w') := bu
    clear h hs hc h16 hd HM ap ow bl bu
    go_enter Tryz.func111, Tryz.ntmps111
    go_wp2_with fail
    go_region
    go_wp2_with fail
    go_ret
    exact ⟨_, rfl, OW.out, BL.out, BU.out⟩
end Go.Proofs.YtabkelhipmijfaaGreatDoor
