/-
  A slice of slices of bytes that came in, and what the bound on the bulk gives; conditions as each theorem has them.
-/
import Derived.Test.YtaibdmmacncejaaDoorT
import Derived.Test.YtaibdmmacncejaaDoorJ
import Derived.Test.YtaibdmmacncejaaDoorRows
import Derived.Deep.Matrix
set_option linter.unusedSimpArgs false
set_option linter.unusedVariables false
namespace Go.Proofs.YtaibdmmacncejaaDoor
open Go.ChangeShapes Go.WideShapes Go.ChangeAt Go.RowKit

theorem bulk_one {H : Type} (d : DataW H) : 1 ≤ Rows.uptoBulk d := by
  cases d with
  | lit l => cases l <;> simp [Rows.uptoBulk]
  | nil => simp [Rows.uptoBulk]
  | ptr d => simp [Rows.uptoBulk]
  | slice elems spare => simp [Rows.uptoBulk]
  | agg parts => simp [Rows.uptoBulk]
  | iface t d => simp [Rows.uptoBulk]
  | map entries => simp [Rows.uptoBulk]
  | held h => simp [Rows.uptoBulk]
theorem bulk_len {H : Type} (l : List (DataW H)) : l.length ≤ Rows.uptoBulkAll l := by
  induction l with
  | nil => simp [Rows.uptoBulkAll]
  | cons x r ih => have := bulk_one x; simp only [Rows.uptoBulkAll, List.length_cons]; omega
theorem bulk_row {H : Type} (k : IntKind) (A : Option Addr) (L : Nat) (zs : List Int) (h : A = none → L = 0) (hz : L ≤ zs.length) : L ≤ Rows.uptoBulk (Deep.intRow (H := H) k A L zs) := by
  cases A with
  | none => rw [h rfl]; exact Nat.zero_le _
  | some a =>
    have := bulk_len (lits (H := H) k (zs.take L))
    have e : (lits (H := H) k (zs.take L)).length = L := by simp [lits]; omega
    simp only [Deep.intRow, Rows.uptoBulk]
    omega
theorem bulk_flat {H : Type} (f : Nat → List Nat) (D : Nat → DataW H) : ∀ rs : List Nat, (∀ r ∈ rs, (f r).length ≤ Rows.uptoBulk (D r)) → ((rs.map f).flatten).length ≤ Rows.uptoBulkAll (rs.map D)
  | [], _ => by simp [Rows.uptoBulkAll]
  | r :: rs, h => by
    have h1 := h r (by simp)
    have h2 := bulk_flat f D rs (fun x hx => h x (by simp [hx]))
    simp only [List.map_cons, List.flatten_cons, List.length_append, Rows.uptoBulkAll]
    omega

theorem open_parts {H : Type} {enc : TypeId × Value → H} {W : World} {base : Nat} {held : Bool} {fuel : Nat} {a : Option Addr} {n cap : Nat} {d : DataW H} {p : List MemPlace} (hf : DataW.trod enc Tryd.prog W base (fun _ => true) held fuel 22 [.slice a n cap] = some (d, p)) :
    ∃ ps, Parts W a n cap ps ∧ n ≤ Rows.uptoBulk d ∧ ps.flatten.length ≤ Rows.uptoBulk d := by
  rcases Deep.open_int_rows Tryd.underlying22 Tryd.underlying28 Tryd.underlying5 (by kernel_rfl) (by kernel_rfl) hf with ⟨hcs, hd⟩ | ⟨x, l, c, A, L, C, Z, hcs, _, hl, hm, hd, hr⟩
  · simp at hcs
    obtain ⟨rfl, rfl, rfl⟩ := hcs
    exact ⟨[], ⟨rfl, Nat.le_refl _, Nat.zero_le _, fun _ => rfl, fun h => by omega⟩, by omega, by simp⟩
  · simp at hcs
    obtain ⟨rfl, rfl, rfl⟩ := hcs
    simp only [Prod.mk.injEq] at hd
    obtain ⟨f, hfd⟩ : ∃ f : Nat → List Nat, f = fun r => ((Z r).take (L r)).map Int.toNat := ⟨_, rfl⟩
    have hpsg : ∀ i, i < n → ((List.range n).map f).getD i [] = f i := by
      intro i hi
      simp [List.getD, hi]
    have hfl : ∀ r, r < n → (f r).length = L r := by
      intro r h
      obtain ⟨_, r2, _, r4, _⟩ := hr r (by omega)
      rw [hfd]; simp; omega
    have hsrc : ∀ r, r < n → Src W (A r) (L r) (C r) (f r) := by
      intro r h
      obtain ⟨r1, r2, r3, r4, r5, r6, r7⟩ := hr r (by omega)
      have hz0 : ∀ j, j < L r → 0 ≤ (Z r).getD j 0 ∧ (Z r).getD j 0 < 256 := by
        intro j hj
        have hj' : j < (Z r).length := by omega
        have := r5 ((Z r)[j]) (List.getElem_mem hj')
        have hb := bounds_u8 this
        rw [List.getD, List.getElem?_eq_getElem hj']
        simp only [Option.getD_some]
        omega
      refine ⟨hfl r h, r2, r3, r6, fun h0 => ?_, ?_⟩
      · cases ha : A r with
        | none => have := r6 ha; omega
        | some a' =>
          have hcell := (r7 a' ha).2
          obtain ⟨b, o, sp⟩ := a'
          have h00 := hcell 0 (by omega)
          have hsp : sp = none := by simpa [Addr.add] using World.cell?_spot h00
          subst hsp
          refine ⟨b, o, rfl, by simpa [Addr.add] using lt_of_cell h00, fun i hi => ?_⟩
          have h1 := hcell i (by omega)
          rw [add_none] at h1
          rw [h1]
          congr 2
          rw [hfd]
          obtain ⟨z0, z1⟩ := hz0 i hi
          simp only [List.getD, List.getElem?_map, List.getElem?_take, if_pos hi] at z0 ⊢
          cases e : (Z r)[i]? with
          | none => rfl
          | some y => rw [e] at z0; simp at z0 ⊢; omega
      · intro y hy
        rw [hfd] at hy
        simp only [List.mem_map] at hy
        obtain ⟨z, hz, rfl⟩ := hy
        have := bounds_u8 (r5 z (List.mem_of_mem_take hz))
        omega
    refine ⟨(List.range n).map f, ⟨by simp, hl, hm, fun e => (by cases e), fun h0 => ?_⟩, ?_, ?_⟩
    · obtain ⟨r1, _⟩ := hr 0 (by omega)
      obtain ⟨b, o, sp⟩ := x
      have hsp : sp = none := by simpa [Addr.add] using World.cell?_spot r1
      subst hsp
      refine ⟨b, o, rfl, by simpa [Addr.add] using lt_of_cell r1, fun i hi => ?_⟩
      obtain ⟨q1, _⟩ := hr i (by omega)
      rw [add_none] at q1
      exact ⟨_, _, _, q1, by rw [hpsg i hi]; exact hsrc i hi⟩
    · rw [hd.1]
      have := bulk_len ((List.range n).map fun r => Deep.intRow (H := H) .u8 (A r) (L r) (Z r))
      simp only [List.length_map, List.length_range] at this
      simp only [Rows.uptoBulk]
      omega
    · rw [hd.1]
      have := bulk_flat (H := H) f (fun r => Deep.intRow .u8 (A r) (L r) (Z r)) (List.range n) (fun r hrm => by
        have hrn : r < n := by simpa using hrm
        obtain ⟨_, r2, _, r4, _, r6, _⟩ := hr r (by omega)
        rw [hfl r hrn]
        exact bulk_row .u8 (A r) (L r) (Z r) (fun e => by have := r6 e; omega) (by omega))
      simp only [Rows.uptoBulk]
      omega
end Go.Proofs.YtaibdmmacncejaaDoor
