/-
  From the listed variables' data to the tables in memory, a heap that meets them, and an array of 32 bytes that came in; no conditions.
-/
import Derived.Test.YtaibdmmacncejaaDoorE
import Derived.ProofKit
import Derived.LaidMore
import Derived.OpenShut
import Derived.Stop.Joined
set_option linter.unusedSimpArgs false
set_option linter.unusedVariables false
namespace Go.Proofs.YtaibdmmacncejaaDoor
open Go.ChangeShapes Go.WideShapes Go.ChangeAt Go.RowKit

def laidL : List (String × DataW Unit) := [("sallyport/digest.firstWords", Rows.laid_sallyport_digest_firstWords), ("sallyport/digest.roundWords", Rows.laid_sallyport_digest_roundWords)]
theorem g0 : Tryd.prog.globalNamed "sallyport/digest.firstWords" = some 0 := by kernel_rfl
theorem t0 : (Tryd.prog.globals[0]?).map (·.type) = some 38 := by kernel_rfl
theorem g1 : Tryd.prog.globalNamed "sallyport/digest.roundWords" = some 1 := by kernel_rfl
theorem t1 : (Tryd.prog.globals[1]?).map (·.type) = some 65 := by kernel_rfl

set_option maxRecDepth 100000 in
/-- The door's own heap meets the condition. -/
theorem door_met (os : Os) (args : Array Value) : laidMetH Tryd.prog laidL ((World.doorLaid Tryd.prog 19 os).forCall (fun _ _ => 0) ⟨#[], args, []⟩).memory :=
  laidMetH_of_parts3 (fuel := 8) (laidMet_of_run' 8 (by kernel_rfl) (by kernel_rfl)) (by kernel_rfl) (by kernel_rfl)

theorem first_datum (H : Type) : (Rows.laid_sallyport_digest_firstWords : DataW H) = .agg (h0.list.map fun k => .lit (.int .u32 (k : Nat))) := rfl
theorem round_datum (H : Type) : (Rows.laid_sallyport_digest_roundWords : DataW H) = .agg (kt.map fun k => .lit (.int .u32 (k : Nat))) := rfl

/-- An array of words that reads as the numbers l. -/
theorem words_cells {W : World} {enc : TypeId × Value → Unit} {g t n : Nat} {cs : Array Value} {fuel : Nat} {q : List MemPlace} {nm : String} {l : List Nat} (ht : Tryd.prog.underlying t = some (.array n 36)) (hl : l.length = n)
    (hg : Tryd.prog.globalNamed nm = some g) (hv : W.var? Tryd.prog nm = some cs) {base : Nat} {sp : Nat → Bool} {held : Bool} (hd : DataW.trod enc Tryd.prog W base sp held fuel t cs.toList = some (.agg (l.map fun k => .lit (.int .u32 (k : Nat))), q)) :
    ∀ j, j < n → W.cell? ⟨g, j, none⟩ = some (.int .u32 (l.getD j 0 : Nat)) := by
  have c36 : Tryd.prog.cellsOf 36 = 1 := by kernel_rfl
  obtain ⟨xs, m1, rfl, hx1, hlen, hn3, hel⟩ := DataW.trod_array ht hd
  simp only [Prod.mk.injEq, DataW.agg.injEq] at hx1
  intro j hj
  have h0 := hel j hj
  rw [List.getElem?_eq_getElem (by omega)] at h0
  obtain ⟨k, e1, e2, _⟩ := DataW.trod_int Tryd.underlying36 h0
  have hk : k = (l.getD j 0 : Nat) := by
    have hj1 : (xs.map (·.1))[j]? = some (.lit (.int .u32 k)) := by
      rw [List.getElem?_map, List.getElem?_eq_getElem (by omega), e2]
      rfl
    rw [← hx1.1, List.getElem?_map] at hj1
    have hl' : j < l.length := by omega
    rw [List.getElem?_eq_getElem hl'] at hj1
    simp at hj1
    rw [← hj1]
    simp [List.getD, hl']
  rw [← hk]
  have := World.var?_cell hg hv j
  rw [c36] at e1
  rw [this]
  have e3 : (cs.toList.drop (j * 1)).take 1 = [Value.int .u32 k] := by simpa [Value.cells] using e1
  have e4 : cs.toList[j]? = some (.int .u32 k) := by
    have := congrArg (fun l => l[0]?) e3
    simpa [List.getElem?_take, List.getElem?_drop] using this
  simpa using e4

set_option maxRecDepth 100000 in
theorem of_laid {W : World} (h : laidMetH Tryd.prog laidL W) : Tabs W := by
  rw [MakeChecks.laidMetH_plain _ _ _ (by kernel_rfl)] at h
  obtain ⟨ps, ⟨ga, ta, ca, fa, pa, qa, hga, hta, hva, hda, ⟨gb, tb, cb, fb, pb, qb, hgb, htb, hvb, hdb, _⟩, _⟩, _, _⟩ := h
  obtain rfl := Option.some.inj (g0.symm.trans hga)
  obtain rfl := Option.some.inj (t0.symm.trans hta)
  obtain rfl := Option.some.inj (g1.symm.trans hgb)
  obtain rfl := Option.some.inj (t1.symm.trans htb)
  rw [first_datum] at hda
  rw [round_datum] at hdb
  exact ⟨words_cells (l := h0.list) (by kernel_rfl) rfl hga hva hda, words_cells (l := kt) (by kernel_rfl) rfl hgb hvb hdb⟩

/-- An array of 32 bytes that came in. -/
theorem open_arr {H : Type} {enc : TypeId × Value → H} {W : World} {base b0 : Nat} {r : Reach} {sp : Nat → Bool} {held : Bool} {v : Value} {d : DataW H} {ps : List MemPlace} (hval : Value.okWide Tryd.prog W r b0 24 v) (hd : DataW.Trod enc Tryd.prog W base sp held 24 v d ps) :
    ∃ s : List Nat, s.length = 32 ∧ (∀ x ∈ s, x < 256) ∧ v = .agg (nums .u8 s).toArray := by
  have hu : Tryd.prog.underlying 24 = some (.array 32 5) := by kernel_rfl
  have c5 : Tryd.prog.cellsOf 5 = 1 := by kernel_rfl
  have c24 : Tryd.prog.cellsOf 24 = 32 := by kernel_rfl
  obtain ⟨cs, rfl⟩ : ∃ cs, v = .agg cs := by
    have h := hval
    unfold Value.okWide at h
    rw [hu] at h
    cases v <;> simp at h
    exact ⟨_, rfl⟩
  obtain ⟨fuel, hf⟩ := hd
  obtain ⟨xs, m1, rfl, hx1, hlen, hn3, hel⟩ := DataW.trod_array hu hf
  simp only [Value.cells] at hlen hel
  rw [c24] at hlen
  have key : ∀ j, j < 32 → ∃ k : Nat, k < 256 ∧ cs.toList[j]? = some (.int .u8 (k : Nat)) := by
    intro j hj
    have h0 := hel j hj
    rw [List.getElem?_eq_getElem (by omega), c5] at h0
    obtain ⟨k, e1, e2, e3⟩ := DataW.trod_int Tryd.underlying5 h0
    have e4 : cs.toList[j]? = some (.int .u8 k) := by
      have e3 : (cs.toList.drop (j * 1)).take 1 = [Value.int .u8 k] := by simpa using e1
      have := congrArg (fun l => l[0]?) e3
      simpa [List.getElem?_take, List.getElem?_drop] using this
    have hb := bounds_u8 e3
    refine ⟨k.toNat, by omega, ?_⟩
    rw [e4]
    congr 2
    omega
  refine ⟨(List.range 32).map fun j => (match cs.toList.getD j undef with | .int _ k => k.toNat | _ => 0), by simp, ?_, ?_⟩
  · intro x hx
    simp only [List.mem_map, List.mem_range] at hx
    obtain ⟨j, hj, rfl⟩ := hx
    obtain ⟨k, hk, e⟩ := key j hj
    rw [List.getD, e]
    simpa using hk
  · congr 1
    apply Array.ext'
    apply List.ext_getElem?
    intro j
    rcases Nat.lt_or_ge j 32 with hj | hj
    · obtain ⟨k, hk, e⟩ := key j hj
      have e' : cs[j]? = some (.int .u8 (k : Nat)) := by simpa using e
      rw [e]
      simp [nums, hj, List.getD, e']
    · rw [List.getElem?_eq_none (by omega)]
      simp [nums, hj]
end Go.Proofs.YtaibdmmacncejaaDoor
