/-
  RingPlays: for every size and every list of calls the call answers true and its arguments read as before; no conditions.
-/
import Derived.Test.YtfijoienicjilaaRows
import Derived.WalkKit
import Derived.ProofKit
import Derived.OpenShut
import Derived.SizedLaws
import Derived.ChangeOld
import Derived.Below
import Derived.Deep.Strs
import Derived.Test.YtfijoienicjilaaPlaysW
set_option linter.unusedSimpArgs false
set_option linter.unusedVariables false
namespace Go.Proofs.Ytfijoienicjilaa.ringPlays
open Go.ChangeShapes Go.WideShapes Go.ChangeAt Go.RowKit

theorem own : ownKnob Try.prog.godebug = none := by kernel_rfl
theorem laidOut : laidOutB Try.prog = true := by kernel_rfl
theorem cells3 : Try.prog.cellsOf 3 = 1 := by kernel_rfl
theorem cells30 : Try.prog.cellsOf 30 = 1 := by kernel_rfl
theorem cells32 : Try.prog.cellsOf 32 = 3 := by kernel_rfl
theorem bytes5 : Try.prog.bytesOf 5 = 1 := by kernel_rfl

theorem three {α : Type} {l : List α} (h : l.length = 3) : ∃ a b c, l = [a, b, c] := by
  match l, h with
  | [a, b, c], _ => exact ⟨a, b, c, rfl⟩

/-- One call, as it lies in memory and as it reads. -/
theorem act_open {H : Type} {enc : TypeId × Value → H} {W : World} {fuel : Nat} {cs : List Value} {x : DataW H × List MemPlace}
    (h : DataW.trod enc Try.prog W 0 (fun _ => true) true fuel 32 cs = some x) :
    ∃ kind n a l c zs d0 d1 d2, cs = [.int .i64 kind, .int .i64 n, .slice a l c] ∧ IsRow .u8 W a l c zs ∧ x.1 = .agg [d0, d1, d2] ∧ (l = 0 ∨ ∃ es sp, d2 = .slice es sp ∧ l ≤ es.length + sp.length) := by
  obtain ⟨y0, y1, y2, m, rfl, hl, h0, h1, h2⟩ := Deep.trod_struct3 Try.underlying32 h
  rw [cells32] at hl
  obtain ⟨c0, c1, c2, rfl⟩ := three hl
  have h0' : DataW.trod enc Try.prog W 0 (fun _ => true) true m 3 [c0] = some y0 := by simpa [cells3] using h0
  have h1' : DataW.trod enc Try.prog W 0 (fun _ => true) true m 3 [c1] = some y1 := by simpa [cells3] using h1
  have h2' : DataW.trod enc Try.prog W 0 (fun _ => true) true m 30 [c2] = some y2 := by simpa [cells30] using h2
  obtain ⟨kind, e0, _, _⟩ := DataW.trod_int Try.underlying3 h0'
  obtain ⟨n, e1, _, _⟩ := DataW.trod_int Try.underlying3 h1'
  simp at e0 e1
  subst e0 e1
  rcases open_ints Try.underlying30 Try.underlying5 (by kernel_rfl) h2' with ⟨hcs, hx⟩ | ⟨a, l, c, zs, hcs, _, hlc, hm, hz, hx, hcell, hwz⟩
  · simp at hcs
    subst hcs
    exact ⟨kind, n, none, 0, 0, [], _, _, _, rfl, .inl ⟨rfl, rfl, rfl, rfl⟩, rfl, Or.inl rfl⟩
  · simp at hcs
    subst hcs
    refine ⟨kind, n, some a, l, c, zs, _, _, _, rfl, .inr ⟨a, rfl, hlc, hm, by simpa using hz, hcell, hwz⟩, rfl, Or.inr ⟨_, _, by rw [hx], ?_⟩⟩
    simp at hz
    simp [lits]
    omega

theorem weightsAll_mem {H : Type} {e : TypeId} : ∀ {l : List (DataW H)} {d : DataW H} {n : Nat}, d ∈ l → n ∈ d.weights Try.prog e → n ∈ DataW.weightsAll Try.prog e l
  | x :: r, d, n, hd, hn => by
    simp only [DataW.weightsAll, List.mem_append]
    rcases List.mem_cons.1 hd with rfl | hd
    · exact Or.inl hn
    · exact Or.inr (weightsAll_mem hd hn)

/-- How long the bytes of one call are at most. -/
theorem bound {H : Type} {d0 x0 x1 : DataW H} {elems spare es sp : List (DataW H)} (hz : (DataW.weightsEach Try.prog [3, 22] [d0, .slice elems spare]).all (· ≤ reachBytes) = true)
    (hd : DataW.agg [x0, x1, .slice es sp] ∈ elems) : es.length + sp.length ≤ 140737488355328 := by
  have h1 : (es.length + sp.length) * Try.prog.bytesOf 5 ∈ (DataW.slice es sp).weights Try.prog 30 := by simp [DataW.weights, Try.underlying30]
  have h2 : (es.length + sp.length) * Try.prog.bytesOf 5 ∈ (DataW.agg [x0, x1, .slice es sp]).weights Try.prog 32 := by
    simp only [DataW.weights, Try.underlying32]
    exact DataW.weights_mem_each (j := 2) rfl rfl _ h1
  have h3 : (es.length + sp.length) * Try.prog.bytesOf 5 ∈ (DataW.slice elems spare).weights Try.prog 22 := by
    simp only [DataW.weights, Try.underlying22, List.mem_cons, List.mem_append]
    exact Or.inr (Or.inl (weightsAll_mem hd h2))
  have h4 := List.all_eq_true.1 hz _ (DataW.weights_mem_each (j := 1) rfl rfl _ h3)
  rw [bytes5] at h4
  have h5 := reachBytes_lt
  simp at h4
  omega

theorem walk (a0 : Int) (a1 : Option Addr) (len1 cap1 : Nat) (w : World) (w1 : IsActs w a1 len1 cap1) :
    Calls Try.prog 3 #[.int .i64 a0, .slice a1 len1 cap1] w fun e w' => e = .returned (.bool true) ∧ Below w.heap.size w w' := by
  by_cases h : a0 < 0 ∨ 65536 < a0
  · exact plays_bad a0 _ w h
  · obtain ⟨n, rfl⟩ := Int.eq_ofNat_of_zero_le (show 0 ≤ a0 by omega)
    exact plays_good n (by omega) a1 len1 cap1 w w1

set_option maxRecDepth 100000 in
theorem lifted (os : Os) (started : os.Started) (H : Type) (enc : TypeId × Value → H) :
    ReturnsInHanded {} Try.checked os 3 .any (Rows.ringPlaysSpec.pre6 enc Try.prog Try.f3 Rows.ringPlaysRow.domain false) (Rows.ringPlaysSpec.post enc Try.prog Try.f3 false true false false) := by
  refine returnsInHanded_of_change_sized (C := Try.checked) own started (by kernel_rfl) Try.func3
    (ChangeSpec.witness6 (enc := enc) (C := Try.checked) false ⟨#[], #[.int .i64 0, .slice none 0 0], []⟩ 8 (by kernel_rfl) (by kernel_rfl) (by kernel_rfl) (by kernel_rfl)) ?_
  intro W base args ds gs before hval0 hW hcnd hsz0 _
  have hval : ∀ (j : Nat) t v, Try.f3.params[j]? = some t → args[j]? = some v → Value.okWide Try.prog W .any base t v := hval0
  have hW' := hW
  obtain ⟨p, q, hA0, hV, rfl, hfz, hnd⟩ := hW
  have hA : DataW.TrodAll enc Try.prog W 0 (fun _ => true) true Try.f3.params.toList args.toList ds p := hA0
  have hsz : (DataW.weightsEach Try.prog (Try.f3.params.toList ++ Rows.ringPlaysSpec.plain.varTypes Try.prog) (ds ++ gs)).all (· ≤ reachBytes) = true := hsz0
  rw [Try.params3] at hA hval hsz
  obtain ⟨v0, vs0, d0, ds0, p0, q0, hargs, rfl, rfl, h0, r0⟩ := trodAll_cons hA
  obtain ⟨v1, vs1, d1, ds1, p1, q1, rfl, rfl, rfl, h1, r1⟩ := trodAll_cons r0
  obtain ⟨rfl, rfl, rfl⟩ := trodAll_nil r1
  obtain rfl : args = #[v0, v1] := by cases args; simp_all
  obtain ⟨rfl, rfl⟩ := trodVars_none hV
  obtain ⟨a0, rfl, rfl, rfl, w0⟩ := open_int Try.underlying3 (hval 0 3 v0 rfl rfl) h0
  obtain ⟨a1, len1, cap1, rfl⟩ := okWide_slice Try.underlying22 (hval 1 22 v1 rfl rfl)
  have k1 := h1
  have lt1 : ∀ x ∈ p1, x.block < W.heap.size := by obtain ⟨m, hm⟩ := k1; exact DataW.trod_lt m _ _ _ hm
  have w1 : IsActs W a1 len1 cap1 := by
    obtain ⟨fuel, hf⟩ := h1
    rcases Deep.open_slice Try.underlying22 hf with ⟨hcs, _⟩ | ⟨x, l, c, m, nn, D, Pl, hcs, _, hl, hm, hmm, hx, hr⟩
    · simp [Value.cells] at hcs
      obtain ⟨rfl, rfl, rfl⟩ := hcs
      exact ⟨Nat.le_refl _, Nat.zero_le _, fun h => by omega⟩
    · simp [Value.cells] at hcs
      obtain ⟨rfl, rfl, rfl⟩ := hcs
      simp only [if_true] at hmm
      subst hmm
      refine ⟨hl, hm, fun hpos => ?_⟩
      simp only [Prod.mk.injEq] at hx
      have hd := hx.1
      obtain ⟨b, o, spot⟩ := x
      obtain ⟨cs0, hc0, _⟩ := hr 0 (by omega)
      rw [cells32, Nat.zero_mul] at hc0
      obtain ⟨_, hcl0, hce0⟩ := World.cells?_some hc0
      obtain ⟨x0, x1, x2, rfl⟩ := three hcl0
      have hx0 := hce0 0 (by omega)
      simp [Addr.add] at hx0
      have hspot : spot = none := by simpa using World.cell?_spot hx0
      subst hspot
      refine ⟨b, o, rfl, by simpa using lt_of_cell hx0, fun i hi => ?_⟩
      obtain ⟨cs, hc, ht⟩ := hr i (by omega)
      rw [cells32] at hc
      obtain ⟨_, hcl, hce⟩ := World.cells?_some hc
      obtain ⟨kind, n, a, l, c, zs, e0, e1, e2, rfl, hrow, hagg, hlen⟩ := act_open ht
      have g0 := hce 0 (by omega)
      have g1 := hce 1 (by omega)
      have g2 := hce 2 (by omega)
      rw [Deep.add_add, add_none] at g0 g1 g2
      refine ⟨kind, n, a, l, c, zs, by simpa using g0, by simpa [Nat.add_assoc] using g1, by simpa [Nat.add_assoc] using g2, hrow, ?_⟩
      rcases hlen with rfl | ⟨es, sp, rfl, hle⟩
      · omega
      · subst hd
        have hb := bound (es := es) (sp := sp) (x0 := e0) (x1 := e1) hsz (by
          rw [← hagg]
          exact List.mem_map.2 ⟨i, by simpa using hi, rfl⟩)
        omega
  clear hA0 hval0 hsz0
  refine (walk a0 a1 len1 cap1 W w1).mono fun e W' ⟨he, bel⟩ => ?_
  subst he
  exact ⟨_, rfl, _, _, _, [], _, [], hW', trodAll_mk1 (shut_bool Try.underlying4 _), (trodAll_cons_mk (shut_int Try.underlying3 w0) (trodAll_cons_mk (Below.trod laidOut (by kernel_rfl) (of_decide_eq_true (by kernel_rfl)) k1 bel lt1) trodAll_mk0)), rfl, bel.frame _, fun h => by cases h⟩

theorem over : Rows.ringPlaysRow.holds Try.pinned (OpenSpec.ofChange Rows.ringPlaysSpec) :=
  OpenClaim.holds_of_wide 3 Try.f3 rfl rfl rfl rfl rfl rfl rfl ⟨rfl, rfl, rfl, rfl, rfl⟩ rfl rfl rfl rfl rfl (by kernel_rfl) Try.func3 (by kernel_rfl)
    (of_decide_eq_true (by kernel_rfl)) (by unfold Func.isWrapper; first | (rw [if_pos (by decide +kernel)]; kernel_rfl) | (rw [if_neg (by decide +kernel)]; exact ⟨rfl, rfl⟩))
    (fun os started H enc _ => lifted os started H enc)

end Go.Proofs.Ytfijoienicjilaa.ringPlays

namespace Go.Proofs.Ytfijoienicjilaa
theorem ringPlays_holds : Rows.RingPlaysSaid := ringPlays.over
end Go.Proofs.Ytfijoienicjilaa
