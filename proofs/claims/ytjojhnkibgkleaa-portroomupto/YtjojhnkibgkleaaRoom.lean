/-
  PortRoom, up to the given bulk: for all arguments that hold together at most 1048576 values and letters the call answers true and its arguments read as before; no other conditions.
-/
import Derived.Test.YtjojhnkibgkleaaRows
import Derived.Test.YtjojhnkibgkleaaRW
import Derived.WalkKit
import Derived.ProofKit
import Derived.OpenShut
import Derived.SizedLaws
import Derived.ChangeOld
import Derived.ChangeMaps5
import Derived.ShutString
import Derived.ChangeSame
import Derived.Below
set_option maxRecDepth 100000
set_option linter.unusedSimpArgs false
set_option linter.unusedVariables false
namespace Go.Proofs.Ytjojhnkibgkleaa.portRoom
open Go.ChangeShapes Go.WideShapes Go.ChangeAt Go.RowKit

theorem own : ownKnob Try.prog.godebug = none := by kernel_rfl
theorem laidOut : laidOutB Try.prog = true := by kernel_rfl
theorem cellsI : Try.prog.cellsOf 3 = 1 := by kernel_rfl
theorem one_le {H : Type} (d : DataW H) : 1 ≤ Rows.uptoBulk d := by
  cases d with
  | lit l => cases l <;> simp [Rows.uptoBulk]
  | nil => simp [Rows.uptoBulk]
  | ptr d => simp [Rows.uptoBulk]
  | slice elems spare => simp [Rows.uptoBulk]
  | agg parts => simp [Rows.uptoBulk]
  | iface t d => simp [Rows.uptoBulk]
  | map entries => simp [Rows.uptoBulk]
  | held h => simp [Rows.uptoBulk]
theorem length_le {H : Type} (l : List (DataW H)) : l.length ≤ Rows.uptoBulkAll l := by
  induction l with
  | nil => simp [Rows.uptoBulkAll]
  | cons x r ih => have := one_le x; simp only [Rows.uptoBulkAll, List.length_cons]; omega
theorem three_le {H : Type} {d0 d1 d2 : DataW H} (hk : Rows.uptoSmall H [d0, d1, d2] = true) : Rows.uptoBulk d0 ≤ 1048576 ∧ Rows.uptoBulk d1 ≤ 1048576 := by
  have h : Rows.uptoBulkAll [d0, d1, d2] ≤ 1048576 := of_decide_eq_true hk
  simp only [Rows.uptoBulkAll] at h
  omega
theorem ints_small {H : Type} {enc : TypeId × Value → H} {W : World} {fuel : Nat} {a : Option Addr} {n c : Nat} {x : DataW H × List MemPlace} (hf : DataW.trod enc Try.prog W 0 (fun _ => true) true fuel 62 [.slice a n c] = some x) (hb : Rows.uptoBulk x.1 ≤ 1048576) : ∃ S, SrcN W a n n S ∧ n ≤ 1048576 := by
  rcases Deep.open_slice Try.underlying62 hf with ⟨hcs, _⟩ | ⟨x, l, c', m, nn, D, Pl, hcs, _, hl, hm, hmm, hx, hr⟩
  · simp at hcs
    obtain ⟨rfl, rfl, rfl⟩ := hcs
    exact ⟨fun _ => 0, ⟨Nat.le_refl _, Nat.zero_le _, fun h => by omega⟩, Nat.zero_le _⟩
  · simp at hcs
    obtain ⟨rfl, rfl, rfl⟩ := hcs
    simp only [if_true] at hmm
    subst hmm
    subst hx
    have hn : n ≤ 1048576 := by
      have h1 := length_le ((List.range n).map D)
      simp only [Rows.uptoBulk] at hb
      simp at h1
      omega
    have each : ∀ i, i < n → ∃ s : Int, W.cell? (x.add i) = some (.int .i64 s) ∧ (-9223372036854775808 ≤ s ∧ s ≤ 9223372036854775807) := fun i hi => by
      obtain ⟨cs, hc, ht⟩ := hr i (by omega)
      rw [c3] at hc
      obtain ⟨_, hcl, hce⟩ := World.cells?_some hc
      obtain ⟨q, e0, _, hs⟩ := DataW.trod_int Try.underlying3 ht
      subst e0
      have g0 := hce 0 (by omega)
      rw [Deep.add_add] at g0
      exact ⟨q, by simpa using g0, wf_i64 hs⟩
    haveI : Inhabited Int := ⟨0⟩
    obtain ⟨S, hS⟩ := Deep.choose_lt each
    refine ⟨S, ⟨Nat.le_refl _, by omega, fun h0 => ?_⟩, hn⟩
    obtain ⟨b, o, s⟩ := x
    have h00 := (hS 0 h0).1
    have hsp : s = none := by simpa [Addr.add] using World.cell?_spot h00
    subst hsp
    refine ⟨b, o, rfl, by simpa [Addr.add] using cell_lt h00, fun i hi => ?_⟩
    have := hS i hi
    rwa [add_none] at this
theorem strs_small {H : Type} {enc : TypeId × Value → H} {W : World} {fuel : Nat} {a : Option Addr} {n c : Nat} {x : DataW H × List MemPlace} (hf : DataW.trod enc Try.prog W 0 (fun _ => true) true fuel 61 [.slice a n c] = some x) (hb : Rows.uptoBulk x.1 ≤ 1048576) : ∃ S, SrcS W a n n S ∧ n ≤ 1048576 := by
  rcases Deep.open_slice Try.underlying61 hf with ⟨hcs, _⟩ | ⟨x, l, c', m, nn, D, Pl, hcs, _, hl, hm, hmm, hx, hr⟩
  · simp at hcs
    obtain ⟨rfl, rfl, rfl⟩ := hcs
    exact ⟨fun _ => emp, ⟨Nat.le_refl _, Nat.zero_le _, fun h => by omega⟩, Nat.zero_le _⟩
  · simp at hcs
    obtain ⟨rfl, rfl, rfl⟩ := hcs
    simp only [if_true] at hmm
    subst hmm
    subst hx
    have hn : n ≤ 1048576 := by
      have h1 := length_le ((List.range n).map D)
      simp only [Rows.uptoBulk] at hb
      simp at h1
      omega
    have each : ∀ i, i < n → ∃ s : ByteArray, W.cell? (x.add i) = some (.string s) ∧ s.size ≤ maxLen := fun i hi => by
      obtain ⟨cs, hc, ht⟩ := hr i (by omega)
      rw [c9] at hc
      obtain ⟨_, hcl, hce⟩ := World.cells?_some hc
      obtain ⟨q, e0, _, hs⟩ := DataW.trod_string Try.underlying9 ht
      subst e0
      have g0 := hce 0 (by omega)
      rw [Deep.add_add] at g0
      exact ⟨q, by simpa using g0, hs⟩
    haveI : Inhabited ByteArray := ⟨emp⟩
    obtain ⟨S, hS⟩ := Deep.choose_lt each
    refine ⟨S, ⟨Nat.le_refl _, by omega, fun h0 => ?_⟩, hn⟩
    obtain ⟨b, o, s⟩ := x
    have h00 := (hS 0 h0).1
    have hsp : s = none := by simpa [Addr.add] using World.cell?_spot h00
    subst hsp
    refine ⟨b, o, rfl, by simpa [Addr.add] using cell_lt h00, fun i hi => ?_⟩
    have := hS i hi
    rwa [add_none] at this

theorem contract (H : Type) (enc : TypeId × Value → H) (W : World) (base : Nat) (args : Array Value) (ds gs : List (DataW H)) (before : List MemPlace)
    (hval : ∀ (j : Nat) t v, Try.f5.params[j]? = some t → args[j]? = some v → Value.okWide Try.prog W .any base t v)
    (hW : DataW.Whole enc Try.prog Try.f5.params.toList Rows.portRoomSpec.vars false W args.toList ds gs before) (hk : Rows.uptoSmall H (ds ++ gs) = true) :
    Calls Try.prog 5 args W fun e W' => ∃ v, e = .returned v ∧ Rows.portRoomSpec.post enc Try.prog Try.f5 false true false false W args v W' := by
  have hW' := hW
  obtain ⟨p, q, hA0, hV, rfl, hfz, hnd⟩ := hW
  have hA : DataW.TrodAll enc Try.prog W 0 (fun _ => true) true Try.f5.params.toList args.toList ds p := hA0
  rw [Try.params5] at hA hval
  obtain ⟨v0, vs0, d0, ds0, p0, q0, hargs, rfl, rfl, h0, r0⟩ := trodAll_cons hA
  obtain ⟨v1, vs1, d1, ds1, p1, q1, rfl, rfl, rfl, h1, r1⟩ := trodAll_cons r0
  obtain ⟨v2, vs2, d2, ds2, p2, q2, rfl, rfl, rfl, h2, r2⟩ := trodAll_cons r1
  obtain ⟨rfl, rfl, rfl⟩ := trodAll_nil r2
  obtain rfl : args = #[v0, v1, v2] := by cases args; simp_all
  obtain ⟨rfl, rfl⟩ := trodVars_none hV
  have hb := three_le hk
  obtain ⟨a0, len0, cap0, rfl⟩ := okWide_slice Try.underlying62 (hval 0 62 v0 rfl rfl)
  have k0 := h0
  have lt0 : ∀ x ∈ p0, x.block < W.heap.size := by obtain ⟨m, hm⟩ := k0; exact DataW.trod_lt m _ _ _ hm
  obtain ⟨f0, w0, _⟩ : ∃ f, SrcN W a0 len0 len0 f ∧ len0 ≤ 1048576 := by
    obtain ⟨fuel, hf⟩ := h0
    exact ints_small hf hb.1
  obtain ⟨a1, len1, cap1, rfl⟩ := okWide_slice Try.underlying61 (hval 1 61 v1 rfl rfl)
  have k1 := h1
  have lt1 : ∀ x ∈ p1, x.block < W.heap.size := by obtain ⟨m, hm⟩ := k1; exact DataW.trod_lt m _ _ _ hm
  obtain ⟨f1, w1, n1⟩ : ∃ f, SrcS W a1 len1 len1 f ∧ len1 ≤ 1048576 := by
    obtain ⟨fuel, hf⟩ := h1
    exact strs_small hf hb.2
  obtain ⟨a2, rfl, rfl, rfl, w2⟩ := open_int Try.underlying3 (hval 2 3 v2 rfl rfl) h2
  clear hA0
  refine (room_walk a0 len0 cap0 f0 a1 len1 cap1 f1 a2 W w0 w1 n1).mono fun e W' ⟨he, bel⟩ => ?_
  subst he
  exact ⟨_, rfl, _, _, _, [], _, [], hW', trodAll_mk1 (shut_bool Try.underlying4 _), (trodAll_cons_mk (Below.trod laidOut (by kernel_rfl) (of_decide_eq_true (by kernel_rfl)) k0 bel lt0) (trodAll_cons_mk (Below.trod laidOut (by kernel_rfl) (of_decide_eq_true (by kernel_rfl)) k1 bel lt1) (trodAll_cons_mk (shut_int Try.underlying3 w2) trodAll_mk0))), rfl, bel.frame _, fun h => by cases h⟩

theorem lifted (os : Os) (started : os.Started) (H : Type) (enc : TypeId × Value → H) (F : Stop.Interp) :
    ReturnsInHanded {} Try.checked os 5 .any ((Rows.OpenSpec.upto Rows.portRoomSpec).pre6 enc Try.prog Try.f5 Rows.portRoomUptoRow.domain false) (((Rows.OpenSpec.upto Rows.portRoomSpec).at F).post enc Try.prog Try.f5 false true false false) := by
  refine returnsInHanded_of_cond (C := Try.checked) (s := Rows.OpenSpec.upto Rows.portRoomSpec) (k := Rows.uptoSmall) rfl own started (by kernel_rfl) Try.func5
    (OpenSpec.witness (enc := enc) (C := Try.checked) (s := Rows.OpenSpec.upto Rows.portRoomSpec) (k := Rows.uptoSmall) rfl false ⟨#[], #[.slice none 0 0, .slice none 0 0, .int .i64 0], []⟩ 8 (by kernel_rfl) (by kernel_rfl) (by kernel_rfl)
      (x := ([.nil, .nil, .lit (.int .i64 0)], [], [])) (by kernel_rfl) rfl (by kernel_rfl)) ?_
  intro W base args ds gs before hval hW _ hk _
  exact contract H enc W base args ds gs before hval hW hk

theorem over : Rows.PortRoomUptoSaid :=
  OpenClaim.holds_of_cond 5 Try.f5 rfl rfl rfl rfl rfl rfl rfl ⟨rfl, rfl, rfl, rfl, rfl⟩ rfl rfl rfl rfl rfl (by kernel_rfl) Try.func5 (by kernel_rfl)
    (of_decide_eq_true (by kernel_rfl)) (by unfold Func.isWrapper; first | (rw [if_pos (by decide +kernel)]; kernel_rfl) | (rw [if_neg (by decide +kernel)]; exact ⟨rfl, rfl⟩))
    (fun os started H enc _ F => lifted os started H enc F)

end Go.Proofs.Ytjojhnkibgkleaa.portRoom

namespace Go.Proofs.Ytjojhnkibgkleaa
theorem portRoom_upto_holds : Rows.PortRoomUptoSaid := portRoom.over
end Go.Proofs.Ytjojhnkibgkleaa
