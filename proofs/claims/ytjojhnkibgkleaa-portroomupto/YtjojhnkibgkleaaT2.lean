/-
  Texts and numbers that came in as lists; conditions as each theorem has them.
-/
import Derived.Test.YtjojhnkibgkleaaT
set_option maxRecDepth 100000
set_option linter.unusedSimpArgs false
set_option linter.unusedVariables false
namespace Go.Proofs.Ytjojhnkibgkleaa
open Go.ChangeShapes Go.WideShapes Go.ChangeAt Go.RowKit
theorem by9 : Try.prog.bytesOf 9 = 16 := by kernel_rfl
theorem by3 : Try.prog.bytesOf 3 = 8 := by kernel_rfl
/-- Texts that came in. -/
structure SrcS (w : World) (a : Option Addr) (n c : Nat) (S : Nat → ByteArray) : Prop where
  hcap : n ≤ c
  hmax : c ≤ 8796093022208
  lies : 0 < n → ∃ b o, a = some ⟨b, o, none⟩ ∧ b < w.heap.size ∧ ∀ i, i < n → w.cell? ⟨b, o + i, none⟩ = some (.string (S i)) ∧ (S i).size ≤ maxLen
theorem SrcS.at_ {w w' : World} {a : Option Addr} {n c : Nat} {S : Nat → ByteArray} (h : SrcS w a n c S) (k : Below w.heap.size w w') {i : Nat} (hi : i < n) : ∃ b o, a = some ⟨b, o, none⟩ ∧ w'.cell? ⟨b, o + i, none⟩ = some (.string (S i)) ∧ (S i).size ≤ maxLen := by
  obtain ⟨b, o, e, hb, hc⟩ := h.lies (by omega)
  exact ⟨b, o, e, (k.cell (p := ⟨b, o + i, none⟩) hb).trans (hc i hi).1, (hc i hi).2⟩
/-- Numbers that came in. -/
structure SrcN (w : World) (a : Option Addr) (n c : Nat) (S : Nat → Int) : Prop where
  hcap : n ≤ c
  hmax : c ≤ 17592186044416
  lies : 0 < n → ∃ b o, a = some ⟨b, o, none⟩ ∧ b < w.heap.size ∧ ∀ i, i < n → w.cell? ⟨b, o + i, none⟩ = some (.int .i64 (S i)) ∧ (-9223372036854775808 ≤ S i ∧ S i ≤ 9223372036854775807)
theorem SrcN.at_ {w w' : World} {a : Option Addr} {n c : Nat} {S : Nat → Int} (h : SrcN w a n c S) (k : Below w.heap.size w w') {i : Nat} (hi : i < n) : ∃ b o, a = some ⟨b, o, none⟩ ∧ w'.cell? ⟨b, o + i, none⟩ = some (.int .i64 (S i)) ∧ (-9223372036854775808 ≤ S i ∧ S i ≤ 9223372036854775807) := by
  obtain ⟨b, o, e, hb, hc⟩ := h.lies (by omega)
  exact ⟨b, o, e, (k.cell (p := ⟨b, o + i, none⟩) hb).trans (hc i hi).1, (hc i hi).2⟩
variable {H : Type} {enc : TypeId × Value → H} {W : World} {fuel : Nat}
theorem strs_open {a : Option Addr} {n c : Nat} {x : DataW H × List MemPlace} (hf : DataW.trod enc Try.prog W 0 (fun _ => true) true fuel 61 [.slice a n c] = some x) (hsz : ∀ k ∈ x.1.weights Try.prog 61, k ≤ reachBytes) : ∃ S, SrcS W a n c S := by
  rcases Deep.open_slice Try.underlying61 hf with ⟨hcs, _⟩ | ⟨x, l, c', m, nn, D, Pl, hcs, _, hl, hm, hmm, hx, hr⟩
  · simp at hcs
    obtain ⟨rfl, rfl, rfl⟩ := hcs
    exact ⟨fun _ => emp, Nat.le_refl _, Nat.zero_le _, fun h => by omega⟩
  · simp at hcs
    obtain ⟨rfl, rfl, rfl⟩ := hcs
    simp only [if_true] at hmm
    subst hmm
    subst hx
    have hcap : m ≤ 8796093022208 := by
      have h1 := hsz _ (show _ ∈ (DataW.slice _ _).weights Try.prog 61 by simp only [DataW.weights, Try.underlying61, List.mem_cons]; exact Or.inl rfl)
      rw [by9] at h1
      have h2 := reachBytes_lt
      simp at h1
      omega
    have each : ∀ i, i < n → ∃ s : ByteArray, W.cell? (x.add i) = some (.string s) ∧ s.size ≤ maxLen := fun i hi => by
      obtain ⟨cs, hc, ht⟩ := hr i (by omega)
      rw [c9] at hc
      obtain ⟨_, hcl, hce⟩ := World.cells?_some hc
      obtain ⟨q, e0, _, hs⟩ := DataW.trod_string Try.underlying9 ht
      subst e0
      have g0 := hce 0 (by omega)
      rw [Deep.add_add] at g0
      exact ⟨q, by simpa using g0, hs⟩
    haveI : Inhabited ByteArray := ⟨emp⟩
    obtain ⟨S, hS⟩ := Deep.choose_lt each
    refine ⟨S, hl, hcap, fun h0 => ?_⟩
    obtain ⟨b, o, s⟩ := x
    have h00 := (hS 0 h0).1
    have hsp : s = none := by simpa [Addr.add] using World.cell?_spot h00
    subst hsp
    refine ⟨b, o, rfl, by simpa [Addr.add] using cell_lt h00, fun i hi => ?_⟩
    have := hS i hi
    rwa [add_none] at this
theorem ints_open {a : Option Addr} {n c : Nat} {x : DataW H × List MemPlace} (hf : DataW.trod enc Try.prog W 0 (fun _ => true) true fuel 62 [.slice a n c] = some x) (hsz : ∀ k ∈ x.1.weights Try.prog 62, k ≤ reachBytes) : ∃ S, SrcN W a n c S := by
  rcases Deep.open_slice Try.underlying62 hf with ⟨hcs, _⟩ | ⟨x, l, c', m, nn, D, Pl, hcs, _, hl, hm, hmm, hx, hr⟩
  · simp at hcs
    obtain ⟨rfl, rfl, rfl⟩ := hcs
    exact ⟨fun _ => 0, Nat.le_refl _, Nat.zero_le _, fun h => by omega⟩
  · simp at hcs
    obtain ⟨rfl, rfl, rfl⟩ := hcs
    simp only [if_true] at hmm
    subst hmm
    subst hx
    have hcap : m ≤ 17592186044416 := by
      have h1 := hsz _ (show _ ∈ (DataW.slice _ _).weights Try.prog 62 by simp only [DataW.weights, Try.underlying62, List.mem_cons]; exact Or.inl rfl)
      rw [by3] at h1
      have h2 := reachBytes_lt
      simp at h1
      omega
    have each : ∀ i, i < n → ∃ s : Int, W.cell? (x.add i) = some (.int .i64 s) ∧ (-9223372036854775808 ≤ s ∧ s ≤ 9223372036854775807) := fun i hi => by
      obtain ⟨cs, hc, ht⟩ := hr i (by omega)
      rw [c3] at hc
      obtain ⟨_, hcl, hce⟩ := World.cells?_some hc
      obtain ⟨q, e0, _, hs⟩ := DataW.trod_int Try.underlying3 ht
      subst e0
      have g0 := hce 0 (by omega)
      rw [Deep.add_add] at g0
      exact ⟨q, by simpa using g0, wf_i64 hs⟩
    obtain ⟨S, hS⟩ := Deep.choose_lt each
    refine ⟨S, hl, hcap, fun h0 => ?_⟩
    obtain ⟨b, o, s⟩ := x
    have h00 := (hS 0 h0).1
    have hsp : s = none := by simpa [Addr.add] using World.cell?_spot h00
    subst hsp
    refine ⟨b, o, rfl, by simpa [Addr.add] using cell_lt h00, fun i hi => ?_⟩
    have := hS i hi
    rwa [add_none] at this

end Go.Proofs.Ytjojhnkibgkleaa
