/-
  Numbers made small, idle ports in numbers; conditions as each theorem has them.
-/
import Derived.Test.YtjojhnkibgkleaaT
set_option linter.unusedSimpArgs false
set_option linter.unusedVariables false
set_option maxRecDepth 8000
namespace Go.Proofs.Ytjojhnkibgkleaa
open Go.RowKit Go.Lib

theorem wrap_small (n : Int) (m : Nat) (hm : 0 < m) (hm1 : m ≤ 65536) : ∃ k : Nat, k < m ∧ wrap64 ((IntKind.u64.wrap n).tmod m) = (k : Int) := by
  have hu : 0 ≤ IntKind.u64.wrap n := by
    have : IntKind.u64.wrap n = n % 18446744073709551616 := by simp [IntKind.wrap, IntKind.signed, IntKind.bits]
    rw [this]
    exact Int.emod_nonneg _ (by omega)
  generalize IntKind.u64.wrap n = u at hu
  rw [Int.tmod_eq_emod_of_nonneg hu]
  have h1 := Int.emod_nonneg u (show (m : Int) ≠ 0 by omega)
  have h2 := Int.emod_lt_of_pos u (show (0 : Int) < m by omega)
  refine ⟨(u % m).toNat, by omega, ?_⟩
  generalize u % (m : Int) = x at h1 h2
  rw [Int.toNat_of_nonneg h1]
  unfold wrap64
  omega
theorem among (n : Int) (m : Nat) (hm : 0 < m) (hm1 : m ≤ 65536) (w : World) : Calls Try.prog 11 #[.int .i64 n, .int .i64 m] w fun e w' => ∃ k : Nat, k < m ∧ e = .returned (.int .i64 k) ∧ w = w' := by
  go_enter Try.func11, Try.ntmps11
  go_wp2
  go_ret
  obtain ⟨k, hk, e⟩ := wrap_small n m hm hm1
  exact ⟨k, hk, by rw [← e]; rfl, rfl⟩
theorem gram_none {B : Nat} {w : World} {b : Nat} {P : Pt} (h : PB B w b P) (hg : P.gr.length = 0) : Calls Try.prog 34 #[.pointer (some ⟨b, 0, none⟩)] w fun x w' => x = .returned (.tuple #[.slice none 0 0, .int .i64 5]) ∧ w = w' := by
  obtain ⟨S, ⟨eb, gv, ov, R, G, h⟩, hS⟩ := h
  obtain ⟨h0, h1, h2, h3, h4⟩ := h.cells
  obtain ⟨ga, gc, hgv⟩ := own_shape h.gr
  rw [hg] at hgv
  subst hgv
  have HM := hide (pMade_at b true w h0)
  clear h
  go_enter Try.func34, Try.ntmps34
  go_wp2_with fail
  refine HM.out.mono ?_
  rintro x w1 ⟨rfl, rfl⟩
  go_wp2_with fail
  go_ret2
  exact ⟨rfl, rfl⟩
def opn (c : Nat) (k e : Int) : Bool := decide (k = 1) && inr_ 0 c e
def bxx (n : Nat) (k e : Int) (d : ByteArray) : Bool := decide (k = 8) && decide (e = n) && decide (d.size ≤ 512)
theorem newP_len (c s sz : Nat) : (newP c s sz).L.length = c + s := by simp [newP]
theorem newP_at (c s sz i : Nat) : at0 (newP c s sz).L i = z 0 := at0_rep _ _
theorem idle_yes (c s sz : Nat) (k e N : Int) (d : ByteArray) (h : opn c k e = true ∨ bxx (c + s) k e d = true) : evN (newP c s sz) k e N d = 0 ∧ evC (newP c s sz) k e N d = 0 := by
  rcases h with h | h
  · unfold opn at h
    simp only [Bool.and_eq_true, decide_eq_true_eq] at h
    obtain ⟨rfl, h⟩ := h
    have hf : isF (newP c s sz) 1 e N d = true := by unfold isF cli; rw [if_pos rfl]; exact h
    obtain ⟨h1, h2, h3⟩ := evP_hap hf (by decide) (by rw [newP_at]; rfl)
    exact ⟨by rw [h3]; rfl, h2⟩
  · unfold bxx at h
    simp only [Bool.and_eq_true, decide_eq_true_eq] at h
    obtain ⟨⟨rfl, rfl⟩, h⟩ := h
    have hf : isF (newP c s sz) 8 (((c + s : Nat) : Int)) N d = true := by simp [isF, newP_len, h]
    obtain ⟨h1, h2, h3⟩ := evP_8 hf
    exact ⟨h3, by rw [h2]; rfl⟩
theorem refu_z {k : Int} (h : k ≠ 1) (h8 : (k = 1 ∨ k = 3 ∨ k = 4 ∨ k = 5 ∨ k = 6 ∨ k = 7) ∨ k = 2 ∨ k = 8) (h9 : k ≠ 8) : refu (z 0) k = 150 := by
  rcases h8 with (h1 | h1 | h1 | h1 | h1 | h1) | h1 | h1
  · exact absurd h1 h
  all_goals first | exact absurd h1 h9 | (subst h1; rfl)
theorem idle_no (c s sz : Nat) (k e N : Int) (d : ByteArray) (h1 : opn c k e = false) (h2 : bxx (c + s) k e d = false) : evN (newP c s sz) k e N d = 0 ∧ evC (newP c s sz) k e N d ≠ 0 ∧ evP (newP c s sz) k e N d = newP c s sz := by
  cases hf : isF (newP c s sz) k e N d
  · obtain ⟨e1, e2, e3⟩ := evP_fail hf
    exact ⟨e3, by rw [e2]; decide, e1⟩
  · have hk1 : k ≠ 1 := by
      rintro rfl
      unfold isF cli at hf
      rw [if_pos rfl] at hf
      simp only [opn, decide_true, Bool.true_and] at h1
      rw [show (newP c s sz).c = c from rfl, h1] at hf
      cases hf
    have hk8 : k ≠ 8 := by
      rintro rfl
      simp only [bxx, decide_true, Bool.true_and] at h2
      simp [isF, newP_len] at hf
      simp [hf] at h2
    obtain ⟨e1, e2, e3⟩ := evP_ref hf hk8 (c := 150) (by rw [newP_at]; exact refu_z hk1 (isF_kinds hf) hk8) (by decide)
    exact ⟨e3, by rw [e2]; decide, e1⟩
theorem idle_st (c s sz : Nat) (i : Nat) : stN (newP c s sz) i = 0 ∧ qN (newP c s sz) i = [] ∧ roomN (newP c s sz) i = 0 := by
  unfold stN qN roomN
  rw [Int.toNat_natCast, newP_at]
  cases str_ (newP c s sz) i <;> exact ⟨rfl, rfl, rfl⟩
theorem idle_acc (c s sz : Nat) : accN (newP c s sz) = 0 ∧ accC (newP c s sz) = 5 ∧ accP (newP c s sz) = newP c s sz := by
  have : nextA (newP c s sz) = (newP c s sz).L.length := fnd_eq (by omega) (by omega) (fun j _ _ => by rw [newP_at]; rfl) (fun h => by omega)
  unfold accN accC accP
  rw [this]
  simp
theorem idle_used (c s sz : Nat) : usedN (newP c s sz) = 0 := by
  unfold usedN newP
  simp [List.map_replicate, z]

end Go.Proofs.Ytjojhnkibgkleaa
