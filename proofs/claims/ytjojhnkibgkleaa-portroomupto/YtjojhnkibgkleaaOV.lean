/-
  A port in which one client is open, in numbers; texts put together; conditions as each theorem has them.
-/
import Derived.Test.YtjojhnkibgkleaaT2
import Derived.Test.YtjojhnkibgkleaaIV
set_option linter.unusedSimpArgs false
set_option linter.unusedVariables false
set_option maxRecDepth 8000
namespace Go.Proofs.Ytjojhnkibgkleaa
open Go.RowKit Go.Lib

theorem bi_append (a b : ByteArray) : bi (a ++ b) = bi a ++ bi b := by
  simp [bi, ByteArray.data_append]
theorem bi_inj {a b : ByteArray} (h : bi a = bi b) : a = b := by rw [← str_bi a, ← str_bi b, h]
theorem list_eq (a b : ByteArray) : (a.toList == b.toList) = decide (a = b) := by
  rw [Bool.eq_iff_iff]
  simp only [beq_iff_eq, decide_eq_true_eq]
  constructor
  · intro h
    rw [Lib.toList_data, Lib.toList_data] at h
    exact ByteArray.ext (Array.toList_inj.1 h)
  · rintro rfl; rfl
theorem begins_at (I O : ByteArray) (q : List Int) (h : bi I = bi O ++ q) (hI : I.size ≤ 9223372036854775807) (w : World) : Calls Try.prog 25 #[.string I, .string O] w fun e w' => e = .returned (.bool true) ∧ w = w' := by
  have hl : I.size = O.size + q.length := by rw [← bi_length I, h, List.length_append, bi_length]
  have hle : (O.size : Int) ≤ (I.size : Int) := by omega
  have he : I.extract 0 O.size = O := bi_inj (by rw [bi_extract, h, List.take_left' (bi_length O)])
  have hd : decide ((I.size : Int) ≥ (O.size : Int)) = true := decide_eq_true hle
  clear h hl
  go_enter Try.func25, Try.ntmps25
  go_wp2
  go_ret
  simp [he]
def OrdP (sz : Nat) (q : List Int) (oth : Bool) : Pt := ⟨2, sz, [z 0, ⟨q, 1, 0, true, oth, false⟩, z 0], [], []⟩
theorem ord_open (sz : Nat) : evP (newP 2 1 sz) 1 1 0 emp = OrdP sz [] false := by rfl
theorem ord_data (sz : Nat) (q : List Int) (d : ByteArray) : evP (OrdP sz q false) 2 1 0 d = OrdP sz (q ++ (bi d).take (min d.size (sz - q.length))) false ∧ evN (OrdP sz q false) 2 1 0 d = min d.size (sz - q.length) ∧ evC (OrdP sz q false) 2 1 0 d = 0 := ⟨rfl, rfl, rfl⟩
theorem ord_fin (sz : Nat) (q : List Int) : evP (OrdP sz q false) 3 1 0 emp = OrdP sz q true := rfl
theorem ord_late (sz : Nat) (q : List Int) (d : ByteArray) : evP (OrdP sz q true) 2 1 0 d = OrdP sz q true ∧ evN (OrdP sz q true) 2 1 0 d = 0 ∧ evC (OrdP sz q true) 2 1 0 d = 150 := ⟨rfl, rfl, rfl⟩
theorem ord_take (sz : Nat) (q : List Int) (o : Bool) (k : Int) : takeP (OrdP sz q o) 1 k = OrdP sz (q.drop (min k.toNat q.length)) o ∧ takeL (OrdP sz q o) 1 k = q.take (min k.toNat q.length) := ⟨rfl, rfl⟩
theorem ord_end (sz : Nat) (q : List Int) (o : Bool) : endN (OrdP sz q o) 1 = (o && decide (q.length = 0)) := by
  cases o <;> rfl

end Go.Proofs.Ytjojhnkibgkleaa
