/-
  A port with one client, its room and what went out of it, in numbers; conditions as each theorem has them.
-/
import Derived.Test.YtjojhnkibgkleaaOV
set_option linter.unusedSimpArgs false
set_option linter.unusedVariables false
set_option maxRecDepth 8000
namespace Go.Proofs.Ytjojhnkibgkleaa
open Go.RowKit Go.Lib

def RoP (r : Int) (o : Bool) (ou : List Ot) : Pt := ⟨1, 8, [⟨[], 1, r, true, false, o⟩], [], ou⟩
theorem ro_open : evP (newP 1 0 8) 1 0 0 emp = RoP 0 false [] := rfl
theorem ro_room (r N : Int) (o : Bool) (ou : List Ot) (hN : 0 ≤ N) (h : r + N ≤ 1099511627776) : evP (RoP r o ou) 5 0 N emp = RoP (r + N) o ou := by
  have hf : isF (RoP r o ou) 5 0 N emp = true := by
    unfold isF
    rw [if_neg (by decide), if_neg (by decide), if_pos rfl, decide_eq_true hN]
    rfl
  rw [(evP_hap hf (by decide) rfl).1]
  have : hap 8 (at0 [(⟨[], 1, r, true, false, o⟩ : En)] 0) 5 N emp = ⟨[], 1, r + N, true, false, o⟩ := by
    have hm : min N (1099511627776 - r) = N := by omega
    show (⟨[], 1, r + min N (1099511627776 - r), true, false, o⟩ : En) = _
    rw [hm]
  show (⟨1, 8, [(⟨[], 1, r, true, false, o⟩ : En)].set 0 (hap 8 (at0 [(⟨[], 1, r, true, false, o⟩ : En)] 0) 5 N emp), [], ou⟩ : Pt) = _
  rw [this]
  rfl
theorem ro_fin (r : Int) (ou : List Ot) : finC (RoP r false ou) 0 = 0 ∧ finP (RoP r false ou) 0 = RoP r true (ou ++ [ot 3 0 emp]) ∧ finC (RoP r true ou) 0 = 150 ∧ finP (RoP r true ou) 0 = RoP r true ou := ⟨rfl, rfl, rfl, rfl⟩
theorem ro_sendT (r : Int) (o : Bool) (ou : List Ot) (n : Nat) : sendT (RoP r o ou) 0 n = if o then 0 else min n r.toNat := by
  cases o
  · rfl
  · show min n 0 = 0
    omega
theorem ro_sendP (r : Int) (o : Bool) (ou : List Ot) (l : List Int) (t : Nat) (ht : sendT (RoP r o ou) 0 l.length = t) : sendP (RoP r o ou) 0 l = if t = 0 then RoP r o ou else RoP (r - t) o (ou ++ [ot 2 0 (strOfNums (l.take t))]) := by
  unfold sendP
  rw [ht]
  rfl
def tolB (l : List Ot) : List Int := l.flatMap fun o => if o.k = 2 then bi o.d else []
theorem tolB_data (l : List Ot) (d : ByteArray) : tolB (l ++ [ot 2 0 d]) = tolB l ++ bi d := by simp [tolB, ot]
theorem tolB_fin (l : List Ot) : tolB (l ++ [ot 3 0 emp]) = tolB l := by simp [tolB, ot]
theorem tolB_append (l m : List Ot) : tolB (l ++ m) = tolB l ++ tolB m := by simp [tolB]
theorem tolB_le (l : List Ot) (j : Nat) : (tolB (l.take j)).length ≤ (tolB l).length := by
  have h := tolB_append (l.take j) (l.drop j)
  rw [List.take_append_drop] at h
  rw [h, List.length_append]
  omega
theorem tolB_take (l : List Ot) (k : Nat) (h : k < l.length) : tolB (l.take (k + 1)) = tolB (l.take k) ++ (if (l.getD k noOt).k = 2 then bi (l.getD k noOt).d else []) := by
  unfold tolB
  rw [List.take_succ_eq_append_getElem h, List.flatMap_append]
  congr 1
  simp [List.getD, h]
theorem bytesW_ty (w : World) (t : ByteArray) (n : Nat) : ∀ g o, (some ⟨w.heap.size, 0, none⟩ : Option Addr) = some ⟨g, o, none⟩ → 0 < n → ∃ cs f, (Lib.bytesWorld w 5 t).heap[g]? = some (.cells cs 5 f) := fun g o e _ => by
  simp at e
  rw [← e.1]
  exact ⟨_, _, Lib.bytesWorld_at_new w 5 t⟩
theorem SrcO.cells {w : World} {a : Option Addr} {n c : Nat} {l : List Ot} (h : SrcO w a n c l) {i : Nat} (hi : i < n) : ∃ b o, a = some ⟨b, o, none⟩ ∧ w.cell? ⟨b, o + i * 10 + 1, none⟩ = some (.int .i64 (l.getD i noOt).k) ∧ w.cell? ⟨b, o + i * 10 + 3, none⟩ = some (.string (l.getD i noOt).d) := by
  obtain ⟨b, o, e, _, hr⟩ := h.at_ hi
  exact ⟨b, o, e, hr 1 _ rfl, hr 3 _ rfl⟩

/-- What a send makes of the port, and that what went out is told then. -/
theorem ro_sent {B : Nat} {w : World} {b : Nat} {g : Int} {I T d : ByteArray} {o : Bool} {ou : List Ot} {t k : Nat} (h : PB B w b (sendP (RoP (g - I.size) o ou) 0 (bi d))) (ht : sendT (RoP (g - I.size) o ou) 0 d.size = t) (hT : bi T = (bi d).take t) (hTs : T.size = t) (htold : bi I = tolB ou) (hm : ou.length ≤ k) :
    ∃ ou2, PB B w b (RoP (g - (I ++ T).size) o ou2) ∧ bi (I ++ T) = tolB ou2 ∧ ou2.length ≤ k + 1 := by
  rw [ro_sendP _ _ _ _ t (by rw [bi_length]; exact ht)] at h
  by_cases h0 : t = 0
  · rw [if_pos h0] at h
    refine ⟨ou, ?_, ?_, by omega⟩
    · rw [ByteArray.size_append, hTs, h0, Nat.add_zero]; exact h
    · rw [bi_append, hT, h0, List.take_zero, List.append_nil]; exact htold
  · rw [if_neg h0] at h
    have e : strOfNums ((bi d).take t) = T := by rw [← hT, str_bi]
    rw [e] at h
    refine ⟨ou ++ [ot 2 0 T], ?_, ?_, by rw [List.length_append]; simp; omega⟩
    · rw [ByteArray.size_append, hTs]
      have : g - ((I.size + t : Nat) : Int) = g - (I.size : Int) - (t : Int) := by omega
      rw [this]
      exact h
    · rw [tolB_data, bi_append, htold]

end Go.Proofs.Ytjojhnkibgkleaa
