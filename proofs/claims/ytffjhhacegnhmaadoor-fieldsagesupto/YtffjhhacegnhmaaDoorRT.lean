/-
  What the reference writes: plain, Begins, put; What the reference writes: plain, Begins, PutRequest, PutReply; conditions as each theorem has them.
-/
import Derived.Test.YtffjhhacegnhmaaDoorV
import Derived.Test.YtffjhhacegnhmaaDoorHN
import Derived.Test.YtffjhhacegnhmaaDoorPR
set_option linter.unusedSimpArgs false
set_option linter.unusedVariables false
namespace Go.Proofs.YtffjhhacegnhmaaDoor
open Go.RowKit

end Go.Proofs.YtffjhhacegnhmaaDoor

set_option linter.unusedSimpArgs false
set_option linter.unusedVariables false
namespace Go.Proofs.YtffjhhacegnhmaaDoor
open Go.RowKit

set_option maxHeartbeats 2000000 in
theorem rbegins_at (t d : ByteArray) (w : World) (hm : t.size ≤ maxLen) (hd : d.size ≤ 100) : Calls Tryd.prog 30 #[.string t, .string d] w fun e w' => e = .returned (.bool (decide ((byt t).take d.size = byt d))) ∧ w = w' := by
  unfold maxLen at hm
  have heq : ((t.extract 0 d.size).toList == d.toList) = decide ((byt t).take d.size = byt d) := by
    rw [eq_byt, byt_take]
  by_cases h : d.size ≤ t.size
  · have q : decide ((d.size : Int) ≤ (t.size : Int)) = true := decide_eq_true (by omega)
    have q' : decide (d.size ≤ t.size) = true := decide_eq_true h
    have HQ := hide heq
    go_enter Tryd.func30, Tryd.ntmps30
    go_wp2_with fail
    go_ret
    exact ⟨rfl, rfl⟩
  · have q : decide ((d.size : Int) ≤ (t.size : Int)) = false := decide_eq_false (by omega)
    have q' : decide (d.size ≤ t.size) = false := decide_eq_false h
    have HR : Hid (decide ((byt t).take d.size = byt d) = false) := by
      apply decide_eq_false
      intro e
      have := congrArg List.length e
      rw [List.length_take, byt_length, byt_length] at this
      omega
    clear heq
    go_enter Tryd.func30, Tryd.ntmps30
    go_wp2_with fail
    go_ret
    exact ⟨by rw [HR.out]; rfl, rfl⟩
theorem head_take (l : List Nat) : decide (l.take 1 = [47]) = decide (l.head? = some 47) := by
  cases l with
  | nil => rfl
  | cons c r => simp
theorem putQ_tok {m D p : List Nat} {fs : List Fd} (h : tok m = false) : putQ m D p fs = ([], 2) := by
  unfold putQ
  split
  · rfl
  · rw [if_neg (by rw [h]; simp)]
theorem putQ_none {m D p : List Nat} {fs : List Fd} (h : tgt m D p = none) : putQ m D p fs = ([], 2) := by
  unfold putQ; rw [h]
theorem putQ_some {m D p t : List Nat} {fs : List Fd} (h : tgt m D p = some t) (hm : tok m = true) : putQ m D p fs = put (m ++ 32 :: (t ++ 32 :: v11)) fs := by
  unfold putQ; rw [h]; simp only [hm, if_true]
end Go.Proofs.YtffjhhacegnhmaaDoor
