/-
  SlabPlays: the walk for all arguments.
-/
import Derived.Test.YtnikjcinleghbaaDoorPlaysW
import Derived.Test.YtnikjcinleghbaaDoorPlaysB
set_option linter.unusedSimpArgs false
set_option linter.unusedVariables false
namespace Go.Proofs.YtnikjcinleghbaaDoor
open Go.RowKit

theorem plays_walk (a0 a1 : Int) (a2 : Option Addr) (len2 cap2 : Nat) (w : World) (hT : Tab w) (hA : IsActs w a2 len2 cap2) :
    Calls Tryd.prog 3 #[.int .i64 a0, .int .i64 a1, .slice a2 len2 cap2] w fun e w' => e = .returned (.bool true) ∧ Below w.heap.size w w' := by
  by_cases h : a0 < 0 ∨ 4096 < a0 ∨ a1 < 0 ∨ 65536 < a1
  · exact plays_bad a0 a1 _ w h
  · obtain ⟨b, rfl⟩ := Int.eq_ofNat_of_zero_le (show 0 ≤ a0 by omega)
    obtain ⟨s, rfl⟩ := Int.eq_ofNat_of_zero_le (show 0 ≤ a1 by omega)
    by_cases hg : 4194304 < b * s
    · exact plays_great b s _ w (by omega) (by omega) hg
    · exact plays_good b s (by omega) (by omega) (by omega) a2 len2 cap2 w hT hA

end Go.Proofs.YtnikjcinleghbaaDoor
