/-
  The reference's Parse, whatever its road; conditions as each theorem has them.
-/
import Derived.Test.YtiejandeoopiiaaGreatDoorTRa1
import Derived.Test.YtiejandeoopiiaaGreatDoorTRa2
import Derived.Test.YtiejandeoopiiaaGreatDoorTRd1
import Derived.Test.YtiejandeoopiiaaGreatDoorTRd2
set_option linter.unusedSimpArgs false
set_option linter.unusedVariables false
namespace Go.Proofs.YtiejandeoopiiaaGreatDoor
open Go.RowKit
theorem rParse_at (t : ByteArray) (w : World) (hm : t.size ≤ 2000000) (hV : Vars w) (hE : Errs w) : Calls Tryz.prog 18 #[.string t] w fun e w' => e = .returned (.tuple #[.agg (ruC (prsR (byt t))).toArray, .int .i64 (prsE (byt t) : Nat)]) ∧ Below w.heap.size w w' := by
  rcases rd_some (byt t) with (h | h) | (h | h)
  · exact rParse_a1 t w hm hV hE h
  · exact rParse_a2 t w hm hV hE h
  · exact rParse_d1 t w hm hV hE h
  · exact rParse_d2 t w hm hV hE h
end Go.Proofs.YtiejandeoopiiaaGreatDoor
