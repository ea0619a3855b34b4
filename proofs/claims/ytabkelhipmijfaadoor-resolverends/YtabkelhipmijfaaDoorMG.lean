/-
  The reader of messages: aliases; conditions as each theorem has them.
-/
import Derived.Test.YtabkelhipmijfaaDoorMF
set_option linter.unusedSimpArgs false
set_option linter.unusedVariables false
namespace Go.Proofs.YtabkelhipmijfaaDoor
open Go.RowKit
/-- Where the reader stands behind an alias. -/
def alE (b : List Nat) (da l : Nat) (p : Nat) : Sr := if (nam b da).2.1 = da + l then (p, (nam b da).2.2) else stp da 6 (p, (nam b da).2.2)
end Go.Proofs.YtabkelhipmijfaaDoor
