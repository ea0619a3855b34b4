/-
  HostPrints' walk as its frame takes it; conditions as the theorem has them.
-/
import Derived.Test.YtfjglcihlkmpnaaDoorPW
import Derived.Test.YtfjglcihlkmpnaaDoorT2
set_option linter.unusedSimpArgs false
set_option linter.unusedVariables false
namespace Go.Proofs.YtfjglcihlkmpnaaDoor
open Go.RowKit

theorem prints_walk2 (a : Ad) (n : ByteArray) (p : Int) (w : World) (h : Tabs w ∧ Pow w) (ha : a.ok) (hm : n.size ≤ maxLen) (_ : (Lit.int .i64 p).wf = true) : Calls Tryd.prog 5 #[deV a n p] w fun e w' => e = .returned (.bool true) ∧ Below w.heap.size w w' :=
  prints_walk a n p w h.1 h.2 ha hm
end Go.Proofs.YtfjglcihlkmpnaaDoor
