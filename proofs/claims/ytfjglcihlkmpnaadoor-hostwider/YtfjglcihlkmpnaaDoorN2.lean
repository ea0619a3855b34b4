/-
  HostNets' and HostWider's walks in the frame's order; conditions as each theorem has them.
-/
import Derived.Test.YtfjglcihlkmpnaaDoorN1
set_option linter.unusedVariables false
namespace Go.Proofs.YtfjglcihlkmpnaaDoor
open Go.RowKit
theorem nets_all (a b : Ad) (k : Int) (nm sf : ByteArray) (w : World) (hT : Tabs w) (ha : a.ok) (hb : b.ok) (hn : nm.size ≤ maxLen) (_ : nm.size ≤ 140737488355328) (_ : sf.size ≤ maxLen) (hs : sf.size ≤ 140737488355328) : Calls Tryd.prog 6 #[adV a, adV b, .int .i64 k, .string nm, .string sf] w fun e w' => e = .returned (.bool true) ∧ Below w.heap.size w w' := nets_walk a b k nm sf w hT ha hb hn hs
theorem wider_all (a b : Ad) (k f : Int) (nm x y : ByteArray) (w : World) (hT : Tabs w) (ha : a.ok) (hb : b.ok) (hn : nm.size ≤ maxLen) (_ : nm.size ≤ 140737488355328) (hx : x.size ≤ maxLen) (_ : x.size ≤ 140737488355328) (hy : y.size ≤ maxLen) (_ : y.size ≤ 140737488355328) : Calls Tryd.prog 8 #[adV a, adV b, .int .i64 k, .int .i64 f, .string nm, .string x, .string y] w fun e w' => e = .returned (.bool true) ∧ Below w.heap.size w w' := wider_walk a b k f nm x y w hT ha hb hn hx hy
end Go.Proofs.YtfjglcihlkmpnaaDoor
