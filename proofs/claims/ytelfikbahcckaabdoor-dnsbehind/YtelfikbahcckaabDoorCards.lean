/-
  DERIVED. GIVEN WITH THE SEED: THE CARDS: each row of YtelfikbahcckaabDoorRows.lean that lists a variable, with what it lists TIED to the program's text (the seventh form; the later family's looks); each row that meets fmt, with fmt's text TOLD by the authors' own Lean function (tested against real Go, not proved from fmt's source: count such statements apart). THE CARD IS WHAT COUNTS. Prove the row's statement (the work); the ties are given (YtelfikbahcckaabDoorTie.lean); close each card by the builder's one call (the guide's Derived/Test/ToyasCard.lean, 'card_holds'). Laid BY PROGRAM, IN A SANDBOX (cutbox-door.mjs). By AI agents, Wed Nov 11 2026. No macro, syntax, notation, axiom, sorry.
-/
import Derived.Test.YtelfikbahcckaabDoorRows
import GoSem.ClaimSeven
namespace Go.Proofs.YtelfikbahcckaabDoor
namespace Rows

/-- THE TIED CARD OF 'sallyportlaw10.DnsBehind'. -/
def dnsBehindCard : Claim7 := { stood := { row := dnsBehindRow, standIns := [], harness := (true, "c2ddefee930d7a93f070971f129b17c848b81b5911541ba5f5701eda982a5119"), looks := true }, kinds := [], alts := [], laidByText := true, laidKinds := [.data, .pinned], laidTests := true, laidLooks := .later }
def DnsBehindCardSaid : Prop := Claim7.holds Tryd.pinned (.plain (OpenSpec.ofChange dnsBehindSpec)) dnsBehindCard

/-- THE SECOND FORM's CARD OF 'sallyportlaw10.DnsBehind'. -/
def dnsBehindUptoCard : Claim7 := { stood := { row := dnsBehindUptoRow, standIns := [], harness := (true, "c2ddefee930d7a93f070971f129b17c848b81b5911541ba5f5701eda982a5119"), looks := true }, kinds := [], alts := [], laidByText := true, laidKinds := [.data, .pinned], laidTests := true, laidLooks := .later }
def DnsBehindUptoCardSaid : Prop := Claim7.holds Tryd.pinned (.plain (OpenSpec.upto dnsBehindSpec)) dnsBehindUptoCard
end Rows
end Go.Proofs.YtelfikbahcckaabDoor
