/-
  DERIVED. GIVEN WITH THE SEED: THE CARDS: each row of YtiejandeoopiiaaGreatDoorRows.lean that lists a variable, with what it lists TIED to the program's text (the seventh form; the later family's looks); each row that meets fmt, with fmt's text TOLD by the authors' own Lean function (tested against real Go, not proved from fmt's source: count such statements apart). THE CARD IS WHAT COUNTS. Prove the row's statement (the work); the ties are given (YtiejandeoopiiaaGreatDoorTie.lean); close each card by the builder's one call (the guide's Derived/Test/ToyasCard.lean, 'card_holds'). Laid BY PROGRAM, IN A SANDBOX (cutbox-door.mjs). By AI agents, Wed Nov 11 2026. No macro, syntax, notation, axiom, sorry.
-/
import Derived.Test.YtiejandeoopiiaaGreatDoorRows
import GoSem.ClaimSeven
namespace Go.Proofs.YtiejandeoopiiaaGreatDoor
namespace Rows

/-- THE TIED CARD OF 'sallyportlaw12.PolicyMays'. -/
def policyMaysCard : Claim7 := { stood := { row := policyMaysRow, standIns := [], harness := (true, "b7fdadcdd9d3bb6a2dabdf418527a9ef7f798203f36468f24563c1a71de0a4f0"), looks := true }, kinds := [], alts := [], laidByText := true, laidKinds := [.data, .data, .data, .data, .sentinel, .sentinel, .pinned], laidTests := true, laidLooks := .later }
def PolicyMaysCardSaid : Prop := Claim7.holds Tryz.pinned (.plain (OpenSpec.ofChange policyMaysSpec)) policyMaysCard

/-- THE TIED CARD OF 'sallyportlaw12.PolicyTexts'. -/
def policyTextsCard : Claim7 := { stood := { row := policyTextsRow, standIns := [], harness := (true, "b7fdadcdd9d3bb6a2dabdf418527a9ef7f798203f36468f24563c1a71de0a4f0"), looks := true }, kinds := [], alts := [], laidByText := true, laidKinds := [.data, .data, .data, .data, .sentinel, .sentinel, .pinned], laidTests := true, laidLooks := .later }
def PolicyTextsCardSaid : Prop := Claim7.holds Tryz.pinned (.plain (OpenSpec.ofChange policyTextsSpec)) policyTextsCard

/-- THE TIED CARD OF 'sallyportlaw12.PolicyPuts'. -/
def policyPutsCard : Claim7 := { stood := { row := policyPutsRow, standIns := [], harness := (true, "b7fdadcdd9d3bb6a2dabdf418527a9ef7f798203f36468f24563c1a71de0a4f0"), looks := true }, kinds := [], alts := [], laidByText := true, laidKinds := [.data, .data, .data, .data, .sentinel, .sentinel, .pinned], laidTests := true, laidLooks := .later }
def PolicyPutsCardSaid : Prop := Claim7.holds Tryz.pinned (.plain (OpenSpec.ofChange policyPutsSpec)) policyPutsCard

/-- THE SECOND FORM's CARD OF 'sallyportlaw12.PolicyMays'. -/
def policyMaysUptoCard : Claim7 := { stood := { row := policyMaysUptoRow, standIns := [], harness := (true, "b7fdadcdd9d3bb6a2dabdf418527a9ef7f798203f36468f24563c1a71de0a4f0"), looks := true }, kinds := [], alts := [], laidByText := true, laidKinds := [.data, .data, .data, .data, .sentinel, .sentinel, .pinned], laidTests := true, laidLooks := .later }
def PolicyMaysUptoCardSaid : Prop := Claim7.holds Tryz.pinned (.plain (OpenSpec.upto policyMaysSpec)) policyMaysUptoCard

/-- THE SECOND FORM's CARD OF 'sallyportlaw12.PolicyTexts'. -/
def policyTextsUptoCard : Claim7 := { stood := { row := policyTextsUptoRow, standIns := [], harness := (true, "b7fdadcdd9d3bb6a2dabdf418527a9ef7f798203f36468f24563c1a71de0a4f0"), looks := true }, kinds := [], alts := [], laidByText := true, laidKinds := [.data, .data, .data, .data, .sentinel, .sentinel, .pinned], laidTests := true, laidLooks := .later }
def PolicyTextsUptoCardSaid : Prop := Claim7.holds Tryz.pinned (.plain (OpenSpec.upto policyTextsSpec)) policyTextsUptoCard

/-- THE SECOND FORM's CARD OF 'sallyportlaw12.PolicyPuts'. -/
def policyPutsUptoCard : Claim7 := { stood := { row := policyPutsUptoRow, standIns := [], harness := (true, "b7fdadcdd9d3bb6a2dabdf418527a9ef7f798203f36468f24563c1a71de0a4f0"), looks := true }, kinds := [], alts := [], laidByText := true, laidKinds := [.data, .data, .data, .data, .sentinel, .sentinel, .pinned], laidTests := true, laidLooks := .later }
def PolicyPutsUptoCardSaid : Prop := Claim7.holds Tryz.pinned (.plain (OpenSpec.upto policyPutsSpec)) policyPutsUptoCard
end Rows
end Go.Proofs.YtiejandeoopiiaaGreatDoor
