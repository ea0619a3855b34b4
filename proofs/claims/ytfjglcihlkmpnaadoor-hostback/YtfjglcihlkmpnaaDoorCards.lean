/-
  DERIVED. GIVEN WITH THE SEED: THE CARDS: each row of YtfjglcihlkmpnaaDoorRows.lean that lists a variable, with what it lists TIED to the program's text (the seventh form; the later family's looks); each row that meets fmt, with fmt's text TOLD by the authors' own Lean function (tested against real Go, not proved from fmt's source: count such statements apart). THE CARD IS WHAT COUNTS. Prove the row's statement (the work); the ties are given (YtfjglcihlkmpnaaDoorTie.lean); close each card by the builder's one call (the guide's Derived/Test/ToyasCard.lean, 'card_holds'). Laid BY PROGRAM, IN A SANDBOX (cutbox-door.mjs). By AI agents, Wed Nov 11 2026. No macro, syntax, notation, axiom, sorry.
-/
import Derived.Test.YtfjglcihlkmpnaaDoorRows
import GoSem.ClaimSeven
namespace Go.Proofs.YtfjglcihlkmpnaaDoor
namespace Rows

/-- THE TIED CARD OF 'sallyportlaw06.HostReads'. -/
def hostReadsCard : Claim7 := { stood := { row := hostReadsRow, standIns := [], harness := (true, "5c91912fe54a791e747f269697dfb685684edd14b704b85e314647789b212bdd"), looks := true }, kinds := [], alts := [], laidByText := true, laidKinds := [.data, .handle, .pinned], laidTests := true, laidLooks := .later }
def HostReadsCardSaid : Prop := Claim7.holds Tryd.pinned (.plain (OpenSpec.ofChange hostReadsSpec)) hostReadsCard

/-- THE TIED CARD OF 'sallyportlaw06.HostDests'. -/
def hostDestsCard : Claim7 := { stood := { row := hostDestsRow, standIns := [], harness := (true, "5c91912fe54a791e747f269697dfb685684edd14b704b85e314647789b212bdd"), looks := true }, kinds := [], alts := [], laidByText := true, laidKinds := [.data, .handle, .pinned], laidTests := true, laidLooks := .later }
def HostDestsCardSaid : Prop := Claim7.holds Tryd.pinned (.plain (OpenSpec.ofChange hostDestsSpec)) hostDestsCard

/-- THE TIED CARD OF 'sallyportlaw06.HostPrints'. -/
def hostPrintsCard : Claim7 := { stood := { row := hostPrintsRow, standIns := [], harness := (true, "5c91912fe54a791e747f269697dfb685684edd14b704b85e314647789b212bdd"), looks := true }, kinds := [], alts := [], laidByText := true, laidKinds := [.data, .data, .data, .data, .handle, .pinned], laidTests := true, laidLooks := .later }
def HostPrintsCardSaid : Prop := Claim7.holds Tryd.pinned (.plain (OpenSpec.ofChange hostPrintsSpec)) hostPrintsCard

/-- THE TIED CARD OF 'sallyportlaw06.HostNets'. -/
def hostNetsCard : Claim7 := { stood := { row := hostNetsRow, standIns := [], harness := (true, "5c91912fe54a791e747f269697dfb685684edd14b704b85e314647789b212bdd"), looks := true }, kinds := [], alts := [], laidByText := true, laidKinds := [.data, .handle, .pinned], laidTests := true, laidLooks := .later }
def HostNetsCardSaid : Prop := Claim7.holds Tryd.pinned (.plain (OpenSpec.ofChange hostNetsSpec)) hostNetsCard

/-- THE TIED CARD OF 'sallyportlaw06.HostBack'. -/
def hostBackCard : Claim7 := { stood := { row := hostBackRow, standIns := [], harness := (true, "5c91912fe54a791e747f269697dfb685684edd14b704b85e314647789b212bdd"), looks := true }, kinds := [], alts := [], laidByText := true, laidKinds := [.data, .data, .data, .data, .handle, .pinned], laidTests := true, laidLooks := .later }
def HostBackCardSaid : Prop := Claim7.holds Tryd.pinned (.plain (OpenSpec.ofChange hostBackSpec)) hostBackCard

/-- THE TIED CARD OF 'sallyportlaw06.HostWider'. -/
def hostWiderCard : Claim7 := { stood := { row := hostWiderRow, standIns := [], harness := (true, "5c91912fe54a791e747f269697dfb685684edd14b704b85e314647789b212bdd"), looks := true }, kinds := [], alts := [], laidByText := true, laidKinds := [.data, .handle, .pinned], laidTests := true, laidLooks := .later }
def HostWiderCardSaid : Prop := Claim7.holds Tryd.pinned (.plain (OpenSpec.ofChange hostWiderSpec)) hostWiderCard

/-- THE SECOND FORM's CARD OF 'sallyportlaw06.HostReads'. -/
def hostReadsUptoCard : Claim7 := { stood := { row := hostReadsUptoRow, standIns := [], harness := (true, "5c91912fe54a791e747f269697dfb685684edd14b704b85e314647789b212bdd"), looks := true }, kinds := [], alts := [], laidByText := true, laidKinds := [.data, .handle, .pinned], laidTests := true, laidLooks := .later }
def HostReadsUptoCardSaid : Prop := Claim7.holds Tryd.pinned (.plain (OpenSpec.upto hostReadsSpec)) hostReadsUptoCard

/-- THE SECOND FORM's CARD OF 'sallyportlaw06.HostDests'. -/
def hostDestsUptoCard : Claim7 := { stood := { row := hostDestsUptoRow, standIns := [], harness := (true, "5c91912fe54a791e747f269697dfb685684edd14b704b85e314647789b212bdd"), looks := true }, kinds := [], alts := [], laidByText := true, laidKinds := [.data, .handle, .pinned], laidTests := true, laidLooks := .later }
def HostDestsUptoCardSaid : Prop := Claim7.holds Tryd.pinned (.plain (OpenSpec.upto hostDestsSpec)) hostDestsUptoCard

/-- THE SECOND FORM's CARD OF 'sallyportlaw06.HostPrints'. -/
def hostPrintsUptoCard : Claim7 := { stood := { row := hostPrintsUptoRow, standIns := [], harness := (true, "5c91912fe54a791e747f269697dfb685684edd14b704b85e314647789b212bdd"), looks := true }, kinds := [], alts := [], laidByText := true, laidKinds := [.data, .data, .data, .data, .handle, .pinned], laidTests := true, laidLooks := .later }
def HostPrintsUptoCardSaid : Prop := Claim7.holds Tryd.pinned (.plain (OpenSpec.upto hostPrintsSpec)) hostPrintsUptoCard

/-- THE SECOND FORM's CARD OF 'sallyportlaw06.HostNets'. -/
def hostNetsUptoCard : Claim7 := { stood := { row := hostNetsUptoRow, standIns := [], harness := (true, "5c91912fe54a791e747f269697dfb685684edd14b704b85e314647789b212bdd"), looks := true }, kinds := [], alts := [], laidByText := true, laidKinds := [.data, .handle, .pinned], laidTests := true, laidLooks := .later }
def HostNetsUptoCardSaid : Prop := Claim7.holds Tryd.pinned (.plain (OpenSpec.upto hostNetsSpec)) hostNetsUptoCard

/-- THE SECOND FORM's CARD OF 'sallyportlaw06.HostBack'. -/
def hostBackUptoCard : Claim7 := { stood := { row := hostBackUptoRow, standIns := [], harness := (true, "5c91912fe54a791e747f269697dfb685684edd14b704b85e314647789b212bdd"), looks := true }, kinds := [], alts := [], laidByText := true, laidKinds := [.data, .data, .data, .data, .handle, .pinned], laidTests := true, laidLooks := .later }
def HostBackUptoCardSaid : Prop := Claim7.holds Tryd.pinned (.plain (OpenSpec.upto hostBackSpec)) hostBackUptoCard

/-- THE SECOND FORM's CARD OF 'sallyportlaw06.HostWider'. -/
def hostWiderUptoCard : Claim7 := { stood := { row := hostWiderUptoRow, standIns := [], harness := (true, "5c91912fe54a791e747f269697dfb685684edd14b704b85e314647789b212bdd"), looks := true }, kinds := [], alts := [], laidByText := true, laidKinds := [.data, .handle, .pinned], laidTests := true, laidLooks := .later }
def HostWiderUptoCardSaid : Prop := Claim7.holds Tryd.pinned (.plain (OpenSpec.upto hostWiderSpec)) hostWiderUptoCard
end Rows
end Go.Proofs.YtfjglcihlkmpnaaDoor
