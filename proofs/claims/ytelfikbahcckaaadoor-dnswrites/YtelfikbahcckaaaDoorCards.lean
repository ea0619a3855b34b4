/-
  DERIVED. GIVEN WITH THE SEED: THE CARDS: each row of YtelfikbahcckaaaDoorRows.lean that lists a variable, with what it lists TIED to the program's text (the seventh form; the later family's looks); each row that meets fmt, with fmt's text TOLD by the authors' own Lean function (tested against real Go, not proved from fmt's source: count such statements apart). THE CARD IS WHAT COUNTS. Prove the row's statement (the work); the ties are given (YtelfikbahcckaaaDoorTie.lean); close each card by the builder's one call (the guide's Derived/Test/ToyasCard.lean, 'card_holds'). Laid BY PROGRAM, IN A SANDBOX (cutbox-door.mjs). By AI agents, Wed Nov 11 2026. No macro, syntax, notation, axiom, sorry.
-/
import Derived.Test.YtelfikbahcckaaaDoorRows
import GoSem.ClaimSeven
namespace Go.Proofs.YtelfikbahcckaaaDoor
namespace Rows

/-- THE TIED CARD OF 'sallyportlaw10.DnsNames'. -/
def dnsNamesCard : Claim7 := { stood := { row := dnsNamesRow, standIns := [], harness := (true, "88e83c3e9703a7e38064129cbb1ec0df9e7cc997c83ff575e99a5a29fe4553e2"), looks := true }, kinds := [], alts := [], laidByText := true, laidKinds := [.data, .pinned], laidTests := true, laidLooks := .later }
def DnsNamesCardSaid : Prop := Claim7.holds Tryd.pinned (.plain (OpenSpec.ofChange dnsNamesSpec)) dnsNamesCard

/-- THE TIED CARD OF 'sallyportlaw10.DnsWrites'. -/
def dnsWritesCard : Claim7 := { stood := { row := dnsWritesRow, standIns := [], harness := (true, "88e83c3e9703a7e38064129cbb1ec0df9e7cc997c83ff575e99a5a29fe4553e2"), looks := true }, kinds := [], alts := [], laidByText := true, laidKinds := [.data, .pinned], laidTests := true, laidLooks := .later }
def DnsWritesCardSaid : Prop := Claim7.holds Tryd.pinned (.plain (OpenSpec.ofChange dnsWritesSpec)) dnsWritesCard

/-- THE TIED CARD OF 'sallyportlaw10.DnsBack'. -/
def dnsBackCard : Claim7 := { stood := { row := dnsBackRow, standIns := [], harness := (true, "88e83c3e9703a7e38064129cbb1ec0df9e7cc997c83ff575e99a5a29fe4553e2"), looks := true }, kinds := [], alts := [], laidByText := true, laidKinds := [.data, .pinned], laidTests := true, laidLooks := .later }
def DnsBackCardSaid : Prop := Claim7.holds Tryd.pinned (.plain (OpenSpec.ofChange dnsBackSpec)) dnsBackCard

/-- THE TIED CARD OF 'sallyportlaw10.DnsBounds'. -/
def dnsBoundsCard : Claim7 := { stood := { row := dnsBoundsRow, standIns := [], harness := (true, "88e83c3e9703a7e38064129cbb1ec0df9e7cc997c83ff575e99a5a29fe4553e2"), looks := true }, kinds := [], alts := [], laidByText := true, laidKinds := [.data, .pinned], laidTests := true, laidLooks := .later }
def DnsBoundsCardSaid : Prop := Claim7.holds Tryd.pinned (.plain (OpenSpec.ofChange dnsBoundsSpec)) dnsBoundsCard

/-- THE SECOND FORM's CARD OF 'sallyportlaw10.DnsNames'. -/
def dnsNamesUptoCard : Claim7 := { stood := { row := dnsNamesUptoRow, standIns := [], harness := (true, "88e83c3e9703a7e38064129cbb1ec0df9e7cc997c83ff575e99a5a29fe4553e2"), looks := true }, kinds := [], alts := [], laidByText := true, laidKinds := [.data, .pinned], laidTests := true, laidLooks := .later }
def DnsNamesUptoCardSaid : Prop := Claim7.holds Tryd.pinned (.plain (OpenSpec.upto dnsNamesSpec)) dnsNamesUptoCard

/-- THE SECOND FORM's CARD OF 'sallyportlaw10.DnsWrites'. -/
def dnsWritesUptoCard : Claim7 := { stood := { row := dnsWritesUptoRow, standIns := [], harness := (true, "88e83c3e9703a7e38064129cbb1ec0df9e7cc997c83ff575e99a5a29fe4553e2"), looks := true }, kinds := [], alts := [], laidByText := true, laidKinds := [.data, .pinned], laidTests := true, laidLooks := .later }
def DnsWritesUptoCardSaid : Prop := Claim7.holds Tryd.pinned (.plain (OpenSpec.upto dnsWritesSpec)) dnsWritesUptoCard

/-- THE SECOND FORM's CARD OF 'sallyportlaw10.DnsBack'. -/
def dnsBackUptoCard : Claim7 := { stood := { row := dnsBackUptoRow, standIns := [], harness := (true, "88e83c3e9703a7e38064129cbb1ec0df9e7cc997c83ff575e99a5a29fe4553e2"), looks := true }, kinds := [], alts := [], laidByText := true, laidKinds := [.data, .pinned], laidTests := true, laidLooks := .later }
def DnsBackUptoCardSaid : Prop := Claim7.holds Tryd.pinned (.plain (OpenSpec.upto dnsBackSpec)) dnsBackUptoCard

/-- THE SECOND FORM's CARD OF 'sallyportlaw10.DnsBounds'. -/
def dnsBoundsUptoCard : Claim7 := { stood := { row := dnsBoundsUptoRow, standIns := [], harness := (true, "88e83c3e9703a7e38064129cbb1ec0df9e7cc997c83ff575e99a5a29fe4553e2"), looks := true }, kinds := [], alts := [], laidByText := true, laidKinds := [.data, .pinned], laidTests := true, laidLooks := .later }
def DnsBoundsUptoCardSaid : Prop := Claim7.holds Tryd.pinned (.plain (OpenSpec.upto dnsBoundsSpec)) dnsBoundsUptoCard
end Rows
end Go.Proofs.YtelfikbahcckaaaDoor
