/-
  DERIVED. GIVEN WITH THE SEED: THE CARDS: each row of YtabkelhipmijfaaGreatDoorRows.lean that lists a variable, with what it lists TIED to the program's text (the seventh form; the later family's looks); each row that meets fmt, with fmt's text TOLD by the authors' own Lean function (tested against real Go, not proved from fmt's source: count such statements apart). THE CARD IS WHAT COUNTS. Prove the row's statement (the work); the ties are given (YtabkelhipmijfaaGreatDoorTie.lean); close each card by the builder's one call (the guide's Derived/Test/ToyasCard.lean, 'card_holds'). Laid BY PROGRAM, IN A SANDBOX (cutbox-door.mjs). By AI agents, Wed Nov 11 2026. No macro, syntax, notation, axiom, sorry.
-/
import Derived.Test.YtabkelhipmijfaaGreatDoorRows
import GoSem.ClaimSeven
namespace Go.Proofs.YtabkelhipmijfaaGreatDoor
namespace Rows

/-- THE TIED CARD OF 'sallyportlaw16.ResolverPlays'. -/
def resolverPlaysCard : Claim7 := { stood := { row := resolverPlaysRow, standIns := [], harness := (true, "4d7b913d3d9ad7a12cc7b5c7c8ae92278ed257cdb76f0f51ebc50f9971b9a198"), looks := true }, kinds := [], alts := [], laidByText := true, laidKinds := [.data, .pinned], laidTests := true, laidLooks := .later }
def ResolverPlaysCardSaid : Prop := Claim7.holds Tryz.pinned (.plain (OpenSpec.ofChange resolverPlaysSpec)) resolverPlaysCard

/-- THE TIED CARD OF 'sallyportlaw16.ResolverTrue'. -/
def resolverTrueCard : Claim7 := { stood := { row := resolverTrueRow, standIns := [], harness := (true, "4d7b913d3d9ad7a12cc7b5c7c8ae92278ed257cdb76f0f51ebc50f9971b9a198"), looks := true }, kinds := [], alts := [], laidByText := true, laidKinds := [.data, .pinned], laidTests := true, laidLooks := .later }
def ResolverTrueCardSaid : Prop := Claim7.holds Tryz.pinned (.plain (OpenSpec.ofChange resolverTrueSpec)) resolverTrueCard

/-- THE TIED CARD OF 'sallyportlaw16.ResolverBounds'. -/
def resolverBoundsCard : Claim7 := { stood := { row := resolverBoundsRow, standIns := [], harness := (true, "4d7b913d3d9ad7a12cc7b5c7c8ae92278ed257cdb76f0f51ebc50f9971b9a198"), looks := true }, kinds := [], alts := [], laidByText := true, laidKinds := [.data, .pinned], laidTests := true, laidLooks := .later }
def ResolverBoundsCardSaid : Prop := Claim7.holds Tryz.pinned (.plain (OpenSpec.ofChange resolverBoundsSpec)) resolverBoundsCard

/-- THE TIED CARD OF 'sallyportlaw16.ResolverNone'. -/
def resolverNoneCard : Claim7 := { stood := { row := resolverNoneRow, standIns := [], harness := (true, "4d7b913d3d9ad7a12cc7b5c7c8ae92278ed257cdb76f0f51ebc50f9971b9a198"), looks := true }, kinds := [], alts := [], laidByText := true, laidKinds := [.data, .pinned], laidTests := true, laidLooks := .later }
def ResolverNoneCardSaid : Prop := Claim7.holds Tryz.pinned (.plain (OpenSpec.ofChange resolverNoneSpec)) resolverNoneCard

/-- THE SECOND FORM's CARD OF 'sallyportlaw16.ResolverPlays'. -/
def resolverPlaysUptoCard : Claim7 := { stood := { row := resolverPlaysUptoRow, standIns := [], harness := (true, "4d7b913d3d9ad7a12cc7b5c7c8ae92278ed257cdb76f0f51ebc50f9971b9a198"), looks := true }, kinds := [], alts := [], laidByText := true, laidKinds := [.data, .pinned], laidTests := true, laidLooks := .later }
def ResolverPlaysUptoCardSaid : Prop := Claim7.holds Tryz.pinned (.plain (OpenSpec.upto resolverPlaysSpec)) resolverPlaysUptoCard

/-- THE SECOND FORM's CARD OF 'sallyportlaw16.ResolverTrue'. -/
def resolverTrueUptoCard : Claim7 := { stood := { row := resolverTrueUptoRow, standIns := [], harness := (true, "4d7b913d3d9ad7a12cc7b5c7c8ae92278ed257cdb76f0f51ebc50f9971b9a198"), looks := true }, kinds := [], alts := [], laidByText := true, laidKinds := [.data, .pinned], laidTests := true, laidLooks := .later }
def ResolverTrueUptoCardSaid : Prop := Claim7.holds Tryz.pinned (.plain (OpenSpec.upto resolverTrueSpec)) resolverTrueUptoCard

/-- THE SECOND FORM's CARD OF 'sallyportlaw16.ResolverBounds'. -/
def resolverBoundsUptoCard : Claim7 := { stood := { row := resolverBoundsUptoRow, standIns := [], harness := (true, "4d7b913d3d9ad7a12cc7b5c7c8ae92278ed257cdb76f0f51ebc50f9971b9a198"), looks := true }, kinds := [], alts := [], laidByText := true, laidKinds := [.data, .pinned], laidTests := true, laidLooks := .later }
def ResolverBoundsUptoCardSaid : Prop := Claim7.holds Tryz.pinned (.plain (OpenSpec.upto resolverBoundsSpec)) resolverBoundsUptoCard

/-- THE SECOND FORM's CARD OF 'sallyportlaw16.ResolverNone'. -/
def resolverNoneUptoCard : Claim7 := { stood := { row := resolverNoneUptoRow, standIns := [], harness := (true, "4d7b913d3d9ad7a12cc7b5c7c8ae92278ed257cdb76f0f51ebc50f9971b9a198"), looks := true }, kinds := [], alts := [], laidByText := true, laidKinds := [.data, .pinned], laidTests := true, laidLooks := .later }
def ResolverNoneUptoCardSaid : Prop := Claim7.holds Tryz.pinned (.plain (OpenSpec.upto resolverNoneSpec)) resolverNoneUptoCard
end Rows
end Go.Proofs.YtabkelhipmijfaaGreatDoor
