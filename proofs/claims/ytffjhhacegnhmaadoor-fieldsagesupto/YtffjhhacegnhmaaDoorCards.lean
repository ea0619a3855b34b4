/-
  DERIVED. GIVEN WITH THE SEED: THE CARDS: each row of YtffjhhacegnhmaaDoorRows.lean that lists a variable, with what it lists TIED to the program's text (the seventh form; the later family's looks); each row that meets fmt, with fmt's text TOLD by the authors' own Lean function (tested against real Go, not proved from fmt's source: count such statements apart). THE CARD IS WHAT COUNTS. Prove the row's statement (the work); the ties are given (YtffjhhacegnhmaaDoorTie.lean); close each card by the builder's one call (the guide's Derived/Test/ToyasCard.lean, 'card_holds'). Laid BY PROGRAM, IN A SANDBOX (cutbox-door.mjs). By AI agents, Wed Nov 11 2026. No macro, syntax, notation, axiom, sorry.
-/
import Derived.Test.YtffjhhacegnhmaaDoorRows
import GoSem.ClaimSeven
namespace Go.Proofs.YtffjhhacegnhmaaDoor
namespace Rows

/-- THE TIED CARD OF 'sallyportlaw13.FieldsParts'. -/
def fieldsPartsCard : Claim7 := { stood := { row := fieldsPartsRow, standIns := [], harness := (true, "435e79de4b0c190e88ee3eb7ac357f3d3dd36290c09c8bb5f117eab8482c136c"), looks := false }, kinds := [], alts := [], laidByText := true, laidKinds := [.data, .pinned], laidTests := true, laidLooks := .later }
def FieldsPartsCardSaid : Prop := Claim7.holds Tryd.pinned (.plain (OpenSpec.ofChange fieldsPartsSpec)) fieldsPartsCard

/-- THE TIED CARD OF 'sallyportlaw13.FieldsAges'. -/
def fieldsAgesCard : Claim7 := { stood := { row := fieldsAgesRow, standIns := [], harness := (true, "435e79de4b0c190e88ee3eb7ac357f3d3dd36290c09c8bb5f117eab8482c136c"), looks := false }, kinds := [], alts := [], laidByText := true, laidKinds := [.data, .pinned], laidTests := true, laidLooks := .later }
def FieldsAgesCardSaid : Prop := Claim7.holds Tryd.pinned (.plain (OpenSpec.ofChange fieldsAgesSpec)) fieldsAgesCard

/-- THE TIED CARD OF 'sallyportlaw13.FieldsParted'. -/
def fieldsPartedCard : Claim7 := { stood := { row := fieldsPartedRow, standIns := [], harness := (true, "435e79de4b0c190e88ee3eb7ac357f3d3dd36290c09c8bb5f117eab8482c136c"), looks := false }, kinds := [], alts := [], laidByText := true, laidKinds := [.data, .pinned], laidTests := true, laidLooks := .later }
def FieldsPartedCardSaid : Prop := Claim7.holds Tryd.pinned (.plain (OpenSpec.ofChange fieldsPartedSpec)) fieldsPartedCard

/-- THE TIED CARD OF 'sallyportlaw13.FieldsOthers'. -/
def fieldsOthersCard : Claim7 := { stood := { row := fieldsOthersRow, standIns := [], harness := (true, "435e79de4b0c190e88ee3eb7ac357f3d3dd36290c09c8bb5f117eab8482c136c"), looks := false }, kinds := [], alts := [], laidByText := true, laidKinds := [.data, .pinned], laidTests := true, laidLooks := .later }
def FieldsOthersCardSaid : Prop := Claim7.holds Tryd.pinned (.plain (OpenSpec.ofChange fieldsOthersSpec)) fieldsOthersCard

/-- THE TIED CARD OF 'sallyportlaw13.FieldsKeys'. -/
def fieldsKeysCard : Claim7 := { stood := { row := fieldsKeysRow, standIns := [], harness := (true, "435e79de4b0c190e88ee3eb7ac357f3d3dd36290c09c8bb5f117eab8482c136c"), looks := false }, kinds := [], alts := [], laidByText := true, laidKinds := [.data, .data, .data, .data, .pinned], laidTests := true, laidLooks := .later }
def FieldsKeysCardSaid : Prop := Claim7.holds Tryd.pinned (.plain (OpenSpec.ofChange fieldsKeysSpec)) fieldsKeysCard

/-- THE SECOND FORM's CARD OF 'sallyportlaw13.FieldsParts'. -/
def fieldsPartsUptoCard : Claim7 := { stood := { row := fieldsPartsUptoRow, standIns := [], harness := (true, "435e79de4b0c190e88ee3eb7ac357f3d3dd36290c09c8bb5f117eab8482c136c"), looks := false }, kinds := [], alts := [], laidByText := true, laidKinds := [.data, .pinned], laidTests := true, laidLooks := .later }
def FieldsPartsUptoCardSaid : Prop := Claim7.holds Tryd.pinned (.plain (OpenSpec.upto fieldsPartsSpec)) fieldsPartsUptoCard

/-- THE SECOND FORM's CARD OF 'sallyportlaw13.FieldsAges'. -/
def fieldsAgesUptoCard : Claim7 := { stood := { row := fieldsAgesUptoRow, standIns := [], harness := (true, "435e79de4b0c190e88ee3eb7ac357f3d3dd36290c09c8bb5f117eab8482c136c"), looks := false }, kinds := [], alts := [], laidByText := true, laidKinds := [.data, .pinned], laidTests := true, laidLooks := .later }
def FieldsAgesUptoCardSaid : Prop := Claim7.holds Tryd.pinned (.plain (OpenSpec.upto fieldsAgesSpec)) fieldsAgesUptoCard

/-- THE SECOND FORM's CARD OF 'sallyportlaw13.FieldsParted'. -/
def fieldsPartedUptoCard : Claim7 := { stood := { row := fieldsPartedUptoRow, standIns := [], harness := (true, "435e79de4b0c190e88ee3eb7ac357f3d3dd36290c09c8bb5f117eab8482c136c"), looks := false }, kinds := [], alts := [], laidByText := true, laidKinds := [.data, .pinned], laidTests := true, laidLooks := .later }
def FieldsPartedUptoCardSaid : Prop := Claim7.holds Tryd.pinned (.plain (OpenSpec.upto fieldsPartedSpec)) fieldsPartedUptoCard

/-- THE SECOND FORM's CARD OF 'sallyportlaw13.FieldsOthers'. -/
def fieldsOthersUptoCard : Claim7 := { stood := { row := fieldsOthersUptoRow, standIns := [], harness := (true, "435e79de4b0c190e88ee3eb7ac357f3d3dd36290c09c8bb5f117eab8482c136c"), looks := false }, kinds := [], alts := [], laidByText := true, laidKinds := [.data, .pinned], laidTests := true, laidLooks := .later }
def FieldsOthersUptoCardSaid : Prop := Claim7.holds Tryd.pinned (.plain (OpenSpec.upto fieldsOthersSpec)) fieldsOthersUptoCard

/-- THE SECOND FORM's CARD OF 'sallyportlaw13.FieldsKeys'. -/
def fieldsKeysUptoCard : Claim7 := { stood := { row := fieldsKeysUptoRow, standIns := [], harness := (true, "435e79de4b0c190e88ee3eb7ac357f3d3dd36290c09c8bb5f117eab8482c136c"), looks := false }, kinds := [], alts := [], laidByText := true, laidKinds := [.data, .data, .data, .data, .pinned], laidTests := true, laidLooks := .later }
def FieldsKeysUptoCardSaid : Prop := Claim7.holds Tryd.pinned (.plain (OpenSpec.upto fieldsKeysSpec)) fieldsKeysUptoCard
end Rows
end Go.Proofs.YtffjhhacegnhmaaDoor
