/-
  DERIVED. GIVEN WITH THE SEED: THE CARDS: each row of YtffjhhacegnhmaaGreatDoorRows.lean that lists a variable, with what it lists TIED to the program's text (the seventh form; the later family's looks); each row that meets fmt, with fmt's text TOLD by the authors' own Lean function (tested against real Go, not proved from fmt's source: count such statements apart). THE CARD IS WHAT COUNTS. Prove the row's statement (the work); the ties are given (YtffjhhacegnhmaaGreatDoorTie.lean); close each card by the builder's one call (the guide's Derived/Test/ToyasCard.lean, 'card_holds'). Laid BY PROGRAM, IN A SANDBOX (cutbox-door.mjs). By AI agents, Wed Nov 11 2026. No macro, syntax, notation, axiom, sorry.
-/
import Derived.Test.YtffjhhacegnhmaaGreatDoorRows
import GoSem.ClaimSeven
namespace Go.Proofs.YtffjhhacegnhmaaGreatDoor
namespace Rows

/-- THE TIED CARD OF 'sallyportlaw13.FieldsAdds'. -/
def fieldsAddsCard : Claim7 := { stood := { row := fieldsAddsRow, standIns := [], harness := (true, "df60e4e1cc635785c22577a84a516eeae11dd25039c75974a2b9f737022560cf"), looks := false }, kinds := [], alts := [], laidByText := true, laidKinds := [.data, .data, .data, .data, .pinned], laidTests := true, laidLooks := .later }
def FieldsAddsCardSaid : Prop := Claim7.holds Tryz.pinned (.plain (OpenSpec.ofChange fieldsAddsSpec)) fieldsAddsCard

/-- THE SECOND FORM's CARD OF 'sallyportlaw13.FieldsAdds'. -/
def fieldsAddsUptoCard : Claim7 := { stood := { row := fieldsAddsUptoRow, standIns := [], harness := (true, "df60e4e1cc635785c22577a84a516eeae11dd25039c75974a2b9f737022560cf"), looks := false }, kinds := [], alts := [], laidByText := true, laidKinds := [.data, .data, .data, .data, .pinned], laidTests := true, laidLooks := .later }
def FieldsAddsUptoCardSaid : Prop := Claim7.holds Tryz.pinned (.plain (OpenSpec.upto fieldsAddsSpec)) fieldsAddsUptoCard
end Rows
end Go.Proofs.YtffjhhacegnhmaaGreatDoor
