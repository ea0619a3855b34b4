/-
  DERIVED. GIVEN WITH THE SEED: THE CARDS: each row of YtabkelhipmijfaaDoorRows.lean that lists a variable, with what it lists TIED to the program's text (the seventh form; the later family's looks); each row that meets fmt, with fmt's text TOLD by the authors' own Lean function (tested against real Go, not proved from fmt's source: count such statements apart). THE CARD IS WHAT COUNTS. Prove the row's statement (the work); the ties are given (YtabkelhipmijfaaDoorTie.lean); close each card by the builder's one call (the guide's Derived/Test/ToyasCard.lean, 'card_holds'). Laid BY PROGRAM, IN A SANDBOX (cutbox-door.mjs). By AI agents, Wed Nov 11 2026. No macro, syntax, notation, axiom, sorry.
-/
import Derived.Test.YtabkelhipmijfaaDoorRows
import GoSem.ClaimSeven
namespace Go.Proofs.YtabkelhipmijfaaDoor
namespace Rows

/-- THE TIED CARD OF 'sallyportlaw16.ResolverEnds'. -/
def resolverEndsCard : Claim7 := { stood := { row := resolverEndsRow, standIns := [], harness := (true, "b7ec8b3df2b5e51ac7da159829b09e2696088d59bce3e7a26ec0d82ae93c1d7c"), looks := false }, kinds := [], alts := [], laidByText := true, laidKinds := [.data, .pinned], laidTests := true, laidLooks := .later }
def ResolverEndsCardSaid : Prop := Claim7.holds Tryd.pinned (.plain (OpenSpec.ofChange resolverEndsSpec)) resolverEndsCard

/-- THE SECOND FORM's CARD OF 'sallyportlaw16.ResolverEnds'. -/
def resolverEndsUptoCard : Claim7 := { stood := { row := resolverEndsUptoRow, standIns := [], harness := (true, "b7ec8b3df2b5e51ac7da159829b09e2696088d59bce3e7a26ec0d82ae93c1d7c"), looks := false }, kinds := [], alts := [], laidByText := true, laidKinds := [.data, .pinned], laidTests := true, laidLooks := .later }
def ResolverEndsUptoCardSaid : Prop := Claim7.holds Tryd.pinned (.plain (OpenSpec.upto resolverEndsSpec)) resolverEndsUptoCard
end Rows
end Go.Proofs.YtabkelhipmijfaaDoor
