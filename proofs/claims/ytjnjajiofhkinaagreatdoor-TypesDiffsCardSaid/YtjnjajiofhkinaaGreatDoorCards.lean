/-
  DERIVED. GIVEN WITH THE SEED: THE CARDS: each row of YtjnjajiofhkinaaGreatDoorRows.lean that lists a variable, with what it lists TIED to the program's text (the seventh form; the later family's looks); each row that meets fmt, with fmt's text TOLD by the authors' own Lean function (tested against real Go, not proved from fmt's source: count such statements apart). THE CARD IS WHAT COUNTS. Prove the row's statement (the work); the ties are given (YtjnjajiofhkinaaGreatDoorTie.lean); close each card by the builder's one call (the guide's Derived/Test/ToyasCard.lean, 'card_holds'). Laid BY PROGRAM, IN A SANDBOX (cutbox-door.mjs). By AI agents, Wed Nov 11 2026. No macro, syntax, notation, axiom, sorry.
-/
import Derived.Test.YtjnjajiofhkinaaGreatDoorRows
import GoSem.ClaimSeven
namespace Go.Proofs.YtjnjajiofhkinaaGreatDoor
namespace Rows

/-- THE TIED CARD OF 'foundrylaw08.TypesIfaces'. -/
def typesIfacesCard : Claim7 := { stood := { row := typesIfacesRow, standIns := [], harness := (true, "ca4671ab997113392e6c1ee1921f34392bbe78e70aa73d4576ca6a891d0977fe"), looks := false }, kinds := [], alts := [], laidByText := true, laidKinds := [.data, .data, .data], laidTests := true, laidLooks := .later }
def TypesIfacesCardSaid : Prop := Claim7.holds Tryz.pinned (.plain (OpenSpec.ofChange typesIfacesSpec)) typesIfacesCard

/-- THE TIED CARD OF 'foundrylaw08.TypesDiffs'. -/
def typesDiffsCard : Claim7 := { stood := { row := typesDiffsRow, standIns := [], harness := (true, "ca4671ab997113392e6c1ee1921f34392bbe78e70aa73d4576ca6a891d0977fe"), looks := false }, kinds := [], alts := [], laidByText := true, laidKinds := [.data, .data, .data], laidTests := true, laidLooks := .later }
def TypesDiffsCardSaid : Prop := Claim7.holds Tryz.pinned (.plain (OpenSpec.ofChange typesDiffsSpec)) typesDiffsCard

/-- THE SECOND FORM's CARD OF 'foundrylaw08.TypesIfaces'. -/
def typesIfacesUptoCard : Claim7 := { stood := { row := typesIfacesUptoRow, standIns := [], harness := (true, "ca4671ab997113392e6c1ee1921f34392bbe78e70aa73d4576ca6a891d0977fe"), looks := false }, kinds := [], alts := [], laidByText := true, laidKinds := [.data, .data, .data], laidTests := true, laidLooks := .later }
def TypesIfacesUptoCardSaid : Prop := Claim7.holds Tryz.pinned (.plain (OpenSpec.upto typesIfacesSpec)) typesIfacesUptoCard

/-- THE SECOND FORM's CARD OF 'foundrylaw08.TypesDiffs'. -/
def typesDiffsUptoCard : Claim7 := { stood := { row := typesDiffsUptoRow, standIns := [], harness := (true, "ca4671ab997113392e6c1ee1921f34392bbe78e70aa73d4576ca6a891d0977fe"), looks := false }, kinds := [], alts := [], laidByText := true, laidKinds := [.data, .data, .data], laidTests := true, laidLooks := .later }
def TypesDiffsUptoCardSaid : Prop := Claim7.holds Tryz.pinned (.plain (OpenSpec.upto typesDiffsSpec)) typesDiffsUptoCard
end Rows
end Go.Proofs.YtjnjajiofhkinaaGreatDoor
