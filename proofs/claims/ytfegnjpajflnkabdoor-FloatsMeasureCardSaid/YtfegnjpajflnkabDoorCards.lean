/-
  DERIVED. GIVEN WITH THE SEED: THE CARDS: each row of YtfegnjpajflnkabDoorRows.lean that lists a variable, with what it lists TIED to the program's text (the seventh form; the later family's looks); each row that meets fmt, with fmt's text TOLD by the authors' own Lean function (tested against real Go, not proved from fmt's source: count such statements apart). THE CARD IS WHAT COUNTS. Prove the row's statement (the work); the ties are given (YtfegnjpajflnkabDoorTie.lean); close each card by the builder's one call (the guide's Derived/Test/ToyasCard.lean, 'card_holds'). Laid BY PROGRAM, IN A SANDBOX (cutbox-door.mjs). By AI agents, Wed Nov 11 2026. No macro, syntax, notation, axiom, sorry.
-/
import Derived.Test.YtfegnjpajflnkabDoorRows
import GoSem.ClaimSeven
namespace Go.Proofs.YtfegnjpajflnkabDoor
namespace Rows

/-- THE TIED CARD OF 'foundrylaw01.FloatsLaws'. -/
def floatsLawsCard : Claim7 := { stood := { row := floatsLawsRow, standIns := [], harness := (true, "e2477a65d6e7096bd56a369304c6dd4b13ff389eac8e4d2eafa323443eeaf2d6"), looks := false }, kinds := [], alts := [], laidByText := true, laidKinds := [.data, .data, .data], laidTests := true, laidLooks := .later }
def FloatsLawsCardSaid : Prop := Claim7.holds Tryd.pinned (.plain (OpenSpec.ofChange floatsLawsSpec)) floatsLawsCard

/-- THE TIED CARD OF 'foundrylaw01.FloatsBetween'. -/
def floatsBetweenCard : Claim7 := { stood := { row := floatsBetweenRow, standIns := [], harness := (true, "e2477a65d6e7096bd56a369304c6dd4b13ff389eac8e4d2eafa323443eeaf2d6"), looks := false }, kinds := [], alts := [], laidByText := true, laidKinds := [.data, .data, .data], laidTests := true, laidLooks := .later }
def FloatsBetweenCardSaid : Prop := Claim7.holds Tryd.pinned (.plain (OpenSpec.ofChange floatsBetweenSpec)) floatsBetweenCard

/-- THE TIED CARD OF 'foundrylaw01.FloatsMeasure'. -/
def floatsMeasureCard : Claim7 := { stood := { row := floatsMeasureRow, standIns := [], harness := (true, "e2477a65d6e7096bd56a369304c6dd4b13ff389eac8e4d2eafa323443eeaf2d6"), looks := false }, kinds := [], alts := [], laidByText := true, laidKinds := [.data, .data, .data], laidTests := true, laidLooks := .later }
def FloatsMeasureCardSaid : Prop := Claim7.holds Tryd.pinned (.plain (OpenSpec.ofChange floatsMeasureSpec)) floatsMeasureCard

/-- THE SECOND FORM's CARD OF 'foundrylaw01.FloatsLaws'. -/
def floatsLawsUptoCard : Claim7 := { stood := { row := floatsLawsUptoRow, standIns := [], harness := (true, "e2477a65d6e7096bd56a369304c6dd4b13ff389eac8e4d2eafa323443eeaf2d6"), looks := false }, kinds := [], alts := [], laidByText := true, laidKinds := [.data, .data, .data], laidTests := true, laidLooks := .later }
def FloatsLawsUptoCardSaid : Prop := Claim7.holds Tryd.pinned (.plain (OpenSpec.upto floatsLawsSpec)) floatsLawsUptoCard

/-- THE SECOND FORM's CARD OF 'foundrylaw01.FloatsBetween'. -/
def floatsBetweenUptoCard : Claim7 := { stood := { row := floatsBetweenUptoRow, standIns := [], harness := (true, "e2477a65d6e7096bd56a369304c6dd4b13ff389eac8e4d2eafa323443eeaf2d6"), looks := false }, kinds := [], alts := [], laidByText := true, laidKinds := [.data, .data, .data], laidTests := true, laidLooks := .later }
def FloatsBetweenUptoCardSaid : Prop := Claim7.holds Tryd.pinned (.plain (OpenSpec.upto floatsBetweenSpec)) floatsBetweenUptoCard

/-- THE SECOND FORM's CARD OF 'foundrylaw01.FloatsMeasure'. -/
def floatsMeasureUptoCard : Claim7 := { stood := { row := floatsMeasureUptoRow, standIns := [], harness := (true, "e2477a65d6e7096bd56a369304c6dd4b13ff389eac8e4d2eafa323443eeaf2d6"), looks := false }, kinds := [], alts := [], laidByText := true, laidKinds := [.data, .data, .data], laidTests := true, laidLooks := .later }
def FloatsMeasureUptoCardSaid : Prop := Claim7.holds Tryd.pinned (.plain (OpenSpec.upto floatsMeasureSpec)) floatsMeasureUptoCard
end Rows
end Go.Proofs.YtfegnjpajflnkabDoor
