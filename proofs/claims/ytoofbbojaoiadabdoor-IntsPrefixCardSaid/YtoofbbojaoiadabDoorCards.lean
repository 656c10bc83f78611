/-
  DERIVED. GIVEN WITH THE SEED: THE CARDS: each row of YtoofbbojaoiadabDoorRows.lean that lists a variable, with what it lists TIED to the program's text (the seventh form; the later family's looks); each row that meets fmt, with fmt's text TOLD by the authors' own Lean function (tested against real Go, not proved from fmt's source: count such statements apart). THE CARD IS WHAT COUNTS. Prove the row's statement (the work); the ties are given (YtoofbbojaoiadabDoorTie.lean); close each card by the builder's one call (the guide's Derived/Test/ToyasCard.lean, 'card_holds'). Laid BY PROGRAM, IN A SANDBOX (cutbox-door.mjs). By AI agents, Wed Nov 11 2026. No macro, syntax, notation, axiom, sorry.
-/
import Derived.Test.YtoofbbojaoiadabDoorRows
import GoSem.ClaimSeven
namespace Go.Proofs.YtoofbbojaoiadabDoor
namespace Rows

/-- THE TIED CARD OF 'foundrylaw02.IntsRing'. -/
def intsRingCard : Claim7 := { stood := { row := intsRingRow, standIns := [], harness := (true, "93537b025be77a2cadcb703bf74bb5d7f3d504bf128085f4be89d53b29f18859"), looks := false }, kinds := [], alts := [], laidByText := true, laidKinds := [.data, .data, .data], laidTests := true, laidLooks := .later }
def IntsRingCardSaid : Prop := Claim7.holds Tryd.pinned (.plain (OpenSpec.ofChange intsRingSpec)) intsRingCard

/-- THE TIED CARD OF 'foundrylaw02.IntsOrder'. -/
def intsOrderCard : Claim7 := { stood := { row := intsOrderRow, standIns := [], harness := (true, "93537b025be77a2cadcb703bf74bb5d7f3d504bf128085f4be89d53b29f18859"), looks := false }, kinds := [], alts := [], laidByText := true, laidKinds := [.data, .data, .data], laidTests := true, laidLooks := .later }
def IntsOrderCardSaid : Prop := Claim7.holds Tryd.pinned (.plain (OpenSpec.ofChange intsOrderSpec)) intsOrderCard

/-- THE TIED CARD OF 'foundrylaw02.IntsPrefix'. -/
def intsPrefixCard : Claim7 := { stood := { row := intsPrefixRow, standIns := [], harness := (true, "93537b025be77a2cadcb703bf74bb5d7f3d504bf128085f4be89d53b29f18859"), looks := false }, kinds := [], alts := [], laidByText := true, laidKinds := [.data, .data, .data], laidTests := true, laidLooks := .later }
def IntsPrefixCardSaid : Prop := Claim7.holds Tryd.pinned (.plain (OpenSpec.ofChange intsPrefixSpec)) intsPrefixCard

/-- THE SECOND FORM's CARD OF 'foundrylaw02.IntsRing'. -/
def intsRingUptoCard : Claim7 := { stood := { row := intsRingUptoRow, standIns := [], harness := (true, "93537b025be77a2cadcb703bf74bb5d7f3d504bf128085f4be89d53b29f18859"), looks := false }, kinds := [], alts := [], laidByText := true, laidKinds := [.data, .data, .data], laidTests := true, laidLooks := .later }
def IntsRingUptoCardSaid : Prop := Claim7.holds Tryd.pinned (.plain (OpenSpec.upto intsRingSpec)) intsRingUptoCard

/-- THE SECOND FORM's CARD OF 'foundrylaw02.IntsOrder'. -/
def intsOrderUptoCard : Claim7 := { stood := { row := intsOrderUptoRow, standIns := [], harness := (true, "93537b025be77a2cadcb703bf74bb5d7f3d504bf128085f4be89d53b29f18859"), looks := false }, kinds := [], alts := [], laidByText := true, laidKinds := [.data, .data, .data], laidTests := true, laidLooks := .later }
def IntsOrderUptoCardSaid : Prop := Claim7.holds Tryd.pinned (.plain (OpenSpec.upto intsOrderSpec)) intsOrderUptoCard

/-- THE SECOND FORM's CARD OF 'foundrylaw02.IntsPrefix'. -/
def intsPrefixUptoCard : Claim7 := { stood := { row := intsPrefixUptoRow, standIns := [], harness := (true, "93537b025be77a2cadcb703bf74bb5d7f3d504bf128085f4be89d53b29f18859"), looks := false }, kinds := [], alts := [], laidByText := true, laidKinds := [.data, .data, .data], laidTests := true, laidLooks := .later }
def IntsPrefixUptoCardSaid : Prop := Claim7.holds Tryd.pinned (.plain (OpenSpec.upto intsPrefixSpec)) intsPrefixUptoCard
end Rows
end Go.Proofs.YtoofbbojaoiadabDoor
