/-
  DERIVED. GIVEN WITH THE SEED: THE CARDS: each row of YtddkmefpfhdliaaDoorRows.lean that lists a variable, with what it lists TIED to the program's text (the seventh form; the later family's looks); each row that meets fmt, with fmt's text TOLD by the authors' own Lean function (tested against real Go, not proved from fmt's source: count such statements apart). THE CARD IS WHAT COUNTS. Prove the row's statement (the work); the ties are given (YtddkmefpfhdliaaDoorTie.lean); close each card by the builder's one call (the guide's Derived/Test/ToyasCard.lean, 'card_holds'). Laid BY PROGRAM, IN A SANDBOX (cutbox-door.mjs). By AI agents, Wed Nov 11 2026. No macro, syntax, notation, axiom, sorry.
-/
import Derived.Test.YtddkmefpfhdliaaDoorRows
import GoSem.ClaimSeven
namespace Go.Proofs.YtddkmefpfhdliaaDoor
namespace Rows

/-- THE TIED CARD OF 'foundrylaw08.TypesValues'. -/
def typesValuesCard : Claim7 := { stood := { row := typesValuesRow, standIns := [], harness := (true, "a63a4d7b60dc1ac3ab436d108f20ea16d2e71ec61920f5ca424192880c97044f"), looks := false }, kinds := [], alts := [], laidByText := true, laidKinds := [.data, .data, .data], laidTests := true, laidLooks := .later }
def TypesValuesCardSaid : Prop := Claim7.holds Tryd.pinned (.plain (OpenSpec.ofChange typesValuesSpec)) typesValuesCard

/-- THE TIED CARD OF 'foundrylaw08.TypesOps'. -/
def typesOpsCard : Claim7 := { stood := { row := typesOpsRow, standIns := [], harness := (true, "a63a4d7b60dc1ac3ab436d108f20ea16d2e71ec61920f5ca424192880c97044f"), looks := false }, kinds := [], alts := [], laidByText := true, laidKinds := [.data, .data, .data], laidTests := true, laidLooks := .later }
def TypesOpsCardSaid : Prop := Claim7.holds Tryd.pinned (.plain (OpenSpec.ofChange typesOpsSpec)) typesOpsCard

/-- THE TIED CARD OF 'foundrylaw08.TypesItems'. -/
def typesItemsCard : Claim7 := { stood := { row := typesItemsRow, standIns := [], harness := (true, "a63a4d7b60dc1ac3ab436d108f20ea16d2e71ec61920f5ca424192880c97044f"), looks := false }, kinds := [], alts := [], laidByText := true, laidKinds := [.data, .data, .data], laidTests := true, laidLooks := .later }
def TypesItemsCardSaid : Prop := Claim7.holds Tryd.pinned (.plain (OpenSpec.ofChange typesItemsSpec)) typesItemsCard

/-- THE TIED CARD OF 'foundrylaw08.TypesOperators'. -/
def typesOperatorsCard : Claim7 := { stood := { row := typesOperatorsRow, standIns := [], harness := (true, "a63a4d7b60dc1ac3ab436d108f20ea16d2e71ec61920f5ca424192880c97044f"), looks := false }, kinds := [], alts := [], laidByText := true, laidKinds := [.data, .data, .data], laidTests := true, laidLooks := .later }
def TypesOperatorsCardSaid : Prop := Claim7.holds Tryd.pinned (.plain (OpenSpec.ofChange typesOperatorsSpec)) typesOperatorsCard

/-- THE TIED CARD OF 'foundrylaw08.TypesTexts'. -/
def typesTextsCard : Claim7 := { stood := { row := typesTextsRow, standIns := [], harness := (true, "a63a4d7b60dc1ac3ab436d108f20ea16d2e71ec61920f5ca424192880c97044f"), looks := false }, kinds := [], alts := [], laidByText := true, laidKinds := [.data, .data, .data], laidTests := true, laidLooks := .later }
def TypesTextsCardSaid : Prop := Claim7.holds Tryd.pinned (.plain (OpenSpec.ofChange typesTextsSpec)) typesTextsCard

/-- THE SECOND FORM's CARD OF 'foundrylaw08.TypesValues'. -/
def typesValuesUptoCard : Claim7 := { stood := { row := typesValuesUptoRow, standIns := [], harness := (true, "a63a4d7b60dc1ac3ab436d108f20ea16d2e71ec61920f5ca424192880c97044f"), looks := false }, kinds := [], alts := [], laidByText := true, laidKinds := [.data, .data, .data], laidTests := true, laidLooks := .later }
def TypesValuesUptoCardSaid : Prop := Claim7.holds Tryd.pinned (.plain (OpenSpec.upto typesValuesSpec)) typesValuesUptoCard

/-- THE SECOND FORM's CARD OF 'foundrylaw08.TypesOps'. -/
def typesOpsUptoCard : Claim7 := { stood := { row := typesOpsUptoRow, standIns := [], harness := (true, "a63a4d7b60dc1ac3ab436d108f20ea16d2e71ec61920f5ca424192880c97044f"), looks := false }, kinds := [], alts := [], laidByText := true, laidKinds := [.data, .data, .data], laidTests := true, laidLooks := .later }
def TypesOpsUptoCardSaid : Prop := Claim7.holds Tryd.pinned (.plain (OpenSpec.upto typesOpsSpec)) typesOpsUptoCard

/-- THE SECOND FORM's CARD OF 'foundrylaw08.TypesItems'. -/
def typesItemsUptoCard : Claim7 := { stood := { row := typesItemsUptoRow, standIns := [], harness := (true, "a63a4d7b60dc1ac3ab436d108f20ea16d2e71ec61920f5ca424192880c97044f"), looks := false }, kinds := [], alts := [], laidByText := true, laidKinds := [.data, .data, .data], laidTests := true, laidLooks := .later }
def TypesItemsUptoCardSaid : Prop := Claim7.holds Tryd.pinned (.plain (OpenSpec.upto typesItemsSpec)) typesItemsUptoCard

/-- THE SECOND FORM's CARD OF 'foundrylaw08.TypesOperators'. -/
def typesOperatorsUptoCard : Claim7 := { stood := { row := typesOperatorsUptoRow, standIns := [], harness := (true, "a63a4d7b60dc1ac3ab436d108f20ea16d2e71ec61920f5ca424192880c97044f"), looks := false }, kinds := [], alts := [], laidByText := true, laidKinds := [.data, .data, .data], laidTests := true, laidLooks := .later }
def TypesOperatorsUptoCardSaid : Prop := Claim7.holds Tryd.pinned (.plain (OpenSpec.upto typesOperatorsSpec)) typesOperatorsUptoCard

/-- THE SECOND FORM's CARD OF 'foundrylaw08.TypesTexts'. -/
def typesTextsUptoCard : Claim7 := { stood := { row := typesTextsUptoRow, standIns := [], harness := (true, "a63a4d7b60dc1ac3ab436d108f20ea16d2e71ec61920f5ca424192880c97044f"), looks := false }, kinds := [], alts := [], laidByText := true, laidKinds := [.data, .data, .data], laidTests := true, laidLooks := .later }
def TypesTextsUptoCardSaid : Prop := Claim7.holds Tryd.pinned (.plain (OpenSpec.upto typesTextsSpec)) typesTextsUptoCard
end Rows
end Go.Proofs.YtddkmefpfhdliaaDoor
