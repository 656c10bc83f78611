/-
  DERIVED. GIVEN WITH THE SEED: THE CARDS: each row of YticpiaonkgomfaaDoorRows.lean that lists a variable, with what it lists TIED to the program's text (the seventh form; the later family's looks); each row that meets fmt, with fmt's text TOLD by the authors' own Lean function (tested against real Go, not proved from fmt's source: count such statements apart). THE CARD IS WHAT COUNTS. Prove the row's statement (the work); the ties are given (YticpiaonkgomfaaDoorTie.lean); close each card by the builder's one call (the guide's Derived/Test/ToyasCard.lean, 'card_holds'). Laid BY PROGRAM, IN A SANDBOX (cutbox-door.mjs). By AI agents, Wed Nov 11 2026. No macro, syntax, notation, axiom, sorry.
-/
import Derived.Test.YticpiaonkgomfaaDoorRows
import GoSem.ClaimSeven
namespace Go.Proofs.YticpiaonkgomfaaDoor
namespace Rows

/-- THE TIED CARD OF 'foundrylaw14.CodeInstructions'. -/
def codeInstructionsCard : Claim7 := { stood := { row := codeInstructionsRow, standIns := [], harness := (true, "886a6bb1e5aac9ce664727eb534f5f90b263ce7e6df9a9c47675a8d9300b3013"), looks := false }, kinds := [], alts := [], laidByText := true, laidKinds := [.data, .data, .data], laidTests := true, laidLooks := .later }
def CodeInstructionsCardSaid : Prop := Claim7.holds Tryd.pinned (.plain (OpenSpec.ofChange codeInstructionsSpec)) codeInstructionsCard

/-- THE TIED CARD OF 'foundrylaw14.CodeDecodes'. -/
def codeDecodesCard : Claim7 := { stood := { row := codeDecodesRow, standIns := [], harness := (true, "886a6bb1e5aac9ce664727eb534f5f90b263ce7e6df9a9c47675a8d9300b3013"), looks := false }, kinds := [], alts := [], laidByText := true, laidKinds := [.data, .data, .data], laidTests := true, laidLooks := .later }
def CodeDecodesCardSaid : Prop := Claim7.holds Tryd.pinned (.plain (OpenSpec.ofChange codeDecodesSpec)) codeDecodesCard

/-- THE TIED CARD OF 'foundrylaw14.CodePatches'. -/
def codePatchesCard : Claim7 := { stood := { row := codePatchesRow, standIns := [], harness := (true, "886a6bb1e5aac9ce664727eb534f5f90b263ce7e6df9a9c47675a8d9300b3013"), looks := false }, kinds := [], alts := [], laidByText := true, laidKinds := [.data, .data, .data], laidTests := true, laidLooks := .later }
def CodePatchesCardSaid : Prop := Claim7.holds Tryd.pinned (.plain (OpenSpec.ofChange codePatchesSpec)) codePatchesCard

/-- THE TIED CARD OF 'foundrylaw14.CodeBack'. -/
def codeBackCard : Claim7 := { stood := { row := codeBackRow, standIns := [], harness := (true, "886a6bb1e5aac9ce664727eb534f5f90b263ce7e6df9a9c47675a8d9300b3013"), looks := false }, kinds := [], alts := [], laidByText := true, laidKinds := [.data, .data, .data], laidTests := true, laidLooks := .later }
def CodeBackCardSaid : Prop := Claim7.holds Tryd.pinned (.plain (OpenSpec.ofChange codeBackSpec)) codeBackCard

/-- THE TIED CARD OF 'foundrylaw14.CodeUnlike'. -/
def codeUnlikeCard : Claim7 := { stood := { row := codeUnlikeRow, standIns := [], harness := (true, "886a6bb1e5aac9ce664727eb534f5f90b263ce7e6df9a9c47675a8d9300b3013"), looks := false }, kinds := [], alts := [], laidByText := true, laidKinds := [.data, .data, .data], laidTests := true, laidLooks := .later }
def CodeUnlikeCardSaid : Prop := Claim7.holds Tryd.pinned (.plain (OpenSpec.ofChange codeUnlikeSpec)) codeUnlikeCard

/-- THE SECOND FORM's CARD OF 'foundrylaw14.CodeInstructions'. -/
def codeInstructionsUptoCard : Claim7 := { stood := { row := codeInstructionsUptoRow, standIns := [], harness := (true, "886a6bb1e5aac9ce664727eb534f5f90b263ce7e6df9a9c47675a8d9300b3013"), looks := false }, kinds := [], alts := [], laidByText := true, laidKinds := [.data, .data, .data], laidTests := true, laidLooks := .later }
def CodeInstructionsUptoCardSaid : Prop := Claim7.holds Tryd.pinned (.plain (OpenSpec.upto codeInstructionsSpec)) codeInstructionsUptoCard

/-- THE SECOND FORM's CARD OF 'foundrylaw14.CodeDecodes'. -/
def codeDecodesUptoCard : Claim7 := { stood := { row := codeDecodesUptoRow, standIns := [], harness := (true, "886a6bb1e5aac9ce664727eb534f5f90b263ce7e6df9a9c47675a8d9300b3013"), looks := false }, kinds := [], alts := [], laidByText := true, laidKinds := [.data, .data, .data], laidTests := true, laidLooks := .later }
def CodeDecodesUptoCardSaid : Prop := Claim7.holds Tryd.pinned (.plain (OpenSpec.upto codeDecodesSpec)) codeDecodesUptoCard

/-- THE SECOND FORM's CARD OF 'foundrylaw14.CodePatches'. -/
def codePatchesUptoCard : Claim7 := { stood := { row := codePatchesUptoRow, standIns := [], harness := (true, "886a6bb1e5aac9ce664727eb534f5f90b263ce7e6df9a9c47675a8d9300b3013"), looks := false }, kinds := [], alts := [], laidByText := true, laidKinds := [.data, .data, .data], laidTests := true, laidLooks := .later }
def CodePatchesUptoCardSaid : Prop := Claim7.holds Tryd.pinned (.plain (OpenSpec.upto codePatchesSpec)) codePatchesUptoCard

/-- THE SECOND FORM's CARD OF 'foundrylaw14.CodeBack'. -/
def codeBackUptoCard : Claim7 := { stood := { row := codeBackUptoRow, standIns := [], harness := (true, "886a6bb1e5aac9ce664727eb534f5f90b263ce7e6df9a9c47675a8d9300b3013"), looks := false }, kinds := [], alts := [], laidByText := true, laidKinds := [.data, .data, .data], laidTests := true, laidLooks := .later }
def CodeBackUptoCardSaid : Prop := Claim7.holds Tryd.pinned (.plain (OpenSpec.upto codeBackSpec)) codeBackUptoCard

/-- THE SECOND FORM's CARD OF 'foundrylaw14.CodeUnlike'. -/
def codeUnlikeUptoCard : Claim7 := { stood := { row := codeUnlikeUptoRow, standIns := [], harness := (true, "886a6bb1e5aac9ce664727eb534f5f90b263ce7e6df9a9c47675a8d9300b3013"), looks := false }, kinds := [], alts := [], laidByText := true, laidKinds := [.data, .data, .data], laidTests := true, laidLooks := .later }
def CodeUnlikeUptoCardSaid : Prop := Claim7.holds Tryd.pinned (.plain (OpenSpec.upto codeUnlikeSpec)) codeUnlikeUptoCard
end Rows
end Go.Proofs.YticpiaonkgomfaaDoor
