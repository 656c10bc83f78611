/-
  DERIVED. GIVEN WITH THE SEED: THE CARDS: each row of YtphpmaimgndjmaaDoorRows.lean that lists a variable, with what it lists TIED to the program's text (the seventh form; the later family's looks); each row that meets fmt, with fmt's text TOLD by the authors' own Lean function (tested against real Go, not proved from fmt's source: count such statements apart). THE CARD IS WHAT COUNTS. Prove the row's statement (the work); the ties are given (YtphpmaimgndjmaaDoorTie.lean); close each card by the builder's one call (the guide's Derived/Test/ToyasCard.lean, 'card_holds'). Laid BY PROGRAM, IN A SANDBOX (cutbox-door.mjs). By AI agents, Wed Nov 11 2026. No macro, syntax, notation, axiom, sorry.
-/
import Derived.Test.YtphpmaimgndjmaaDoorRows
import GoSem.ClaimSeven
namespace Go.Proofs.YtphpmaimgndjmaaDoor
namespace Rows

/-- THE TIED CARD OF 'foundrylaw14.CodeOneShape'. -/
def codeOneShapeCard : Claim7 := { stood := { row := codeOneShapeRow, standIns := [], harness := (true, "1abd30e2cf8123f2016bc2454b3f3737e03f6f6779be25c970a6f270a133e2cd"), looks := false }, kinds := [], alts := [], laidByText := true, laidKinds := [.data, .data, .data], laidTests := true, laidLooks := .later }
def CodeOneShapeCardSaid : Prop := Claim7.holds Tryd.pinned (.plain (OpenSpec.ofChange codeOneShapeSpec)) codeOneShapeCard

/-- THE TIED CARD OF 'foundrylaw14.CodeDead'. -/
def codeDeadCard : Claim7 := { stood := { row := codeDeadRow, standIns := [], harness := (true, "1abd30e2cf8123f2016bc2454b3f3737e03f6f6779be25c970a6f270a133e2cd"), looks := false }, kinds := [], alts := [], laidByText := true, laidKinds := [.data, .data, .data], laidTests := true, laidLooks := .later }
def CodeDeadCardSaid : Prop := Claim7.holds Tryd.pinned (.plain (OpenSpec.ofChange codeDeadSpec)) codeDeadCard

/-- THE SECOND FORM's CARD OF 'foundrylaw14.CodeOneShape'. -/
def codeOneShapeUptoCard : Claim7 := { stood := { row := codeOneShapeUptoRow, standIns := [], harness := (true, "1abd30e2cf8123f2016bc2454b3f3737e03f6f6779be25c970a6f270a133e2cd"), looks := false }, kinds := [], alts := [], laidByText := true, laidKinds := [.data, .data, .data], laidTests := true, laidLooks := .later }
def CodeOneShapeUptoCardSaid : Prop := Claim7.holds Tryd.pinned (.plain (OpenSpec.upto codeOneShapeSpec)) codeOneShapeUptoCard

/-- THE SECOND FORM's CARD OF 'foundrylaw14.CodeDead'. -/
def codeDeadUptoCard : Claim7 := { stood := { row := codeDeadUptoRow, standIns := [], harness := (true, "1abd30e2cf8123f2016bc2454b3f3737e03f6f6779be25c970a6f270a133e2cd"), looks := false }, kinds := [], alts := [], laidByText := true, laidKinds := [.data, .data, .data], laidTests := true, laidLooks := .later }
def CodeDeadUptoCardSaid : Prop := Claim7.holds Tryd.pinned (.plain (OpenSpec.upto codeDeadSpec)) codeDeadUptoCard
end Rows
end Go.Proofs.YtphpmaimgndjmaaDoor
