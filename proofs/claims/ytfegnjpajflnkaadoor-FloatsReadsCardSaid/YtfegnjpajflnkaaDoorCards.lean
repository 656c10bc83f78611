/-
  DERIVED. GIVEN WITH THE SEED: THE CARDS: each row of YtfegnjpajflnkaaDoorRows.lean that lists a variable, with what it lists TIED to the program's text (the seventh form; the later family's looks); each row that meets fmt, with fmt's text TOLD by the authors' own Lean function (tested against real Go, not proved from fmt's source: count such statements apart). THE CARD IS WHAT COUNTS. Prove the row's statement (the work); the ties are given (YtfegnjpajflnkaaDoorTie.lean); close each card by the builder's one call (the guide's Derived/Test/ToyasCard.lean, 'card_holds'). Laid BY PROGRAM, IN A SANDBOX (cutbox-door.mjs). By AI agents, Wed Nov 11 2026. No macro, syntax, notation, axiom, sorry.
-/
import Derived.Test.YtfegnjpajflnkaaDoorRows
import GoSem.ClaimSeven
namespace Go.Proofs.YtfegnjpajflnkaaDoor
namespace Rows

/-- THE TIED CARD OF 'foundrylaw01.FloatsParts'. -/
def floatsPartsCard : Claim7 := { stood := { row := floatsPartsRow, standIns := [], harness := (true, "9a22e20bb4f40eae481a57f7c1423b886dfbb2e9e09523912d020cb4bdb3403e"), looks := false }, kinds := [], alts := [], laidByText := true, laidKinds := [.data, .data, .data], laidTests := true, laidLooks := .later }
def FloatsPartsCardSaid : Prop := Claim7.holds Tryd.pinned (.plain (OpenSpec.ofChange floatsPartsSpec)) floatsPartsCard

/-- THE TIED CARD OF 'foundrylaw01.FloatsSums'. -/
def floatsSumsCard : Claim7 := { stood := { row := floatsSumsRow, standIns := [], harness := (true, "9a22e20bb4f40eae481a57f7c1423b886dfbb2e9e09523912d020cb4bdb3403e"), looks := false }, kinds := [], alts := [], laidByText := true, laidKinds := [.data, .data, .data], laidTests := true, laidLooks := .later }
def FloatsSumsCardSaid : Prop := Claim7.holds Tryd.pinned (.plain (OpenSpec.ofChange floatsSumsSpec)) floatsSumsCard

/-- THE TIED CARD OF 'foundrylaw01.FloatsOrders'. -/
def floatsOrdersCard : Claim7 := { stood := { row := floatsOrdersRow, standIns := [], harness := (true, "9a22e20bb4f40eae481a57f7c1423b886dfbb2e9e09523912d020cb4bdb3403e"), looks := false }, kinds := [], alts := [], laidByText := true, laidKinds := [.data, .data, .data], laidTests := true, laidLooks := .later }
def FloatsOrdersCardSaid : Prop := Claim7.holds Tryd.pinned (.plain (OpenSpec.ofChange floatsOrdersSpec)) floatsOrdersCard

/-- THE TIED CARD OF 'foundrylaw01.FloatsReads'. -/
def floatsReadsCard : Claim7 := { stood := { row := floatsReadsRow, standIns := [], harness := (true, "9a22e20bb4f40eae481a57f7c1423b886dfbb2e9e09523912d020cb4bdb3403e"), looks := false }, kinds := [], alts := [], laidByText := true, laidKinds := [.data, .data, .data], laidTests := true, laidLooks := .later }
def FloatsReadsCardSaid : Prop := Claim7.holds Tryd.pinned (.plain (OpenSpec.ofChange floatsReadsSpec)) floatsReadsCard

/-- THE TIED CARD OF 'foundrylaw01.FloatsInts'. -/
def floatsIntsCard : Claim7 := { stood := { row := floatsIntsRow, standIns := [], harness := (true, "9a22e20bb4f40eae481a57f7c1423b886dfbb2e9e09523912d020cb4bdb3403e"), looks := false }, kinds := [], alts := [], laidByText := true, laidKinds := [.data, .data, .data], laidTests := true, laidLooks := .later }
def FloatsIntsCardSaid : Prop := Claim7.holds Tryd.pinned (.plain (OpenSpec.ofChange floatsIntsSpec)) floatsIntsCard

/-- THE TIED CARD OF 'foundrylaw01.FloatsBack'. -/
def floatsBackCard : Claim7 := { stood := { row := floatsBackRow, standIns := [], harness := (true, "9a22e20bb4f40eae481a57f7c1423b886dfbb2e9e09523912d020cb4bdb3403e"), looks := false }, kinds := [], alts := [], laidByText := true, laidKinds := [.data, .data, .data], laidTests := true, laidLooks := .later }
def FloatsBackCardSaid : Prop := Claim7.holds Tryd.pinned (.plain (OpenSpec.ofChange floatsBackSpec)) floatsBackCard

/-- THE SECOND FORM's CARD OF 'foundrylaw01.FloatsParts'. -/
def floatsPartsUptoCard : Claim7 := { stood := { row := floatsPartsUptoRow, standIns := [], harness := (true, "9a22e20bb4f40eae481a57f7c1423b886dfbb2e9e09523912d020cb4bdb3403e"), looks := false }, kinds := [], alts := [], laidByText := true, laidKinds := [.data, .data, .data], laidTests := true, laidLooks := .later }
def FloatsPartsUptoCardSaid : Prop := Claim7.holds Tryd.pinned (.plain (OpenSpec.upto floatsPartsSpec)) floatsPartsUptoCard

/-- THE SECOND FORM's CARD OF 'foundrylaw01.FloatsSums'. -/
def floatsSumsUptoCard : Claim7 := { stood := { row := floatsSumsUptoRow, standIns := [], harness := (true, "9a22e20bb4f40eae481a57f7c1423b886dfbb2e9e09523912d020cb4bdb3403e"), looks := false }, kinds := [], alts := [], laidByText := true, laidKinds := [.data, .data, .data], laidTests := true, laidLooks := .later }
def FloatsSumsUptoCardSaid : Prop := Claim7.holds Tryd.pinned (.plain (OpenSpec.upto floatsSumsSpec)) floatsSumsUptoCard

/-- THE SECOND FORM's CARD OF 'foundrylaw01.FloatsOrders'. -/
def floatsOrdersUptoCard : Claim7 := { stood := { row := floatsOrdersUptoRow, standIns := [], harness := (true, "9a22e20bb4f40eae481a57f7c1423b886dfbb2e9e09523912d020cb4bdb3403e"), looks := false }, kinds := [], alts := [], laidByText := true, laidKinds := [.data, .data, .data], laidTests := true, laidLooks := .later }
def FloatsOrdersUptoCardSaid : Prop := Claim7.holds Tryd.pinned (.plain (OpenSpec.upto floatsOrdersSpec)) floatsOrdersUptoCard

/-- THE SECOND FORM's CARD OF 'foundrylaw01.FloatsReads'. -/
def floatsReadsUptoCard : Claim7 := { stood := { row := floatsReadsUptoRow, standIns := [], harness := (true, "9a22e20bb4f40eae481a57f7c1423b886dfbb2e9e09523912d020cb4bdb3403e"), looks := false }, kinds := [], alts := [], laidByText := true, laidKinds := [.data, .data, .data], laidTests := true, laidLooks := .later }
def FloatsReadsUptoCardSaid : Prop := Claim7.holds Tryd.pinned (.plain (OpenSpec.upto floatsReadsSpec)) floatsReadsUptoCard

/-- THE SECOND FORM's CARD OF 'foundrylaw01.FloatsInts'. -/
def floatsIntsUptoCard : Claim7 := { stood := { row := floatsIntsUptoRow, standIns := [], harness := (true, "9a22e20bb4f40eae481a57f7c1423b886dfbb2e9e09523912d020cb4bdb3403e"), looks := false }, kinds := [], alts := [], laidByText := true, laidKinds := [.data, .data, .data], laidTests := true, laidLooks := .later }
def FloatsIntsUptoCardSaid : Prop := Claim7.holds Tryd.pinned (.plain (OpenSpec.upto floatsIntsSpec)) floatsIntsUptoCard

/-- THE SECOND FORM's CARD OF 'foundrylaw01.FloatsBack'. -/
def floatsBackUptoCard : Claim7 := { stood := { row := floatsBackUptoRow, standIns := [], harness := (true, "9a22e20bb4f40eae481a57f7c1423b886dfbb2e9e09523912d020cb4bdb3403e"), looks := false }, kinds := [], alts := [], laidByText := true, laidKinds := [.data, .data, .data], laidTests := true, laidLooks := .later }
def FloatsBackUptoCardSaid : Prop := Claim7.holds Tryd.pinned (.plain (OpenSpec.upto floatsBackSpec)) floatsBackUptoCard
end Rows
end Go.Proofs.YtfegnjpajflnkaaDoor
