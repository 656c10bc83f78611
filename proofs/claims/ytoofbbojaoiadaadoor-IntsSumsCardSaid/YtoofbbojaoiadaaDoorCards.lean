/-
  DERIVED. GIVEN WITH THE SEED: THE CARDS: each row of YtoofbbojaoiadaaDoorRows.lean that lists a variable, with what it lists TIED to the program's text (the seventh form; the later family's looks); each row that meets fmt, with fmt's text TOLD by the authors' own Lean function (tested against real Go, not proved from fmt's source: count such statements apart). THE CARD IS WHAT COUNTS. Prove the row's statement (the work); the ties are given (YtoofbbojaoiadaaDoorTie.lean); close each card by the builder's one call (the guide's Derived/Test/ToyasCard.lean, 'card_holds'). Laid BY PROGRAM, IN A SANDBOX (cutbox-door.mjs). By AI agents, Wed Nov 11 2026. No macro, syntax, notation, axiom, sorry.
-/
import Derived.Test.YtoofbbojaoiadaaDoorRows
import GoSem.ClaimSeven
namespace Go.Proofs.YtoofbbojaoiadaaDoor
namespace Rows

/-- THE TIED CARD OF 'foundrylaw02.IntsReckons'. -/
def intsReckonsCard : Claim7 := { stood := { row := intsReckonsRow, standIns := [], harness := (true, "3d4a3edbecbf328a68d59021980d2da9b8c45c331b073d08d7aa274fbf6d777a"), looks := false }, kinds := [], alts := [], laidByText := true, laidKinds := [.data, .data, .data], laidTests := true, laidLooks := .later }
def IntsReckonsCardSaid : Prop := Claim7.holds Tryd.pinned (.plain (OpenSpec.ofChange intsReckonsSpec)) intsReckonsCard

/-- THE TIED CARD OF 'foundrylaw02.IntsSums'. -/
def intsSumsCard : Claim7 := { stood := { row := intsSumsRow, standIns := [], harness := (true, "3d4a3edbecbf328a68d59021980d2da9b8c45c331b073d08d7aa274fbf6d777a"), looks := false }, kinds := [], alts := [], laidByText := true, laidKinds := [.data, .data, .data], laidTests := true, laidLooks := .later }
def IntsSumsCardSaid : Prop := Claim7.holds Tryd.pinned (.plain (OpenSpec.ofChange intsSumsSpec)) intsSumsCard

/-- THE TIED CARD OF 'foundrylaw02.IntsReads'. -/
def intsReadsCard : Claim7 := { stood := { row := intsReadsRow, standIns := [], harness := (true, "3d4a3edbecbf328a68d59021980d2da9b8c45c331b073d08d7aa274fbf6d777a"), looks := false }, kinds := [], alts := [], laidByText := true, laidKinds := [.data, .data, .data], laidTests := true, laidLooks := .later }
def IntsReadsCardSaid : Prop := Claim7.holds Tryd.pinned (.plain (OpenSpec.ofChange intsReadsSpec)) intsReadsCard

/-- THE TIED CARD OF 'foundrylaw02.IntsExact'. -/
def intsExactCard : Claim7 := { stood := { row := intsExactRow, standIns := [], harness := (true, "3d4a3edbecbf328a68d59021980d2da9b8c45c331b073d08d7aa274fbf6d777a"), looks := false }, kinds := [], alts := [], laidByText := true, laidKinds := [.data, .data, .data], laidTests := true, laidLooks := .later }
def IntsExactCardSaid : Prop := Claim7.holds Tryd.pinned (.plain (OpenSpec.ofChange intsExactSpec)) intsExactCard

/-- THE TIED CARD OF 'foundrylaw02.IntsEuclid'. -/
def intsEuclidCard : Claim7 := { stood := { row := intsEuclidRow, standIns := [], harness := (true, "3d4a3edbecbf328a68d59021980d2da9b8c45c331b073d08d7aa274fbf6d777a"), looks := false }, kinds := [], alts := [], laidByText := true, laidKinds := [.data, .data, .data], laidTests := true, laidLooks := .later }
def IntsEuclidCardSaid : Prop := Claim7.holds Tryd.pinned (.plain (OpenSpec.ofChange intsEuclidSpec)) intsEuclidCard

/-- THE TIED CARD OF 'foundrylaw02.IntsBack'. -/
def intsBackCard : Claim7 := { stood := { row := intsBackRow, standIns := [], harness := (true, "3d4a3edbecbf328a68d59021980d2da9b8c45c331b073d08d7aa274fbf6d777a"), looks := false }, kinds := [], alts := [], laidByText := true, laidKinds := [.data, .data, .data], laidTests := true, laidLooks := .later }
def IntsBackCardSaid : Prop := Claim7.holds Tryd.pinned (.plain (OpenSpec.ofChange intsBackSpec)) intsBackCard

/-- THE SECOND FORM's CARD OF 'foundrylaw02.IntsReckons'. -/
def intsReckonsUptoCard : Claim7 := { stood := { row := intsReckonsUptoRow, standIns := [], harness := (true, "3d4a3edbecbf328a68d59021980d2da9b8c45c331b073d08d7aa274fbf6d777a"), looks := false }, kinds := [], alts := [], laidByText := true, laidKinds := [.data, .data, .data], laidTests := true, laidLooks := .later }
def IntsReckonsUptoCardSaid : Prop := Claim7.holds Tryd.pinned (.plain (OpenSpec.upto intsReckonsSpec)) intsReckonsUptoCard

/-- THE SECOND FORM's CARD OF 'foundrylaw02.IntsSums'. -/
def intsSumsUptoCard : Claim7 := { stood := { row := intsSumsUptoRow, standIns := [], harness := (true, "3d4a3edbecbf328a68d59021980d2da9b8c45c331b073d08d7aa274fbf6d777a"), looks := false }, kinds := [], alts := [], laidByText := true, laidKinds := [.data, .data, .data], laidTests := true, laidLooks := .later }
def IntsSumsUptoCardSaid : Prop := Claim7.holds Tryd.pinned (.plain (OpenSpec.upto intsSumsSpec)) intsSumsUptoCard

/-- THE SECOND FORM's CARD OF 'foundrylaw02.IntsReads'. -/
def intsReadsUptoCard : Claim7 := { stood := { row := intsReadsUptoRow, standIns := [], harness := (true, "3d4a3edbecbf328a68d59021980d2da9b8c45c331b073d08d7aa274fbf6d777a"), looks := false }, kinds := [], alts := [], laidByText := true, laidKinds := [.data, .data, .data], laidTests := true, laidLooks := .later }
def IntsReadsUptoCardSaid : Prop := Claim7.holds Tryd.pinned (.plain (OpenSpec.upto intsReadsSpec)) intsReadsUptoCard

/-- THE SECOND FORM's CARD OF 'foundrylaw02.IntsExact'. -/
def intsExactUptoCard : Claim7 := { stood := { row := intsExactUptoRow, standIns := [], harness := (true, "3d4a3edbecbf328a68d59021980d2da9b8c45c331b073d08d7aa274fbf6d777a"), looks := false }, kinds := [], alts := [], laidByText := true, laidKinds := [.data, .data, .data], laidTests := true, laidLooks := .later }
def IntsExactUptoCardSaid : Prop := Claim7.holds Tryd.pinned (.plain (OpenSpec.upto intsExactSpec)) intsExactUptoCard

/-- THE SECOND FORM's CARD OF 'foundrylaw02.IntsEuclid'. -/
def intsEuclidUptoCard : Claim7 := { stood := { row := intsEuclidUptoRow, standIns := [], harness := (true, "3d4a3edbecbf328a68d59021980d2da9b8c45c331b073d08d7aa274fbf6d777a"), looks := false }, kinds := [], alts := [], laidByText := true, laidKinds := [.data, .data, .data], laidTests := true, laidLooks := .later }
def IntsEuclidUptoCardSaid : Prop := Claim7.holds Tryd.pinned (.plain (OpenSpec.upto intsEuclidSpec)) intsEuclidUptoCard

/-- THE SECOND FORM's CARD OF 'foundrylaw02.IntsBack'. -/
def intsBackUptoCard : Claim7 := { stood := { row := intsBackUptoRow, standIns := [], harness := (true, "3d4a3edbecbf328a68d59021980d2da9b8c45c331b073d08d7aa274fbf6d777a"), looks := false }, kinds := [], alts := [], laidByText := true, laidKinds := [.data, .data, .data], laidTests := true, laidLooks := .later }
def IntsBackUptoCardSaid : Prop := Claim7.holds Tryd.pinned (.plain (OpenSpec.upto intsBackSpec)) intsBackUptoCard
end Rows
end Go.Proofs.YtoofbbojaoiadaaDoor
