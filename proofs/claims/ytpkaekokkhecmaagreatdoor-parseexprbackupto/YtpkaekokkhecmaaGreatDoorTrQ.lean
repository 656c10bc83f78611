/- The program's Same of expressions. -/
import Derived.Test.YtpkaekokkhecmaaGreatDoorTrD
namespace Go.Proofs.YtpkaekokkhecmaaGreatDoor
open Go.RowKit Te
set_option linter.unusedSimpArgs false
set_option linter.unusedVariables false

theorem ret_b {x y : Bool} (h : x = y) : Ending.returned (.bool x) = .returned (.bool y) := by rw [h]
end Go.Proofs.YtpkaekokkhecmaaGreatDoor
