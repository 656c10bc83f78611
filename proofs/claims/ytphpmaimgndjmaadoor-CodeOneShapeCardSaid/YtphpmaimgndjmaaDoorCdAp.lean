/- append of a row, which may lie nowhere, to a row of the call's own; CodeDecodes. -/
import Derived.Test.YtphpmaimgndjmaaDoorCdRd
import Derived.Test.YtphpmaimgndjmaaDoorCdBk
import Derived.Test.YtphpmaimgndjmaaDoorCdAq
namespace Go.Proofs.YtphpmaimgndjmaaDoor.Cd
open Go.RowKit Ty
set_option linter.unusedSimpArgs false
set_option linter.unusedVariables false

end Go.Proofs.YtphpmaimgndjmaaDoor.Cd
namespace Go.Proofs.YtphpmaimgndjmaaDoor.codeDecodes
open Go.RowKit Ty Cd
end Go.Proofs.YtphpmaimgndjmaaDoor.codeDecodes
