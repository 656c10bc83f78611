/- Contracts of the library, laid at this program. -/
import Derived.Shelf.Bits.Mul64
import Derived.Test.YteodkhhdiabkkaaProg
import Derived.Test.YteodkhhdiabkkaaShelf
namespace Go.Proofs
open Go.Shelf

end Go.Proofs
