/- Contracts of the library, laid at this program. -/
import Derived.Shelf.Bits.Mul64
import Derived.Test.YtmkfbppjbojdmaaGreatProg
import Derived.Test.YtmkfbppjbojdmaaGreatShelf
namespace Go.Proofs
open Go.Shelf

end Go.Proofs
