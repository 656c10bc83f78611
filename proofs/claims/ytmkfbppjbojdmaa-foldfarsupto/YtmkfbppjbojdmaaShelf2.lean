/- Contracts of the library, laid at this program. -/
import Derived.Shelf.Bits.Mul64
import Derived.Test.YtmkfbppjbojdmaaProg
import Derived.Test.YtmkfbppjbojdmaaShelf
namespace Go.Proofs
open Go.Shelf

end Go.Proofs
