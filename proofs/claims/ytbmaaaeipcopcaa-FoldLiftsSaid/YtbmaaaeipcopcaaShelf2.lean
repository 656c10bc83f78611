/- Contracts of the library, laid at this program. -/
import Derived.Shelf.Bits.Mul64
import Derived.Test.YtbmaaaeipcopcaaProg
import Derived.Test.YtbmaaaeipcopcaaShelf
namespace Go.Proofs
open Go.Shelf

end Go.Proofs
