/- Contracts of the library, laid at this program. -/
import Derived.Shelf.Small.Bits
import Derived.Shelf.Strconv.Itoa0
import Derived.Shelf.Bits.Mul64
import Derived.Test.YtakkiipkmogagaaGreatProg
import Derived.Test.YtakkiipkmogagaaGreatShelf
namespace Go.Proofs
open Go.Shelf

end Go.Proofs
