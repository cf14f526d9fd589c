/- What is proved here: what these functions of the library answer, by the library's own contracts, at this program's numbers. Conditions: those that each names. -/
import Derived.Shelf.SlGeneric
import Derived.Shelf.SlSortCmp.WholeK
import Derived.Shelf.SlSortCmp.NoneTotal
import Derived.Ground.SlsfProg
import Derived.Test.YtebaojbagogniaaDoorProg
import Derived.Shelf.Small.Bits
import Derived.Shelf.Small.Wraps
import Derived.Shelf.Strconv.Itoa0
namespace Go.Proofs
open Go.Shelf
end Go.Proofs
