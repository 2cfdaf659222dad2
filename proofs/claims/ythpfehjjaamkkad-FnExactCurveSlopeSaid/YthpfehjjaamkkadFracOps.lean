/- The operations on fractions, of the program. -/
import Derived.Test.YthpfehjjaamkkadFracIn
namespace Go.Proofs.Ythpfehjjaamkkad
open Go.RowKit

end Go.Proofs.Ythpfehjjaamkkad
