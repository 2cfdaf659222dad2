/- The operations on fractions, of the model. -/
import Derived.Test.YthpfehjjaamkkadFracIn
namespace Go.Proofs.Ythpfehjjaamkkad
open Go.RowKit

end Go.Proofs.Ythpfehjjaamkkad
