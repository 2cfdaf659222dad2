/- The program's OrderBetween. -/
import Derived.Test.YtcemgdekcfdfhaaDoorOrdI2
import Derived.Test.YtcemgdekcfdfhaaDoorOrdFind
namespace Go.Proofs.YtcemgdekcfdfhaaDoor
open Go.RowKit

end Go.Proofs.YtcemgdekcfdfhaaDoor
