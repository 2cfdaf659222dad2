/- The program's OrderBetween. -/
import Derived.Test.YtcemgdekcfdfhabDoorOrdI2
import Derived.Test.YtcemgdekcfdfhabDoorOrdFind
namespace Go.Proofs.YtcemgdekcfdfhabDoor
open Go.RowKit

end Go.Proofs.YtcemgdekcfdfhabDoor
