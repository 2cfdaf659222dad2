/- What the walks of the laws on the rank of a text name. -/
import Derived.Test.YtcemgdekcfdfhabDoorLawU
import Derived.Test.YtcemgdekcfdfhabDoorLawN
import Derived.Test.YtcemgdekcfdfhabDoorOrdR5
namespace Go.Proofs.YtcemgdekcfdfhabDoor
open Go.RowKit

theorem rkI_is {w : World} {L : List UInt8} {z : Int} (hL : L.length ≤ 1048600) (hM : ML w) (e : rankOf L = z) : Calls Tryd.prog 8 #[.string (str L)] w fun e w' => e = .returned (.int .i64 z) ∧ Below w.heap.size w w' := by
  have := rankImpl_any L hL hM; rwa [e] at this
end Go.Proofs.YtcemgdekcfdfhabDoor
