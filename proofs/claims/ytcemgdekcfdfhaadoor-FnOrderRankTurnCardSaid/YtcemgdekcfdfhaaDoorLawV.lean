/- What the walks of the laws on the rank of a text name. -/
import Derived.Test.YtcemgdekcfdfhaaDoorLawU
import Derived.Test.YtcemgdekcfdfhaaDoorLawN
import Derived.Test.YtcemgdekcfdfhaaDoorOrdR5
namespace Go.Proofs.YtcemgdekcfdfhaaDoor
open Go.RowKit

theorem rkI_is {w : World} {L : List UInt8} {z : Int} (hL : L.length ≤ 1048600) (hM : ML w) (e : rankOf L = z) : Calls Tryd.prog 11 #[.string (str L)] w fun e w' => e = .returned (.int .i64 z) ∧ Below w.heap.size w w' := by
  have := rankImpl_any L hL hM; rwa [e] at this
theorem rkS_is {w : World} {L : List UInt8} {z : Int} (hL : L.length ≤ 1048600) (e : rankOf L = z) : Calls Tryd.prog 14 #[.string (str L)] w fun e w' => e = .returned (.int .i64 z) ∧ Below w.heap.size w w' := by
  have := specRank_any L hL w; rwa [e] at this
end Go.Proofs.YtcemgdekcfdfhaaDoor
