/- The contracts of the model's functions on curves: values of curves. -/
import Derived.Test.YthpfehjjaamkkadSpecAt
namespace Go.Proofs.Ythpfehjjaamkkad
open Go.RowKit

theorem l6In_is {n a b : Int} {r : Bool} (h : isIn n a b = r) (w : World) :
    Calls Try.prog 11 #[.int .i64 n, .int .i64 a, .int .i64 b] w fun e w' => e = .returned (.bool r) ∧ w = w' := by
  subst h; exact l6In_any n a b w

end Go.Proofs.Ythpfehjjaamkkad
