/- The exact laws' own functions on fractions. -/
import Derived.Test.YtahiidepegdnmacDoorHolds
namespace Go.Proofs.YtahiidepegdnmacDoor
open Go.RowKit

theorem St.alloc' {w0 w : World} {l : List (Nat × Int × Int)} (h : St w0 w l) (n d : Int) (t : TypeId) : St w0 (w.alloc (.cells #[.int .i64 n, .int .i64 d] t)) ((w.heap.size, n, d) :: l) :=
  ⟨h.below.alloc h.below.size _, h.holds.alloc n d _⟩
theorem toFrac_any (n d : Int) (w : World) :
    Calls Tryd.prog 5 #[.agg #[.int .i64 n, .int .i64 d]] w fun e w' => e = .returned (.agg #[.int .i64 n, .int .i64 d]) ∧ Below w.heap.size w w' := by
  go_enter Tryd.func5, Tryd.ntmps5
  go_wp2
  go_returns
  exact ⟨rfl, by go_grown⟩
end Go.Proofs.YtahiidepegdnmacDoor
