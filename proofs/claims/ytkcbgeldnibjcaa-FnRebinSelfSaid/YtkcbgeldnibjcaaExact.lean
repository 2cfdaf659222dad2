/- The exact laws' own functions on fractions. -/
import Derived.Test.YtkcbgeldnibjcaaHolds
namespace Go.Proofs.Ytkcbgeldnibjcaa
open Go.RowKit

theorem St.alloc' {w0 w : World} {l : List (Nat × Int × Int)} (h : St w0 w l) (n d : Int) (t : TypeId) : St w0 (w.alloc (.cells #[.int .i64 n, .int .i64 d] t)) ((w.heap.size, n, d) :: l) :=
  ⟨h.below.alloc h.below.size _, h.holds.alloc n d _⟩
end Go.Proofs.Ytkcbgeldnibjcaa
