/- The exact laws on records: what the walks name. -/
import Derived.Test.YtkcbgeldnibjcabIntE
import Derived.Test.YtkcbgeldnibjcabRecMean
import Derived.Test.YtkcbgeldnibjcabExact
namespace Go.Proofs.Ytkcbgeldnibjcab
open Go.RowKit

theorem IRow.alloc {w : World} {v : Value} {l : List Int} (h : IRow w v l) (n d : Int) (t : TypeId) : IRow (w.alloc (.cells #[.int .i64 n, .int .i64 d] t)) v l := h.grow ((Below.refl _ _).alloc (Nat.le_refl _) _)
theorem IOwn.alloc {w : World} {B : Nat} {v : Value} {l : List Int} (h : IOwn w B v l) (n d : Int) (t : TypeId) : IOwn (w.alloc (.cells #[.int .i64 n, .int .i64 d] t)) B v l := h.grow ((Below.refl _ _).alloc (Nat.le_refl _) _)
end Go.Proofs.Ytkcbgeldnibjcab
