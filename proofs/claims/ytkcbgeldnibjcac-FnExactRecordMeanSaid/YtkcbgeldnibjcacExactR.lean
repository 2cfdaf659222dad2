/- The exact laws on records: what the walks name. -/
import Derived.Test.YtkcbgeldnibjcacIntE
import Derived.Test.YtkcbgeldnibjcacRecMean
import Derived.Test.YtkcbgeldnibjcacExact
namespace Go.Proofs.Ytkcbgeldnibjcac
open Go.RowKit

theorem IRow.alloc {w : World} {v : Value} {l : List Int} (h : IRow w v l) (n d : Int) (t : TypeId) : IRow (w.alloc (.cells #[.int .i64 n, .int .i64 d] t)) v l := h.grow ((Below.refl _ _).alloc (Nat.le_refl _) _)
theorem IOwn.alloc {w : World} {B : Nat} {v : Value} {l : List Int} (h : IOwn w B v l) (n d : Int) (t : TypeId) : IOwn (w.alloc (.cells #[.int .i64 n, .int .i64 d] t)) B v l := h.grow ((Below.refl _ _).alloc (Nat.le_refl _) _)
theorem eqFrac_yes (n d : Int) (w : World) : Calls Try.prog 10 #[.agg #[.int .i64 n, .int .i64 d], .agg #[.int .i64 n, .int .i64 d]] w fun e w' => e = .returned (.bool true) ∧ Below w.heap.size w w' :=
  (eqFrac_any n d n d w).mono fun e w' h => ⟨by rw [h.1]; simp, h.2⟩
end Go.Proofs.Ytkcbgeldnibjcac
