/- The exact law on the orders with a rank: what its walk names. -/
import Derived.Test.YtcemgdekcfdfhabOrdX
import Derived.Test.YtcemgdekcfdfhabOrdN2
namespace Go.Proofs.Ytcemgdekcfdfhab
open Go.RowKit

variable {P : Program} {f : FuncId} {a : Array Value} {w : World}
theorem onth_gen {o : Option (List UInt8)} {m : List UInt8} {b : Bool} (h : Calls P f a w fun e w' => NthB w o e w') (h1 : o.getD [] = m) (h2 : o.isSome = b) :
    Calls P f a w fun e w' => e = .returned (.tuple #[.string (str m), .bool b]) ∧ Below w.heap.size w w' := by
  subst h1 h2; exact h
end Go.Proofs.Ytcemgdekcfdfhab
