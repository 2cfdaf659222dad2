/- The exact laws on orders: what the walks name. -/
import Derived.Test.YtcemgdekcfdfhabIntM
import Derived.Test.YtcemgdekcfdfhabOrdI3
import Derived.Test.YtcemgdekcfdfhabOrdFind
namespace Go.Proofs.Ytcemgdekcfdfhab
open Go.RowKit

variable {P : Program} {f : FuncId} {a : Array Value} {w : World}
theorem oval_gen {r x : Int} (h : Calls P f a w fun e w' => Val w (.int .i64 r) e w') (h1 : r = x) : Calls P f a w fun e w' => e = .returned (.int .i64 x) ∧ Below w.heap.size w w' := by
  subst h1; exact h
theorem i63_of {n : Int} (h : (Lit.int .i64 n).wf = true) : -9223372036854775808 ≤ n ∧ n ≤ 9223372036854775807 := by
  simp [Lit.wf, IntKind.min, IntKind.max, IntKind.signed, IntKind.bits] at h
  omega
end Go.Proofs.Ytcemgdekcfdfhab
