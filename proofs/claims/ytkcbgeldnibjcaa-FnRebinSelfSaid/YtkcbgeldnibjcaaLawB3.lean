/- A record in its own bins. -/
import Derived.Test.YtkcbgeldnibjcaaLawB2
namespace Go.Proofs.Ytkcbgeldnibjcaa
open Go.RowKit

theorem pr_int (k : Int) : pr (k : Rat) = (k, 1) := by unfold pr; rw [Rat.num_intCast, Rat.den_intCast]; rfl
theorem reb_ends' {l m : List Int} (h : isRec l m = true) (hL : l.length = m.length + 1) : rebOf l m [l[0]'(by omega), l[m.length]'(by omega)] = some [((m.sum : Int) : Rat)] := by
  have := rebOf_ends h
  simpa only [show l.length - 1 = m.length by omega] using this
theorem self_get {m : List Int} {j : Nat} (hj : j < m.length) : ((m.map fun a : Int => (a : Rat)).map pr)[j]'(by simpa using hj) = (m[j], 1) := by
  rw [List.getElem_map, List.getElem_map, pr_int]
end Go.Proofs.Ytkcbgeldnibjcaa
