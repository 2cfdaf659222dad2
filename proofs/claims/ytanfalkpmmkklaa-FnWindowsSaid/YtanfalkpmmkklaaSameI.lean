/- sameInts of the laws. -/
import Derived.Test.YtanfalkpmmkklaaInts
import Derived.Test.YtanfalkpmmkklaaRegion
namespace Go.Proofs.Ytanfalkpmmkklaa
open Go.RowKit

theorem isame_take {l m : List Int} {j : Nat} (h : l.take j = m.take j) (hl : j < l.length) (hm : j < m.length) (e : l[j] = m[j]) : l.take (j + 1) = m.take (j + 1) := by
  rw [List.take_succ_eq_append_getElem hl, List.take_succ_eq_append_getElem hm, h, e]
end Go.Proofs.Ytanfalkpmmkklaa
