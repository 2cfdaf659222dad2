/- The laws' own comparison of two lists of Windows (structs of two integers). -/
import Derived.Test.YtanfalkpmmkklaaPair
import Derived.Test.YtanfalkpmmkklaaRegion
namespace Go.Proofs.Ytanfalkpmmkklaa
open Go.RowKit

theorem take_sameWindows {l m : List Pc} {j : Nat} (h : l.take j = m.take j) (hl : j < l.length) (hm : j < m.length) (e : l[j] = m[j]) : l.take (j + 1) = m.take (j + 1) := by
  rw [List.take_succ_eq_append_getElem hl, List.take_succ_eq_append_getElem hm, h, e]
theorem take_differWindows {l m : List Pc} {j : Nat} (hl : j < l.length) (hm : j < m.length) (e : l[j] ≠ m[j]) : l ≠ m := by
  intro h; subst h; exact e rfl
theorem pair_neWindows {p q : Pc} : (p = q) ↔ (p.1 = q.1 ∧ p.2 = q.2) := Prod.ext_iff

end Go.Proofs.Ytanfalkpmmkklaa
