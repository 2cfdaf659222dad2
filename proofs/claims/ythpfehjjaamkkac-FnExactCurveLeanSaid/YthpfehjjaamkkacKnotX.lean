/- The exact laws on curves: lengths; fractions as results. -/
import Derived.Test.YthpfehjjaamkkacKnotW
import Derived.Test.YthpfehjjaamkkacCurveLaw
import Derived.Test.YthpfehjjaamkkacCurveTurn
namespace Go.Proofs.Ythpfehjjaamkkac
open Go.RowKit

theorem turn20 (l : List Pc) : ((turnOf l).getD []).length ≤ 1048576 := by
  unfold turnOf; split
  · rename_i h; have := isCurve_len h; simp; omega
  · simp
theorem lean20 (l : List Pc) : ((leanOf l).getD []).length ≤ 1048576 := by
  unfold leanOf; split
  · rename_i h; have := isCurve_len h; have := leanL_length l; simp; omega
  · simp
theorem add20 (k : Pc) (l : List Pc) : ((addOf k l).getD []).length ≤ 1048576 := by
  unfold addOf; split
  · rename_i h; have := isCurve_len h.2; simp; omega
  · simp
end Go.Proofs.Ythpfehjjaamkkac
