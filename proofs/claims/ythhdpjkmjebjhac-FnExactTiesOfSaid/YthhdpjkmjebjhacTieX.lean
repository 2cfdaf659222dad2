/- How long the answers on ties are: for the exact laws. -/
import Derived.Test.YthhdpjkmjebjhacPcG
import Derived.Test.YthhdpjkmjebjhacTieLaw
namespace Go.Proofs.Ythhdpjkmjebjhac
open Go.RowKit

theorem join12 (a b : List Ti) : ((joinT a b).getD []).length ≤ 12 := by
  unfold joinT; split
  · rename_i c; exact c.2
  · simp
theorem turn12 (a : List Ti) : ((turnT a).getD []).length ≤ 12 := by
  unfold turnT; split
  · rename_i c; simpa using isTies_len c
  · simp
theorem thr12 (a b : List Ti) : ((thrT a b).getD []).length ≤ 12 := by
  unfold thrT; split
  · rename_i c; exact isTies_len (isTies_thr c.1 c.2).1
  · simp
theorem cur12 (a : List Ti) : ((curT a).getD []).length ≤ 12 := by
  unfold curT; split
  · rename_i c; exact isTies_len c.1
  · simp
theorem of12 (a b : List (Int × Int)) (t : Int) (m : List Int) : ((ofT a b t m).getD []).length ≤ 12 := by
  unfold ofT; split
  · rename_i c; have := (tof_len c).2; show (tof a b m).length ≤ 12; omega
  · simp
end Go.Proofs.Ythhdpjkmjebjhac
