/- The contracts of the model's functions on rows: sums, roughness, ranges. -/
import Derived.Test.YtdnalkppligodaaRowSpec
namespace Go.Proofs.Ytdnalkppligodaa
open Go.RowKit

theorem take_sum_step {l : List Int} {j : Nat} (hj : j < l.length) : (l.take (j + 1)).sum = (l.take j).sum + l[j] := by
  rw [List.take_succ_eq_append_getElem hj, List.sum_append]; simp
theorem take_fold {l : List Int} {j : Nat} (f : Int → Int → Int) (a : Int) (hj : j < l.length) : (l.take (j + 1)).foldl f a = f ((l.take j).foldl f a) l[j] := by
  rw [List.take_succ_eq_append_getElem hj, List.foldl_append]; rfl
theorem rough_take_bound {l : List Int} (h : isRow l = true) (j : Nat) : 0 ≤ roughL (l.take j) ∧ roughL (l.take j) ≤ 400000 := by
  obtain ⟨h1, h2, h3⟩ := isRow_iff.1 h
  have := rough_bound (l := l.take j) (c := 10000) fun x hx => h3 x (List.mem_of_mem_take hx)
  have := rough_nonneg (l.take j)
  have := List.length_take_le' j l
  omega
theorem rough_all_bound {l : List Int} (h : isRow l = true) : 0 ≤ roughL l ∧ roughL l ≤ 400000 := by
  have := rough_take_bound h l.length
  rwa [List.take_length] at this
/-- A number, or none. -/
def NumB (o : Option Int) (e : Ending) : Prop := e = .returned (.tuple #[.int .i64 (o.getD 0), .bool o.isSome])
def RangeB (o : Option (Int × Int)) (e : Ending) : Prop := e = .returned (.tuple #[.int .i64 (o.getD (0, 0)).1, .int .i64 (o.getD (0, 0)).2, .bool o.isSome])
theorem sumOk_no {l : List Int} (h : isRow l = false) : sumOk l = none := if_neg (by rw [h]; simp)
theorem sumOk_yes {l : List Int} (h : isRow l = true) : sumOk l = some l.sum := if_pos h
theorem roughOk_no {l : List Int} (h : isRow l = false) : roughOk l = -1 := if_neg (by rw [h]; simp)
theorem roughOk_yes {l : List Int} (h : isRow l = true) : roughOk l = roughL l := if_pos h
theorem rangeOk_no {l : List Int} (h : isRow l = false) : rangeOk l = none := if_neg (by rw [h]; simp)
theorem rangeOk_yes {l : List Int} (h : isRow l = true) : rangeOk l = some (lowL l, highL l) := if_pos h
end Go.Proofs.Ytdnalkppligodaa
