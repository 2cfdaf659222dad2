/- The contracts of the program's functions on curves: the search for the straight part at a number. -/
import Derived.Test.YthpfehjjaamkkadStraight
import Derived.Test.YthpfehjjaamkkadRegion
namespace Go.Proofs.Ythpfehjjaamkkad
open Go.RowKit

theorem dp_fv {n : Int} (h : 0 ≤ n) (k : n ≤ 30000) : fv n 1 = true := fv_iff.2 ⟨by omega, by omega, by omega, by omega, Int.gcd_one⟩
theorem less_whole {n d k : Int} (hf : fv n d = true) (h0 : 0 ≤ k) (h1 : k ≤ 30000) : (fv n d && fv k 1 && decide (n * 1 < k * d)) = decide (fq n d < (k : Rat)) := by
  rw [hf, dp_fv h0 h1, ← fq_whole]
  have := fq_lt hf (dp_fv h0 h1)
  simp only [Bool.true_and]
  exact decide_eq_decide.2 this
theorem whole_less {n d k : Int} (hf : fv n d = true) (h0 : 0 ≤ k) (h1 : k ≤ 30000) : (fv k 1 && fv n d && decide (k * d < n * 1)) = decide ((k : Rat) < fq n d) := by
  rw [hf, dp_fv h0 h1, ← fq_whole]
  have := fq_lt (dp_fv h0 h1) hf
  simp only [Bool.true_and]
  exact decide_eq_decide.2 this
theorem curve_is {w : World} {v : Value} {l : List Pc} {b : Bool} (h : Row w v l) (hb : isCurve l = b) : Calls Try.prog 14 #[v] w fun e w' => Val w (.bool b) e w' := by
  have := implCurveValid_any h
  rwa [hb] at this

end Go.Proofs.Ythpfehjjaamkkad
