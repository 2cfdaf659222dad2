/- Ties as curves: plain mathematics, no program in it. -/
import Derived.Test.YthhdpjkmjebjhabTieCurveB
import Derived.Test.YthhdpjkmjebjhabCurveLaw
namespace Go.Proofs.Ythhdpjkmjebjhab

theorem ties_curve {l : List Ti} (h : isTies l = true) (h2 : 2 ≤ l.length) : isCurve l = true := by
  obtain ⟨h3, h4⟩ := isTies_iff.1 h
  refine isCurve_steps.2 ⟨h2, h4, fun i hi => ?_, fun i hi => ?_⟩
  · exact isTies_get h hi
  · exact List.pairwise_iff_getElem.1 h3.up i (i + 1) (by omega) hi (by omega)
theorem swap_turn (l : List Ti) : l.map swapT = l.map turnK := rfl
/-- Through two curves of ties that lead on. -/
theorem through_at {a b : List Ti} (ha : isTies a = true) (ha2 : 2 ≤ a.length) (hb : isTies b = true) (hb2 : 2 ≤ b.length) {x : Ti} (hx : x ∈ thr a b) :
    ∃ y : Int, onC a ((x.1 : Int) : Rat) = true ∧ cAt a ((x.1 : Int) : Rat) = ((y : Int) : Rat) ∧ onC b ((y : Int) : Rat) = true ∧ cAt b ((y : Int) : Rat) = ((x.2 : Int) : Rat) := by
  obtain ⟨y, h1, h2⟩ := mem_thr.1 hx
  have ca := ties_curve ha ha2
  have cb := ties_curve hb hb2
  obtain ⟨i, hi, e⟩ := List.getElem_of_mem h1
  obtain ⟨j, hj, f⟩ := List.getElem_of_mem h2
  have k1 := knot_on ca i hi
  have k2 := knot_at ca i hi
  have k3 := knot_on cb j hj
  have k4 := knot_at cb j hj
  rw [e] at k1 k2
  rw [f] at k3 k4
  exact ⟨y, k1, k2, k3, k4⟩
end Go.Proofs.Ythhdpjkmjebjhab
