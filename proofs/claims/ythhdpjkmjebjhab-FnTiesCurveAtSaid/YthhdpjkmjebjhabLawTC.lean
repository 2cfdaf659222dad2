/- What the walks of the laws on ties as curves name. -/
import Derived.Test.YthhdpjkmjebjhabLawT
import Derived.Test.YthhdpjkmjebjhabTieJ
import Derived.Test.YthhdpjkmjebjhabTieCurve
import Derived.Test.YthhdpjkmjebjhabCurveTurn
import Derived.Test.YthhdpjkmjebjhabCurveImpl
import Derived.Test.YthhdpjkmjebjhabSameK
import Derived.Test.YthhdpjkmjebjhabHolds
namespace Go.Proofs.Ythhdpjkmjebjhab
open Go.RowKit

theorem tie_frac {P : Program} {f : FuncId} {a : Array Value} {w : World} {v : Bool} {r : Rat} {k : Int} (h : Calls P f a w fun e w' => GotFrac v r w w' e) (hv : v = true) (er : r = (k : Rat)) (h0 : 0 ≤ k) (h1 : k ≤ 30000) :
    Calls P f a w fun e w' => e = .returned (.tuple #[.agg #[.int .i64 k, .int .i64 1], .bool true]) ∧ Below w.heap.size w w' :=
  h.mono fun e w' ⟨n, d, ok, he, hr, hb⟩ => by
    have hf : fits r = true := fits_yes (dp_fv h0 h1) (by rw [fq_whole, er])
    rcases hr with ⟨rfl, _, h3, h4⟩ | ⟨_, _, _, h4⟩
    · obtain ⟨rfl, rfl⟩ := fq_inj h3 (dp_fv h0 h1) (by rw [h4, fq_whole, er])
      exact ⟨he, hb⟩
    · rw [hv, hf] at h4; simp at h4
theorem tie_in_30000 {l : List Ti} (h : isTies l = true) {x : Ti} (hx : x ∈ l) : 0 ≤ x.1 ∧ x.1 ≤ 30000 ∧ 0 ≤ x.2 ∧ x.2 ≤ 30000 := tieOk_iff.1 ((isTies_iff.1 h).1.ok _ hx)
theorem at_tie {w : World} {v : Value} {l : List Ti} (h : Row w v l) (ht : isTies l = true) (h2 : 2 ≤ l.length) {x y : Int} (hx : (x, y) ∈ l) :
    Calls Try.prog 23 #[v, .int .i64 x] w fun e w' => e = .returned (.tuple #[.agg #[.int .i64 y, .int .i64 1], .bool true]) ∧ Below w.heap.size w w' := by
  have c := ties_curve ht h2
  have b := tie_in_30000 ht hx
  obtain ⟨i, hi, e⟩ := List.getElem_of_mem hx
  have k1 := knot_on c i hi
  have k2 := knot_at c i hi
  rw [e] at k1 k2
  exact tie_frac (implCurveAt_any x h) k1 k2 b.2.2.1 b.2.2.2
theorem then_tie {w : World} {v u : Value} {a b : List Ti} (h : Row w v a) (k : Row w u b) (ha : isTies a = true) (ha2 : 2 ≤ a.length) (hb : isTies b = true) (hb2 : 2 ≤ b.length) {x y : Int} (hx : (x, y) ∈ thr a b) :
    Calls Try.prog 32 #[v, u, .int .i64 x] w fun e w' => e = .returned (.tuple #[.agg #[.int .i64 y, .int .i64 1], .bool true]) ∧ Below w.heap.size w w' := by
  obtain ⟨z, k1, k2, k3, k4⟩ := through_at ha ha2 hb hb2 hx
  have bd := tie_in_30000 (isTies_thr ha hb).1 hx
  refine tie_frac (implCurveThen_any x h k) ?_ ?_ bd.2.2.1 bd.2.2.2
  · simp only [thenV, Bool.and_eq_true]
    exact ⟨k1, by rw [k2]; exact k3⟩
  · simp only [thenR]
    rw [k2]; exact k4
theorem cur_len {l : List Ti} {o : Option (List Ti)} {m : List Ti} (h : curT l = o) (ho : o = some m) : isTies l = true ∧ 2 ≤ l.length ∧ m = l := by
  subst ho
  unfold curT at h
  split at h
  · rename_i c
    exact ⟨c.1, c.2, (Option.some.inj h).symm⟩
  · cases h
theorem knots_yes {w : World} {v u : Value} {l m : List Pc} (h : Row w v l) (k : Row w u m) (e : l = m) : Calls Try.prog 20 #[v, u] w fun e w' => Val w (.bool true) e w' := by
  have := sameKnots_any h k; rwa [decide_eq_true e] at this
theorem valid_is {w : World} {v : Value} {l : List Pc} {c : Bool} (h : Row w v l) (hc : isCurve l = c) : Calls Try.prog 22 #[v] w fun e w' => Val w (.bool c) e w' := by
  have := implCurveValid_any h; rwa [hc] at this
theorem kturn_yes {w : World} {v : Value} {l m : List Pc} (h : Row w v l) (hm : turnOf l = some m) : Calls Try.prog 21 #[v] w fun e w' => GotT 68 w m e w' := by
  have := implCurveTurn_any h; rw [hm] at this; exact this
end Go.Proofs.Ythhdpjkmjebjhab
