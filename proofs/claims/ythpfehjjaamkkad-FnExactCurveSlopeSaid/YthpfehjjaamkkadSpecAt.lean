/- The contracts of the model's functions on curves: the value at a number on the curve. -/
import Derived.Test.YthpfehjjaamkkadSpecCurve
import Derived.Test.YthpfehjjaamkkadTopCut
namespace Go.Proofs.Ythpfehjjaamkkad
open Go.RowKit

theorem specvalid_is {w : World} {v : Value} {l : List Pc} {b : Bool} (h : Row w v l) (hb : isCurve l = b) : Calls Try.prog 10 #[v] w fun e w' => Val w (.bool b) e w' := by
  have := specCurveValid_any h
  rwa [hb] at this
theorem seg_parts (p q : Pc) (x : Rat) : seg p q x = (p.2 : Rat) + (x - (p.1 : Rat)) * sl p q := rfl
theorem sl_nonneg {p q : Pc} (h1 : p.1 < q.1) (h2 : p.2 < q.2) : 0 ≤ sl p q := Rat.le_of_lt (slope_pos h1 h2)
theorem sl_fits {p q : Pc} (hp : Dp p) (hq : Dp q) (h1 : p.1 < q.1) (h2 : p.2 < q.2) : fits (sl p q) = true := by
  obtain ⟨p1, p2, p3, p4⟩ := hp
  obtain ⟨q1, q2, q3, q4⟩ := hq
  have := fits_slope (a := q.2 - p.2) (b := q.1 - p.1) (by omega) (by omega) (by omega) (by omega)
  simp only [Rat.intCast_sub] at this
  exact this
/-- A whole number that is in range, as a fraction. -/
theorem whole_add {a n d n2 d2 : Int} {ok : Bool} {e x : Rat} (h0 : 0 ≤ a) (h1 : a ≤ 30000) (hf : fv n d = true) (he : fq n d = e) (hx : (a : Rat) + e = x)
    (h : Res (fv a 1 && fv n d) (fq a 1 + fq n d) n2 d2 ok) : Res true x n2 d2 ok := by
  rw [dp_fv h0 h1, hf, fq_whole, he, hx] at h
  exact h

theorem sub_whole {a n d n2 d2 : Int} {ok : Bool} (h0 : 0 ≤ a) (h1 : a ≤ 30000) (hf : fv n d = true) (h : Res (fv n d && fv a 1) (fq n d - fq a 1) n2 d2 ok) : Res true (fq n d - (a : Rat)) n2 d2 ok := by
  rw [dp_fv h0 h1, hf, fq_whole] at h
  exact h
theorem sub_ok {a n d n2 d2 : Int} {ok : Bool} (h0 : 0 ≤ a) (hf : fv n d = true) (ha : (a : Rat) ≤ fq n d) (h : Res true (fq n d - (a : Rat)) n2 d2 ok) : ok = true ∧ fv n2 d2 = true ∧ fq n2 d2 = fq n d - (a : Rat) := by
  rcases h with ⟨h1, _, h3, h4⟩ | ⟨_, _, _, h4⟩
  · exact ⟨h1, h3, h4⟩
  · rw [fits_less (fq_fits hf) h0 ha] at h4
    simp at h4
/-- Where the product does not fit, the sum does not. -/
theorem part_no {a : Int} {e x : Rat} (h0 : 0 ≤ a) (he : 0 ≤ e) (hx : (a : Rat) + e = x) (h : fits e = false) : fits x = false := by
  cases hf : fits x
  · rfl
  · rw [← hx] at hf
    rw [fits_part hf h0 he] at h
    cases h
end Go.Proofs.Ythpfehjjaamkkad
