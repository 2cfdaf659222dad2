/- The program's small functions on windows: whether one is valid, whether it is empty, whether a number lies within, what two have in common. -/
import Derived.Test.YtanfalkpmmkklaaWinSpec
namespace Go.Proofs.Ytanfalkpmmkklaa
open Go.RowKit

abbrev valW (p : Wn) : Value := .agg #[.int .i64 p.1, .int .i64 p.2]
theorem okW_parts (x y : Int) : okW (x, y) = (decide (0 ≤ x) && (decide (x ≤ y) && decide (y ≤ 100000))) := by
  rw [Bool.eq_iff_iff, okW_iff]; simp only [Bool.and_eq_true, decide_eq_true_eq]; omega
theorem windowValid_any (p : Wn) (w : World) :
    Calls Try.prog 11 #[.agg #[.int .i64 p.1, .int .i64 p.2]] w fun e w' => e = .returned (.bool (okW p)) ∧ Below w.heap.size w w' := by
  obtain ⟨x, y⟩ := p
  have R := Lib.hid (okW_parts x y)
  by_cases h1 : (0 : Int) ≤ x
  · by_cases h2 : x ≤ y
    · by_cases h3 : y ≤ 100000
      · go_enter Try.func11, Try.ntmps11
        go_wp2_with fail
        go_returns
        exact ⟨by rw [R.out, decide_eq_true h1, decide_eq_true h2, decide_eq_true h3]; rfl, by go_grown⟩
      · go_enter Try.func11, Try.ntmps11
        go_wp2_with fail
        go_returns
        exact ⟨by rw [R.out, decide_eq_true h1, decide_eq_true h2, decide_eq_false (show ¬ y ≤ 100000 by omega)]; rfl, by go_grown⟩
    · go_enter Try.func11, Try.ntmps11
      go_wp2_with fail
      go_returns
      exact ⟨by rw [R.out, decide_eq_true h1, decide_eq_false (show ¬ x ≤ y by omega)]; rfl, by go_grown⟩
  · go_enter Try.func11, Try.ntmps11
    go_wp2_with fail
    go_returns
    exact ⟨by rw [R.out, decide_eq_false (show ¬ (0 : Int) ≤ x by omega)]; rfl, by go_grown⟩
theorem windowValid_is {p : Wn} {b : Bool} (h : okW p = b) (w : World) :
    Calls Try.prog 11 #[.agg #[.int .i64 p.1, .int .i64 p.2]] w fun e w' => e = .returned (.bool b) ∧ Below w.heap.size w w' := by
  subst h; exact windowValid_any p w
end Go.Proofs.Ytanfalkpmmkklaa
