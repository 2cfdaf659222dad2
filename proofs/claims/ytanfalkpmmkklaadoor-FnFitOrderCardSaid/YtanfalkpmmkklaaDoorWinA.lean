/- The program's small functions on windows: whether one is valid, whether it is empty, whether a number lies within, what two have in common. -/
import Derived.Test.YtanfalkpmmkklaaDoorWinSpec
namespace Go.Proofs.YtanfalkpmmkklaaDoor
open Go.RowKit

abbrev valW (p : Wn) : Value := .agg #[.int .i64 p.1, .int .i64 p.2]
theorem okW_parts (x y : Int) : okW (x, y) = (decide (0 ≤ x) && (decide (x ≤ y) && decide (y ≤ 100000))) := by
  rw [Bool.eq_iff_iff, okW_iff]; simp only [Bool.and_eq_true, decide_eq_true_eq]; omega
theorem windowValid_any (p : Wn) (w : World) :
    Calls Tryd.prog 38 #[.agg #[.int .i64 p.1, .int .i64 p.2]] w fun e w' => e = .returned (.bool (okW p)) ∧ Below w.heap.size w w' := by
  obtain ⟨x, y⟩ := p
  have R := Lib.hid (okW_parts x y)
  by_cases h1 : (0 : Int) ≤ x
  · by_cases h2 : x ≤ y
    · by_cases h3 : y ≤ 100000
      · go_enter Tryd.func38, Tryd.ntmps38
        go_wp2_with fail
        go_returns
        exact ⟨by rw [R.out, decide_eq_true h1, decide_eq_true h2, decide_eq_true h3]; rfl, by go_grown⟩
      · go_enter Tryd.func38, Tryd.ntmps38
        go_wp2_with fail
        go_returns
        exact ⟨by rw [R.out, decide_eq_true h1, decide_eq_true h2, decide_eq_false (show ¬ y ≤ 100000 by omega)]; rfl, by go_grown⟩
    · go_enter Tryd.func38, Tryd.ntmps38
      go_wp2_with fail
      go_returns
      exact ⟨by rw [R.out, decide_eq_true h1, decide_eq_false (show ¬ x ≤ y by omega)]; rfl, by go_grown⟩
  · go_enter Tryd.func38, Tryd.ntmps38
    go_wp2_with fail
    go_returns
    exact ⟨by rw [R.out, decide_eq_false (show ¬ (0 : Int) ≤ x by omega)]; rfl, by go_grown⟩
theorem windowValid_is {p : Wn} {b : Bool} (h : okW p = b) (w : World) :
    Calls Tryd.prog 38 #[.agg #[.int .i64 p.1, .int .i64 p.2]] w fun e w' => e = .returned (.bool b) ∧ Below w.heap.size w w' := by
  subst h; exact windowValid_any p w
theorem windowEmpty_any (p : Wn) (w : World) :
    Calls Tryd.prog 44 #[.agg #[.int .i64 p.1, .int .i64 p.2]] w fun e w' => e = .returned (.bool (decide (p.2 < p.1))) ∧ Below w.heap.size w w' := by
  obtain ⟨x, y⟩ := p
  by_cases h1 : y < x
  · go_enter Tryd.func44, Tryd.ntmps44
    go_wp2_with fail
    go_returns
    exact ⟨by simp only; rw [decide_eq_true h1]; rfl, by go_grown⟩
  · go_enter Tryd.func44, Tryd.ntmps44
    go_wp2_with fail
    go_returns
    exact ⟨by simp only; rw [decide_eq_false (show ¬ y < x by omega)]; rfl, by go_grown⟩
theorem windowEmpty_is {p : Wn} {b : Bool} (h : decide (p.2 < p.1) = b) (w : World) :
    Calls Tryd.prog 44 #[.agg #[.int .i64 p.1, .int .i64 p.2]] w fun e w' => e = .returned (.bool b) ∧ Below w.heap.size w w' := by
  subst h; exact windowEmpty_any p w
theorem windowHas_any (p : Wn) (n : Int) (w : World) :
    Calls Tryd.prog 28 #[.agg #[.int .i64 p.1, .int .i64 p.2], .int .i64 n] w fun e w' => e = .returned (.bool (inW p n)) ∧ Below w.heap.size w w' := by
  obtain ⟨x, y⟩ := p
  have R : Hid (inW (x, y) n = (decide (x ≤ n) && decide (n ≤ y))) := Lib.hid rfl
  by_cases h1 : x ≤ n
  · by_cases h2 : n ≤ y
    · go_enter Tryd.func28, Tryd.ntmps28
      go_wp2_with fail
      go_returns
      exact ⟨by rw [R.out, decide_eq_true h1, decide_eq_true h2]; rfl, by go_grown⟩
    · go_enter Tryd.func28, Tryd.ntmps28
      go_wp2_with fail
      go_returns
      exact ⟨by rw [R.out, decide_eq_true h1, decide_eq_false (show ¬ n ≤ y by omega)]; rfl, by go_grown⟩
  · go_enter Tryd.func28, Tryd.ntmps28
    go_wp2_with fail
    go_returns
    exact ⟨by rw [R.out, decide_eq_false (show ¬ x ≤ n by omega)]; rfl, by go_grown⟩
theorem windowHas_is {p : Wn} {n : Int} {b : Bool} (h : inW p n = b) (w : World) :
    Calls Tryd.prog 28 #[.agg #[.int .i64 p.1, .int .i64 p.2], .int .i64 n] w fun e w' => e = .returned (.bool b) ∧ Below w.heap.size w w' := by
  subst h; exact windowHas_any p n w
set_option maxHeartbeats 1600000 in
theorem windowOfBoth_any (p q : Wn) (w : World) :
    Calls Tryd.prog 41 #[.agg #[.int .i64 p.1, .int .i64 p.2], .agg #[.int .i64 q.1, .int .i64 q.2]] w fun e w' => e = .returned (.agg #[.int .i64 (bothW p q.1 q.2).1, .int .i64 (bothW p q.1 q.2).2]) ∧ Below w.heap.size w w' := by
  obtain ⟨x, hx⟩ : ∃ x, (bothW p q.1 q.2).1 = x := ⟨_, rfl⟩
  obtain ⟨y, hy⟩ : ∃ y, (bothW p q.1 q.2).2 = y := ⟨_, rfl⟩
  obtain ⟨p1, p2⟩ := p
  obtain ⟨lo, hi⟩ := q
  have HX := Lib.hid hx; have HY := Lib.hid hy
  have e1 : (if p1 < lo then lo else p1) = x := by rw [← hx]; simp only [bothW]; split <;> omega
  have e2 : (if hi < p2 then hi else p2) = y := by rw [← hy]; simp only [bothW]; split <;> omega
  clear hx hy
  go_enter Tryd.func41, Tryd.ntmps41
  go_wp2_with fail
  go_returns
  exact ⟨by rw [HX.out, HY.out], by go_grown⟩
theorem windowOfBoth_is {p q r : Wn} (h : bothW p q.1 q.2 = r) (w : World) :
    Calls Tryd.prog 41 #[.agg #[.int .i64 p.1, .int .i64 p.2], .agg #[.int .i64 q.1, .int .i64 q.2]] w fun e w' => e = .returned (.agg #[.int .i64 r.1, .int .i64 r.2]) ∧ Below w.heap.size w w' := by
  subst h; exact windowOfBoth_any p q w
end Go.Proofs.YtanfalkpmmkklaaDoor
