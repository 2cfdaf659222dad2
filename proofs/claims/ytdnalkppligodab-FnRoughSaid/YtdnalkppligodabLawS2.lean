/- More that the walks of the laws on rows name. -/
import Derived.Test.YtdnalkppligodabLawS
namespace Go.Proofs.Ytdnalkppligodab
open Go.RowKit

variable {w : World} {v : Value} {l : List Int} {n : Int}
theorem sumS_is {x : Int} (h : IRow w v l) (hr : isRow l = true) (hx : l.sum = x) : Calls Try.prog 14 #[v] w fun e w' => e = .returned (.tuple #[.int .i64 x, .bool true]) ∧ Below w.heap.size w w' := by
  have := sumS_yes h hr
  rwa [hx] at this
theorem rangeS_is {x y : Int} (h : IRow w v l) (hr : isRow l = true) (hx : lowL l = x) (hy : highL l = y) : Calls Try.prog 21 #[v] w fun e w' => e = .returned (.tuple #[.int .i64 x, .int .i64 y, .bool true]) ∧ Below w.heap.size w w' := by
  have := rangeS_yes h hr
  rwa [hx, hy] at this
theorem mul_n {x : Int} {n : Nat} (hx : -10000 ≤ x ∧ x ≤ 10000) (hn : n ≤ 20) : -200000 ≤ x * (n : Int) ∧ x * (n : Int) ≤ 200000 := by
  have a : (-10000) * (n : Int) ≤ x * (n : Int) := Int.mul_le_mul_of_nonneg_right hx.1 (by omega)
  have b : x * (n : Int) ≤ 10000 * (n : Int) := Int.mul_le_mul_of_nonneg_right hx.2 (by omega)
  omega
/-- A number is among the first j. -/
def seen (l : List Int) (x : Int) (j : Nat) : Bool := (l.take j).any (· == x)
theorem seen_zero (l : List Int) (x : Int) : seen l x 0 = false := by simp [seen]
theorem seen_next {l : List Int} {x : Int} {j : Nat} (hj : j < l.length) : seen l x (j + 1) = (seen l x j || l[j] == x) := by
  unfold seen
  rw [List.take_succ_eq_append_getElem hj, List.any_append]; simp
theorem seen_all {l : List Int} {x : Int} (h : x ∈ l) {n : Nat} (hn : l.length = n) : seen l x n = true := by
  unfold seen
  rw [List.take_of_length_le (by omega), List.any_eq_true]
  exact ⟨x, h, by simp⟩
theorem same_zero {b x y : Int} (h : b = 0 ↔ x = y) : ((b == 0) == (x == y)) = true := by
  by_cases c : b = 0
  · have d := h.1 c; subst c; subst d; simp
  · have d : ¬ x = y := fun e => c (h.2 e)
    have e1 : (b == 0) = false := by simpa using c
    have e2 : (x == y) = false := by simpa using d
    rw [e1, e2]; rfl
theorem flat_one {l : List Int} {z : Int} (h : l.length = 1) (h0 : 0 < l.length) (hz : l[0]'h0 = z) : l = flat 1 z := by
  match l, h with
  | [x], _ => subst hz; rfl
end Go.Proofs.Ytdnalkppligodab
