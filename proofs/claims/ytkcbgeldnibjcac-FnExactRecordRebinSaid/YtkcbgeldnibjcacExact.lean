/- The exact laws' own functions on fractions. -/
import Derived.Test.YtkcbgeldnibjcacHolds
namespace Go.Proofs.Ytkcbgeldnibjcac
open Go.RowKit

theorem St.alloc' {w0 w : World} {l : List (Nat × Int × Int)} (h : St w0 w l) (n d : Int) (t : TypeId) : St w0 (w.alloc (.cells #[.int .i64 n, .int .i64 d] t)) ((w.heap.size, n, d) :: l) :=
  ⟨h.below.alloc h.below.size _, h.holds.alloc n d _⟩
theorem eqFrac_any (a b c d : Int) (w : World) :
    Calls Try.prog 10 #[.agg #[.int .i64 a, .int .i64 b], .agg #[.int .i64 c, .int .i64 d]] w fun e w' => e = .returned (.bool (a == c && b == d)) ∧ Below w.heap.size w w' := by
  cases h1 : (a == c)
  · have k1 : (a != c) = true := by simp [bne, h1]
    go_enter Try.func10, Try.ntmps10
    go_wp2
    go_ret
    exact ⟨rfl, by go_grown⟩
  · have k1 : (a != c) = false := by simp [bne, h1]
    cases h2 : (b == d)
    · have k2 : (b != d) = true := by simp [bne, h2]
      go_enter Try.func10, Try.ntmps10
      go_wp2
      go_ret
      exact ⟨rfl, by go_grown⟩
    · have k2 : (b != d) = false := by simp [bne, h2]
      go_enter Try.func10, Try.ntmps10
      go_wp2
      go_ret
      exact ⟨rfl, by go_grown⟩
end Go.Proofs.Ytkcbgeldnibjcac
