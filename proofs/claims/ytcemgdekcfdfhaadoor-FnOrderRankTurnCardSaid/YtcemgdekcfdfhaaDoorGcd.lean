/- The common divisors of the program and of the model, and which fractions are valid. -/
import Derived.Test.YtcemgdekcfdfhaaDoorRows
import Derived.Test.YtcemgdekcfdfhaaDoorRat
import Derived.WalkKit
import Derived.ProofKit
import Derived.Outline
import Derived.LoopTactic
import Derived.Lib.Hide
import Derived.Below
import Derived.Deep.QuietTactic
import Derived.BigQuiet
namespace Go.Proofs.YtcemgdekcfdfhaaDoor
open Go.RowKit

theorem one_of {p q : Bool} (k : p = q) : Ending.returned (.bool p) = .returned (.bool q) := by rw [k]
theorem below_drewN {B n : Nat} {a w : World} (h : Below B a w) : Below B a (w.drewN n) := ⟨h.os, h.tape, h.output, h.size, h.block⟩
/-- A number lies between two others. -/
def isIn (n a b : Int) : Bool := decide (a ≤ n ∧ n ≤ b)
theorem isIn_yes {n a b : Int} (h : a ≤ n) (h' : n ≤ b) : isIn n a b = true := by simp [isIn, h, h']
theorem isIn_no {n a b : Int} (h : n < a ∨ b < n) : isIn n a b = false := by simp [isIn]; omega
theorem l6In_any (n a b : Int) (w : World) :
    Calls Tryd.prog 29 #[.int .i64 n, .int .i64 a, .int .i64 b] w fun e w' => e = .returned (.bool (isIn n a b)) ∧ w = w' := by
  by_cases h : a ≤ n
  · have h1 : decide (a ≤ n) = true := by simpa using h
    by_cases h' : n ≤ b
    · have h2 : decide (n ≤ b) = true := by simpa using h'
      go_enter Tryd.func29, Tryd.ntmps29
      go_wp2
      go_ret
      exact ⟨one_of (by simp [isIn, *]), rfl⟩
    · have h2 : decide (n ≤ b) = false := by simpa using h'
      go_enter Tryd.func29, Tryd.ntmps29
      go_wp2
      go_ret
      exact ⟨one_of (by simp [isIn, *]), rfl⟩
  · have h1 : decide (a ≤ n) = false := by simpa using h
    go_enter Tryd.func29, Tryd.ntmps29
    go_wp2
    go_ret
    exact ⟨one_of (by simp [isIn, *]), rfl⟩
/-- In what way a numerator and a denominator are or are not within the limits. -/
theorem fv_ways (n d : Int) : (d < 1 ∧ fv n d = false) ∨ (1 ≤ d ∧ 1000000000 < d ∧ fv n d = false) ∨ (1 ≤ d ∧ d ≤ 1000000000 ∧ n < -1000000000 ∧ fv n d = false) ∨
    (1 ≤ d ∧ d ≤ 1000000000 ∧ -1000000000 ≤ n ∧ 1000000000 < n ∧ fv n d = false) ∨
    (-1000000000 ≤ n ∧ n ≤ 1000000000 ∧ ∃ y : Nat, d = y ∧ 1 ≤ y ∧ y ≤ 1000000000 ∧ fv n d = (((Nat.gcd n.natAbs y : Nat) : Int) == 1)) := by
  have no : ¬ (1 ≤ d ∧ d ≤ 1000000000 ∧ -1000000000 ≤ n ∧ n ≤ 1000000000) → fv n d = false := by
    intro h
    cases k : fv n d
    · rfl
    · have := fv_iff.1 k; omega
  by_cases h1 : d < 1
  · exact .inl ⟨h1, no (by omega)⟩
  by_cases h2 : 1000000000 < d
  · exact .inr (.inl ⟨by omega, h2, no (by omega)⟩)
  by_cases h3 : n < -1000000000
  · exact .inr (.inr (.inl ⟨by omega, by omega, h3, no (by omega)⟩))
  by_cases h4 : 1000000000 < n
  · exact .inr (.inr (.inr (.inl ⟨by omega, by omega, by omega, h4, no (by omega)⟩)))
  refine .inr (.inr (.inr (.inr ⟨by omega, by omega, d.toNat, by omega, by omega, by omega, ?_⟩)))
  have hd : d.toNat = d.natAbs := by omega
  rw [hd, ← Int.gcd, fv, Bool.eq_iff_iff]
  simp
  omega
end Go.Proofs.YtcemgdekcfdfhaaDoor
