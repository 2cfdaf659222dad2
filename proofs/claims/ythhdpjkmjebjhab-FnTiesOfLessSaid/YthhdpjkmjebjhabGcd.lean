/- The common divisors of the program and of the model, and which fractions are valid. -/
import Derived.Test.YthhdpjkmjebjhabRows
import Derived.Test.YthhdpjkmjebjhabRat
import Derived.WalkKit
import Derived.ProofKit
import Derived.Outline
import Derived.LoopTactic
import Derived.Lib.Hide
import Derived.Below
import Derived.Deep.QuietTactic
import Derived.BigQuiet
namespace Go.Proofs.Ythhdpjkmjebjhab
open Go.RowKit

theorem one_of {p q : Bool} (k : p = q) : Ending.returned (.bool p) = .returned (.bool q) := by rw [k]
theorem below_drewN {B n : Nat} {a w : World} (h : Below B a w) : Below B a (w.drewN n) := ⟨h.os, h.tape, h.output, h.size, h.block⟩
/-- A number lies between two others. -/
def isIn (n a b : Int) : Bool := decide (a ≤ n ∧ n ≤ b)
theorem isIn_yes {n a b : Int} (h : a ≤ n) (h' : n ≤ b) : isIn n a b = true := by simp [isIn, h, h']
theorem isIn_no {n a b : Int} (h : n < a ∨ b < n) : isIn n a b = false := by simp [isIn]; omega
theorem l6In_any (n a b : Int) (w : World) :
    Calls Try.prog 72 #[.int .i64 n, .int .i64 a, .int .i64 b] w fun e w' => e = .returned (.bool (isIn n a b)) ∧ w = w' := by
  by_cases h : a ≤ n
  · have h1 : decide (a ≤ n) = true := by simpa using h
    by_cases h' : n ≤ b
    · have h2 : decide (n ≤ b) = true := by simpa using h'
      go_enter Try.func72, Try.ntmps72
      go_wp2
      go_ret
      exact ⟨one_of (by simp [isIn, *]), rfl⟩
    · have h2 : decide (n ≤ b) = false := by simpa using h'
      go_enter Try.func72, Try.ntmps72
      go_wp2
      go_ret
      exact ⟨one_of (by simp [isIn, *]), rfl⟩
  · have h1 : decide (a ≤ n) = false := by simpa using h
    go_enter Try.func72, Try.ntmps72
    go_wp2
    go_ret
    exact ⟨one_of (by simp [isIn, *]), rfl⟩
theorem commonDivisor_any (a : Int) (y : Nat) (h : -9000000000000000000 ≤ a) (h' : a ≤ 9000000000000000000) (hy : y ≤ 9000000000000000000) (w : World) :
    Calls Try.prog 61 #[.int .i64 a, .int .i64 y] w fun e w' => e = .returned (.int .i64 (Nat.gcd a.natAbs y)) ∧ w = w' := by
  have key : ∀ x : Nat, x = a.natAbs → (((x : Int) = a ∧ decide (a < 0) = false) ∨ ((x : Int) = -a ∧ decide (a < 0) = true)) → Calls Try.prog 61 #[.int .i64 a, .int .i64 y] w fun e w' => e = .returned (.int .i64 (Nat.gcd x y)) ∧ w = w' := by
    intro x hx hc
    have hb : x ≤ 9000000000000000000 := by omega
    clear hx
    rcases hc with ⟨rfl, hd⟩ | ⟨hxa, hd⟩
    all_goals
      go_enter Try.func61, Try.ntmps61
      go_wp2
      try rw [← hxa]
      go_loop [0, 1] (fun a b => ∃ m n : Nat, m ≤ 9000000000000000000 ∧ n ≤ 9000000000000000000 ∧ Nat.gcd m n = Nat.gcd x y ∧ a = .int .i64 m ∧ b = .int .i64 n)
                     (fun a _ => (intOf a).toNat)
      case atStart => exact ⟨x, y, hb, hy, rfl, rfl, rfl⟩
      case round =>
        obtain ⟨m, n, hm, hn, hg, rfl, rfl⟩ := hrel
        by_cases h0 : m = 0
        · subst h0
          rw [Nat.gcd_zero_left] at hg
          subst hg
          go_wp2
          go_ret
          exact ⟨rfl, rfl⟩
        · have h1 : ((m : Int) != 0) = true := by simpa using h0
          have hlt := Nat.mod_lt n (Nat.pos_of_ne_zero h0)
          go_wp2
          go_round
          case rel => exact ⟨n % m, m, by omega, hm, by rw [gcd_step', hg], by rw [Int.natCast_emod], rfl⟩
          case measure => simp only [intOf]; omega
  exact key a.natAbs rfl (by simp; omega)
/-- In what way a numerator and a denominator are or are not within the limits. -/
theorem fv_ways (n d : Int) : (d < 1 ∧ fv n d = false) ∨ (1 ≤ d ∧ 1000000000 < d ∧ fv n d = false) ∨ (1 ≤ d ∧ d ≤ 1000000000 ∧ n < -1000000000 ∧ fv n d = false) ∨
    (1 ≤ d ∧ d ≤ 1000000000 ∧ -1000000000 ≤ n ∧ 1000000000 < n ∧ fv n d = false) ∨
    (-1000000000 ≤ n ∧ n ≤ 1000000000 ∧ ∃ y : Nat, d = y ∧ 1 ≤ y ∧ y ≤ 1000000000 ∧ fv n d = (((Nat.gcd n.natAbs y : Nat) : Int) == 1)) := by
  have no : ¬ (1 ≤ d ∧ d ≤ 1000000000 ∧ -1000000000 ≤ n ∧ n ≤ 1000000000) → fv n d = false := by
    intro h
    cases k : fv n d
    · rfl
    · have := fv_iff.1 k; omega
  by_cases h1 : d < 1
  · exact .inl ⟨h1, no (by omega)⟩
  by_cases h2 : 1000000000 < d
  · exact .inr (.inl ⟨by omega, h2, no (by omega)⟩)
  by_cases h3 : n < -1000000000
  · exact .inr (.inr (.inl ⟨by omega, by omega, h3, no (by omega)⟩))
  by_cases h4 : 1000000000 < n
  · exact .inr (.inr (.inr (.inl ⟨by omega, by omega, by omega, h4, no (by omega)⟩)))
  refine .inr (.inr (.inr (.inr ⟨by omega, by omega, d.toNat, by omega, by omega, by omega, ?_⟩)))
  have hd : d.toNat = d.natAbs := by omega
  rw [hd, ← Int.gcd, fv, Bool.eq_iff_iff]
  simp
  omega
theorem implFracValid_any (n d : Int) (w : World) :
    Calls Try.prog 62 #[.agg #[.int .i64 n, .int .i64 d]] w fun e w' => e = .returned (.bool (fv n d)) ∧ Below w.heap.size w w' := by
  rcases fv_ways n d with ⟨h1, hf⟩ | ⟨h1, h2, hf⟩ | ⟨h1, h2, h3, hf⟩ | ⟨h1, h2, h3, h4, hf⟩ | ⟨h3, h4, y, rfl, h1, h2, hf⟩
  · have d1 : decide (d < 1) = true := by simpa using h1
    go_enter Try.func62, Try.ntmps62
    go_wp2
    go_ret
    exact ⟨one_of hf.symm, (Below.refl _ _).alloc (Nat.le_refl _) _⟩
  · have d1 : decide (d < 1) = false := by simpa using h1
    have d2 : decide (1000000000 < d) = true := by simpa using h2
    go_enter Try.func62, Try.ntmps62
    go_wp2
    go_ret
    exact ⟨one_of hf.symm, (Below.refl _ _).alloc (Nat.le_refl _) _⟩
  · have d1 : decide (d < 1) = false := by simpa using h1
    have d2 : decide (1000000000 < d) = false := by simpa using h2
    have d3 : decide (n < -1000000000) = true := by simpa using h3
    go_enter Try.func62, Try.ntmps62
    go_wp2
    go_ret
    exact ⟨one_of hf.symm, (Below.refl _ _).alloc (Nat.le_refl _) _⟩
  · have d1 : decide (d < 1) = false := by simpa using h1
    have d2 : decide (1000000000 < d) = false := by simpa using h2
    have d3 : decide (n < -1000000000) = false := by simpa using h3
    have d4 : decide (1000000000 < n) = true := by simpa using h4
    go_enter Try.func62, Try.ntmps62
    go_wp2
    go_ret
    exact ⟨one_of hf.symm, (Below.refl _ _).alloc (Nat.le_refl _) _⟩
  · have d1 : decide ((y : Int) < 1) = false := by simp; omega
    have d2 : decide (1000000000 < (y : Int)) = false := by simp; omega
    have d3 : decide (n < -1000000000) = false := by simpa using h3
    have d4 : decide (1000000000 < n) = false := by simpa using h4
    have hf' := Lib.hid hf
    clear hf
    go_enter Try.func62, Try.ntmps62
    go_wp2_with (go_at_call 61; refine (commonDivisor_any _ _ (by omega) (by omega) (by omega) _).mono ?_; rintro e w' ⟨rfl, rfl⟩)
    go_ret
    exact ⟨one_of hf'.out.symm, (Below.refl _ _).alloc (Nat.le_refl _) _⟩
end Go.Proofs.Ythhdpjkmjebjhab
