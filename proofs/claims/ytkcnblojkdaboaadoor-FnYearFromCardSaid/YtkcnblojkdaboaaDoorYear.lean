/- The contracts of chapter 1's functions, of the program and of the model, at every integer. -/
import Derived.Test.YtkcnblojkdaboaaDoorRows
import Derived.WalkKit
import Derived.ProofKit
import Derived.Outline
import Derived.Lib.Hide
namespace Go.Proofs.YtkcnblojkdaboaaDoor
open Go.RowKit

/-- A year is in its range. -/
def inYear (a : Int) : Bool := decide (-200000 ≤ a ∧ a ≤ 200000)
/-- The distance from a year that is in its range to another one, or 0. -/
def fromYear (n a : Int) : Int := if inYear a then n - a else 0

theorem inYear_yes {a : Int} (h : -200000 ≤ a) (h' : a ≤ 200000) : inYear a = true := by simp [inYear, h, h']
theorem inYear_no {a : Int} (h : a < -200000 ∨ 200000 < a) : inYear a = false := by simp [inYear]; omega
theorem inYear_iff {a : Int} : inYear a = true ↔ (-200000 ≤ a ∧ a ≤ 200000) := by simp [inYear]
theorem year_part (a : Int) : (inYear a = true ∧ -200000 ≤ a ∧ a ≤ 200000) ∨ (inYear a = false ∧ a < -200000 ∧ decide (-200000 ≤ a) = false) ∨ (inYear a = false ∧ 200000 < a ∧ -200000 ≤ a ∧ decide (a ≤ 200000) = false) := by
  rcases Int.lt_or_le a (-200000) with h | h
  · exact .inr (.inl ⟨inYear_no (.inl h), h, by simpa using h⟩)
  · rcases Int.lt_or_le 200000 a with h' | h'
    · exact .inr (.inr ⟨inYear_no (.inr h'), h', h, by simpa using h'⟩)
    · exact .inl ⟨inYear_yes h h', h, h'⟩
theorem two_of {x y : Int} {p q : Bool} (h : x = y) (k : p = q) : Ending.returned (.tuple #[.int .i64 x, .bool p]) = .returned (.tuple #[.int .i64 y, .bool q]) := by rw [h, k]
theorem one_of {p q : Bool} (k : p = q) : Ending.returned (.bool p) = .returned (.bool q) := by rw [k]

/-- A number lies between two others. -/
def isIn (n a b : Int) : Bool := decide (a ≤ n ∧ n ≤ b)

theorem l6In_any (n a b : Int) (w : World) :
    Calls Tryd.prog 31 #[.int .i64 n, .int .i64 a, .int .i64 b] w fun e w' => e = .returned (.bool (isIn n a b)) ∧ w = w' := by
  by_cases h : a ≤ n
  · have h1 : decide (a ≤ n) = true := by simpa using h
    by_cases h' : n ≤ b
    · have h2 : decide (n ≤ b) = true := by simpa using h'
      go_enter Tryd.func31, Tryd.ntmps31
      go_wp2
      go_ret
      exact ⟨one_of (by simp [isIn, *]), rfl⟩
    · have h2 : decide (n ≤ b) = false := by simpa using h'
      go_enter Tryd.func31, Tryd.ntmps31
      go_wp2
      go_ret
      exact ⟨one_of (by simp [isIn, *]), rfl⟩
  · have h1 : decide (a ≤ n) = false := by simpa using h
    go_enter Tryd.func31, Tryd.ntmps31
    go_wp2
    go_ret
    exact ⟨one_of (by simp [isIn, *]), rfl⟩
theorem l1Year_any (a : Int) (w : World) :
    Calls Tryd.prog 24 #[.int .i64 a] w fun e w' => e = .returned (.bool (inYear a)) ∧ w = w' := by
  go_enter Tryd.func24, Tryd.ntmps24
  go_wp2_with (go_at_call 31; refine (l6In_any _ _ _ _).mono ?_; rintro e w' ⟨rfl, rfl⟩)
  go_ret
  exact ⟨one_of rfl, rfl⟩
theorem valid_any (a : Int) (w : World) :
    Calls Tryd.prog 22 #[.int .i64 a] w fun e w' => e = .returned (.bool (inYear a)) ∧ w = w' := by
  rcases year_part a with ⟨h, h1, h2⟩ | ⟨h, h1, h2⟩ | ⟨h, h1, h3, h2⟩
  all_goals
    go_enter Tryd.func22, Tryd.ntmps22
    go_wp2
    go_ret
    exact ⟨one_of h.symm, rfl⟩
/-- Both years are in their range; the distance, or 0. -/
def twoYears (a b : Int) : Bool := inYear a && inYear b
def distance (a b : Int) : Int := if twoYears a b then b - a else 0
theorem until_all (a b : Int) (w : World) :
    Calls Tryd.prog 32 #[.int .i64 a, .int .i64 b] w fun e w' => e = .returned (.tuple #[.int .i64 (distance a b), .bool (twoYears a b)]) ∧ w = w' := by
  cases ha : inYear a
  · go_enter Tryd.func32, Tryd.ntmps32
    go_wp2_with (go_at_call 22; refine (valid_any _ _).mono ?_; rintro e w' ⟨rfl, rfl⟩)
    go_ret2
    exact ⟨two_of (by simp [distance, twoYears, ha]) (by simp [twoYears, ha]), rfl⟩
  · have ra := inYear_iff.1 ha
    cases hb : inYear b
    · go_enter Tryd.func32, Tryd.ntmps32
      go_wp2_with (go_at_call 22; refine (valid_any _ _).mono ?_; rintro e w' ⟨rfl, rfl⟩)
      go_ret2
      exact ⟨two_of (by simp [distance, twoYears, hb]) (by simp [twoYears, hb]), rfl⟩
    · have rb := inYear_iff.1 hb
      go_enter Tryd.func32, Tryd.ntmps32
      go_wp2_with (go_at_call 22; refine (valid_any _ _).mono ?_; rintro e w' ⟨rfl, rfl⟩)
      go_ret2
      exact ⟨two_of (by simp [distance, twoYears, ha, hb]) (by simp [twoYears, ha, hb]), rfl⟩
theorem until_any (a b : Int) (w : World) (hb : 0 ≤ b) (hb' : b ≤ 5000) :
    Calls Tryd.prog 32 #[.int .i64 a, .int .i64 b] w fun e w' => e = .returned (.tuple #[.int .i64 (fromYear b a), .bool (inYear a)]) ∧ w = w' := by
  have hv : inYear b = true := inYear_yes (by omega) (by omega)
  refine (until_all a b w).mono fun e w' h => ?_
  rw [h.1]
  exact ⟨two_of (by simp [distance, twoYears, hv, fromYear]) (by simp [twoYears, hv]), h.2⟩
theorem implYearAge_any (a : Int) (w : World) :
    Calls Tryd.prog 19 #[.int .i64 a] w fun e w' => e = .returned (.tuple #[.int .i64 (fromYear 2000 a), .bool (inYear a)]) ∧ w = w' := by
  go_enter Tryd.func19, Tryd.ntmps19
  go_wp2_with (go_at_call 32; refine (until_any _ _ _ (by decide) (by decide)).mono ?_; rintro e w' ⟨rfl, rfl⟩)
  go_ret2
  exact ⟨rfl, rfl⟩
/-- The year of an age, or 0. -/
def ofAge (a : Int) : Int := if inYear (2000 - a) then 2000 - a else 0
theorem age_part (a : Int) : (inYear (2000 - a) = true ∧ -198000 ≤ a ∧ a ≤ 202000) ∨ (inYear (2000 - a) = false ∧ (a < -400000 ∨ 400000 < a)) ∨ (inYear (2000 - a) = false ∧ -400000 ≤ a ∧ a ≤ 400000) := by
  by_cases h : -198000 ≤ a ∧ a ≤ 202000
  · exact .inl ⟨inYear_yes (by omega) (by omega), h.1, h.2⟩
  · have k := inYear_no (a := 2000 - a) (by omega)
    by_cases h' : -400000 ≤ a ∧ a ≤ 400000
    · exact .inr (.inr ⟨k, h'.1, h'.2⟩)
    · exact .inr (.inl ⟨k, by omega⟩)
theorem implYearOf_any (a : Int) (w : World) :
    Calls Tryd.prog 17 #[.int .i64 a] w fun e w' => e = .returned (.tuple #[.int .i64 (ofAge a), .bool (inYear (2000 - a))]) ∧ w = w' := by
  rcases age_part a with ⟨h, h1, h2⟩ | ⟨h, h1 | h1⟩ | ⟨h, h1, h2⟩
  · go_enter Tryd.func17, Tryd.ntmps17
    go_wp2_with (go_at_call 22; refine (valid_any _ _).mono ?_; rintro e w' ⟨rfl, rfl⟩)
    go_ret2
    exact ⟨two_of (by simp [ofAge, h]) h.symm, rfl⟩
  · have h2 : decide (a < -400000) = true := by simpa using h1
    go_enter Tryd.func17, Tryd.ntmps17
    go_wp2_with (go_at_call 22; refine (valid_any _ _).mono ?_; rintro e w' ⟨rfl, rfl⟩)
    go_ret2
    exact ⟨two_of (by simp [ofAge, h]) h.symm, rfl⟩
  · have h2 : decide (a < -400000) = false := by simp; omega
    have h3 : decide (400000 < a) = true := by simpa using h1
    go_enter Tryd.func17, Tryd.ntmps17
    go_wp2_with (go_at_call 22; refine (valid_any _ _).mono ?_; rintro e w' ⟨rfl, rfl⟩)
    go_ret2
    exact ⟨two_of (by simp [ofAge, h]) h.symm, rfl⟩
  · go_enter Tryd.func17, Tryd.ntmps17
    go_wp2_with (go_at_call 22; refine (valid_any _ _).mono ?_; rintro e w' ⟨rfl, rfl⟩)
    go_ret2
    exact ⟨two_of (by simp [ofAge, h]) h.symm, rfl⟩
theorem isIn_yes {n a b : Int} (h : a ≤ n) (h' : n ≤ b) : isIn n a b = true := by simp [isIn, h, h']
theorem isIn_no {n a b : Int} (h : n < a ∨ b < n) : isIn n a b = false := by simp [isIn]; omega
theorem specYearOf_any (a : Int) (w : World) :
    Calls Tryd.prog 18 #[.int .i64 a] w fun e w' => e = .returned (.tuple #[.int .i64 (ofAge a), .bool (inYear (2000 - a))]) ∧ w = w' := by
  rcases age_part a with ⟨h, h1, h2⟩ | ⟨h, h1⟩ | ⟨h, h1, h2⟩
  · have k := isIn_yes (n := a) (a := -400000) (b := 400000) (by omega) (by omega)
    go_enter Tryd.func18, Tryd.ntmps18
    go_wp2_with (first | (go_at_call 24; refine (l1Year_any _ _).mono ?_; rintro e w' ⟨rfl, rfl⟩) | (go_at_call 31; refine (l6In_any _ _ _ _).mono ?_; rintro e w' ⟨rfl, rfl⟩))
    go_ret2
    exact ⟨two_of (by simp [ofAge, h]) h.symm, rfl⟩
  · have k := isIn_no (n := a) (a := -400000) (b := 400000) (by omega)
    go_enter Tryd.func18, Tryd.ntmps18
    go_wp2_with (first | (go_at_call 24; refine (l1Year_any _ _).mono ?_; rintro e w' ⟨rfl, rfl⟩) | (go_at_call 31; refine (l6In_any _ _ _ _).mono ?_; rintro e w' ⟨rfl, rfl⟩))
    go_ret2
    exact ⟨two_of (by simp [ofAge, h]) h.symm, rfl⟩
  · have k := isIn_yes (n := a) (a := -400000) (b := 400000) (by omega) (by omega)
    go_enter Tryd.func18, Tryd.ntmps18
    go_wp2_with (first | (go_at_call 24; refine (l1Year_any _ _).mono ?_; rintro e w' ⟨rfl, rfl⟩) | (go_at_call 31; refine (l6In_any _ _ _ _).mono ?_; rintro e w' ⟨rfl, rfl⟩))
    go_ret2
    exact ⟨two_of (by simp [ofAge, h]) h.symm, rfl⟩
end Go.Proofs.YtkcnblojkdaboaaDoor
