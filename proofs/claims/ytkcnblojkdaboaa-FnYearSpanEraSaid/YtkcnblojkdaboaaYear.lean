/- The contracts of chapter 1's functions, of the program and of the model, at every integer. -/
import Derived.Test.YtkcnblojkdaboaaRows
import Derived.WalkKit
import Derived.ProofKit
import Derived.Outline
import Derived.Lib.Hide
namespace Go.Proofs.Ytkcnblojkdaboaa
open Go.RowKit

/-- A year is in its range. -/
def inYear (a : Int) : Bool := decide (-200000 ≤ a ∧ a ≤ 200000)
/-- The distance from a year that is in its range to another one, or 0. -/
def fromYear (n a : Int) : Int := if inYear a then n - a else 0

theorem inYear_yes {a : Int} (h : -200000 ≤ a) (h' : a ≤ 200000) : inYear a = true := by simp [inYear, h, h']
theorem inYear_no {a : Int} (h : a < -200000 ∨ 200000 < a) : inYear a = false := by simp [inYear]; omega
theorem inYear_iff {a : Int} : inYear a = true ↔ (-200000 ≤ a ∧ a ≤ 200000) := by simp [inYear]
theorem year_part (a : Int) : (inYear a = true ∧ -200000 ≤ a ∧ a ≤ 200000) ∨ (inYear a = false ∧ a < -200000 ∧ decide (-200000 ≤ a) = false) ∨ (inYear a = false ∧ 200000 < a ∧ -200000 ≤ a ∧ decide (a ≤ 200000) = false) := by
  rcases Int.lt_or_le a (-200000) with h | h
  · exact .inr (.inl ⟨inYear_no (.inl h), h, by simpa using h⟩)
  · rcases Int.lt_or_le 200000 a with h' | h'
    · exact .inr (.inr ⟨inYear_no (.inr h'), h', h, by simpa using h'⟩)
    · exact .inl ⟨inYear_yes h h', h, h'⟩
theorem two_of {x y : Int} {p q : Bool} (h : x = y) (k : p = q) : Ending.returned (.tuple #[.int .i64 x, .bool p]) = .returned (.tuple #[.int .i64 y, .bool q]) := by rw [h, k]
theorem one_of {p q : Bool} (k : p = q) : Ending.returned (.bool p) = .returned (.bool q) := by rw [k]

/-- A number lies between two others. -/
def isIn (n a b : Int) : Bool := decide (a ≤ n ∧ n ≤ b)

theorem l6In_any (n a b : Int) (w : World) :
    Calls Try.prog 33 #[.int .i64 n, .int .i64 a, .int .i64 b] w fun e w' => e = .returned (.bool (isIn n a b)) ∧ w = w' := by
  by_cases h : a ≤ n
  · have h1 : decide (a ≤ n) = true := by simpa using h
    by_cases h' : n ≤ b
    · have h2 : decide (n ≤ b) = true := by simpa using h'
      go_enter Try.func33, Try.ntmps33
      go_wp2
      go_ret
      exact ⟨one_of (by simp [isIn, *]), rfl⟩
    · have h2 : decide (n ≤ b) = false := by simpa using h'
      go_enter Try.func33, Try.ntmps33
      go_wp2
      go_ret
      exact ⟨one_of (by simp [isIn, *]), rfl⟩
  · have h1 : decide (a ≤ n) = false := by simpa using h
    go_enter Try.func33, Try.ntmps33
    go_wp2
    go_ret
    exact ⟨one_of (by simp [isIn, *]), rfl⟩
theorem l1Year_any (a : Int) (w : World) :
    Calls Try.prog 28 #[.int .i64 a] w fun e w' => e = .returned (.bool (inYear a)) ∧ w = w' := by
  go_enter Try.func28, Try.ntmps28
  go_wp2_with (go_at_call 33; refine (l6In_any _ _ _ _).mono ?_; rintro e w' ⟨rfl, rfl⟩)
  go_ret
  exact ⟨one_of rfl, rfl⟩
theorem valid_any (a : Int) (w : World) :
    Calls Try.prog 29 #[.int .i64 a] w fun e w' => e = .returned (.bool (inYear a)) ∧ w = w' := by
  rcases year_part a with ⟨h, h1, h2⟩ | ⟨h, h1, h2⟩ | ⟨h, h1, h3, h2⟩
  all_goals
    go_enter Try.func29, Try.ntmps29
    go_wp2
    go_ret
    exact ⟨one_of h.symm, rfl⟩
/-- Both years are in their range; the distance, or 0. -/
def twoYears (a b : Int) : Bool := inYear a && inYear b
def distance (a b : Int) : Int := if twoYears a b then b - a else 0
theorem until_all (a b : Int) (w : World) :
    Calls Try.prog 27 #[.int .i64 a, .int .i64 b] w fun e w' => e = .returned (.tuple #[.int .i64 (distance a b), .bool (twoYears a b)]) ∧ w = w' := by
  cases ha : inYear a
  · go_enter Try.func27, Try.ntmps27
    go_wp2_with (go_at_call 29; refine (valid_any _ _).mono ?_; rintro e w' ⟨rfl, rfl⟩)
    go_ret2
    exact ⟨two_of (by simp [distance, twoYears, ha]) (by simp [twoYears, ha]), rfl⟩
  · have ra := inYear_iff.1 ha
    cases hb : inYear b
    · go_enter Try.func27, Try.ntmps27
      go_wp2_with (go_at_call 29; refine (valid_any _ _).mono ?_; rintro e w' ⟨rfl, rfl⟩)
      go_ret2
      exact ⟨two_of (by simp [distance, twoYears, hb]) (by simp [twoYears, hb]), rfl⟩
    · have rb := inYear_iff.1 hb
      go_enter Try.func27, Try.ntmps27
      go_wp2_with (go_at_call 29; refine (valid_any _ _).mono ?_; rintro e w' ⟨rfl, rfl⟩)
      go_ret2
      exact ⟨two_of (by simp [distance, twoYears, ha, hb]) (by simp [twoYears, ha, hb]), rfl⟩
theorem until_any (a b : Int) (w : World) (hb : 0 ≤ b) (hb' : b ≤ 5000) :
    Calls Try.prog 27 #[.int .i64 a, .int .i64 b] w fun e w' => e = .returned (.tuple #[.int .i64 (fromYear b a), .bool (inYear a)]) ∧ w = w' := by
  have hv : inYear b = true := inYear_yes (by omega) (by omega)
  refine (until_all a b w).mono fun e w' h => ?_
  rw [h.1]
  exact ⟨two_of (by simp [distance, twoYears, hv, fromYear]) (by simp [twoYears, hv]), h.2⟩
theorem implYearAge_any (a : Int) (w : World) :
    Calls Try.prog 14 #[.int .i64 a] w fun e w' => e = .returned (.tuple #[.int .i64 (fromYear 2000 a), .bool (inYear a)]) ∧ w = w' := by
  go_enter Try.func14, Try.ntmps14
  go_wp2_with (go_at_call 27; refine (until_any _ _ _ (by decide) (by decide)).mono ?_; rintro e w' ⟨rfl, rfl⟩)
  go_ret2
  exact ⟨rfl, rfl⟩
theorem implYearOld_any (a : Int) (w : World) :
    Calls Try.prog 17 #[.int .i64 a] w fun e w' => e = .returned (.tuple #[.int .i64 (fromYear 1950 a), .bool (inYear a)]) ∧ w = w' := by
  go_enter Try.func17, Try.ntmps17
  go_wp2_with (go_at_call 27; refine (until_any _ _ _ (by decide) (by decide)).mono ?_; rintro e w' ⟨rfl, rfl⟩)
  go_ret2
  exact ⟨rfl, rfl⟩
theorem specYearAge_any (a : Int) (w : World) :
    Calls Try.prog 15 #[.int .i64 a] w fun e w' => e = .returned (.tuple #[.int .i64 (fromYear 2000 a), .bool (inYear a)]) ∧ w = w' := by
  rcases year_part a with ⟨h, h1, h2⟩ | ⟨h, h1, h2⟩ | ⟨h, h1, h3, h2⟩
  all_goals
    go_enter Try.func15, Try.ntmps15
    go_wp2_with (go_at_call 28; refine (l1Year_any _ _).mono ?_; rintro e w' ⟨rfl, rfl⟩)
    go_ret2
    exact ⟨two_of (by simp [fromYear, h]) h.symm, rfl⟩
theorem specYearOld_any (a : Int) (w : World) :
    Calls Try.prog 19 #[.int .i64 a] w fun e w' => e = .returned (.tuple #[.int .i64 (fromYear 1950 a), .bool (inYear a)]) ∧ w = w' := by
  rcases year_part a with ⟨h, h1, h2⟩ | ⟨h, h1, h2⟩ | ⟨h, h1, h3, h2⟩
  all_goals
    go_enter Try.func19, Try.ntmps19
    go_wp2_with (go_at_call 28; refine (l1Year_any _ _).mono ?_; rintro e w' ⟨rfl, rfl⟩)
    go_ret2
    exact ⟨two_of (by simp [fromYear, h]) h.symm, rfl⟩

/-- The year of an age, or 0. -/
def ofAge (a : Int) : Int := if inYear (2000 - a) then 2000 - a else 0
theorem age_part (a : Int) : (inYear (2000 - a) = true ∧ -198000 ≤ a ∧ a ≤ 202000) ∨ (inYear (2000 - a) = false ∧ (a < -400000 ∨ 400000 < a)) ∨ (inYear (2000 - a) = false ∧ -400000 ≤ a ∧ a ≤ 400000) := by
  by_cases h : -198000 ≤ a ∧ a ≤ 202000
  · exact .inl ⟨inYear_yes (by omega) (by omega), h.1, h.2⟩
  · have k := inYear_no (a := 2000 - a) (by omega)
    by_cases h' : -400000 ≤ a ∧ a ≤ 400000
    · exact .inr (.inr ⟨k, h'.1, h'.2⟩)
    · exact .inr (.inl ⟨k, by omega⟩)
theorem implYearOf_any (a : Int) (w : World) :
    Calls Try.prog 16 #[.int .i64 a] w fun e w' => e = .returned (.tuple #[.int .i64 (ofAge a), .bool (inYear (2000 - a))]) ∧ w = w' := by
  rcases age_part a with ⟨h, h1, h2⟩ | ⟨h, h1 | h1⟩ | ⟨h, h1, h2⟩
  · go_enter Try.func16, Try.ntmps16
    go_wp2_with (go_at_call 29; refine (valid_any _ _).mono ?_; rintro e w' ⟨rfl, rfl⟩)
    go_ret2
    exact ⟨two_of (by simp [ofAge, h]) h.symm, rfl⟩
  · have h2 : decide (a < -400000) = true := by simpa using h1
    go_enter Try.func16, Try.ntmps16
    go_wp2_with (go_at_call 29; refine (valid_any _ _).mono ?_; rintro e w' ⟨rfl, rfl⟩)
    go_ret2
    exact ⟨two_of (by simp [ofAge, h]) h.symm, rfl⟩
  · have h2 : decide (a < -400000) = false := by simp; omega
    have h3 : decide (400000 < a) = true := by simpa using h1
    go_enter Try.func16, Try.ntmps16
    go_wp2_with (go_at_call 29; refine (valid_any _ _).mono ?_; rintro e w' ⟨rfl, rfl⟩)
    go_ret2
    exact ⟨two_of (by simp [ofAge, h]) h.symm, rfl⟩
  · go_enter Try.func16, Try.ntmps16
    go_wp2_with (go_at_call 29; refine (valid_any _ _).mono ?_; rintro e w' ⟨rfl, rfl⟩)
    go_ret2
    exact ⟨two_of (by simp [ofAge, h]) h.symm, rfl⟩
theorem isIn_yes {n a b : Int} (h : a ≤ n) (h' : n ≤ b) : isIn n a b = true := by simp [isIn, h, h']
theorem isIn_no {n a b : Int} (h : n < a ∨ b < n) : isIn n a b = false := by simp [isIn]; omega
theorem specYearOf_any (a : Int) (w : World) :
    Calls Try.prog 24 #[.int .i64 a] w fun e w' => e = .returned (.tuple #[.int .i64 (ofAge a), .bool (inYear (2000 - a))]) ∧ w = w' := by
  rcases age_part a with ⟨h, h1, h2⟩ | ⟨h, h1⟩ | ⟨h, h1, h2⟩
  · have k := isIn_yes (n := a) (a := -400000) (b := 400000) (by omega) (by omega)
    go_enter Try.func24, Try.ntmps24
    go_wp2_with (first | (go_at_call 28; refine (l1Year_any _ _).mono ?_; rintro e w' ⟨rfl, rfl⟩) | (go_at_call 33; refine (l6In_any _ _ _ _).mono ?_; rintro e w' ⟨rfl, rfl⟩))
    go_ret2
    exact ⟨two_of (by simp [ofAge, h]) h.symm, rfl⟩
  · have k := isIn_no (n := a) (a := -400000) (b := 400000) (by omega)
    go_enter Try.func24, Try.ntmps24
    go_wp2_with (first | (go_at_call 28; refine (l1Year_any _ _).mono ?_; rintro e w' ⟨rfl, rfl⟩) | (go_at_call 33; refine (l6In_any _ _ _ _).mono ?_; rintro e w' ⟨rfl, rfl⟩))
    go_ret2
    exact ⟨two_of (by simp [ofAge, h]) h.symm, rfl⟩
  · have k := isIn_yes (n := a) (a := -400000) (b := 400000) (by omega) (by omega)
    go_enter Try.func24, Try.ntmps24
    go_wp2_with (first | (go_at_call 28; refine (l1Year_any _ _).mono ?_; rintro e w' ⟨rfl, rfl⟩) | (go_at_call 33; refine (l6In_any _ _ _ _).mono ?_; rintro e w' ⟨rfl, rfl⟩))
    go_ret2
    exact ⟨two_of (by simp [ofAge, h]) h.symm, rfl⟩
/-- A number of an era, and its year. -/
def eraOk (a : Int) : Bool := decide (a ≠ 0 ∧ -200001 ≤ a ∧ a ≤ 200000)
def eraV (a : Int) : Int := if a < 0 then a + 1 else a
def eraN (a : Int) : Int := if eraOk a then eraV a else 0
def spanOk (a b : Int) : Bool := eraOk a && eraOk b
def span (a b : Int) : Int := if spanOk a b then eraV b - eraV a else 0
theorem eraOk_iff {a : Int} : eraOk a = true ↔ (a ≠ 0 ∧ -200001 ≤ a ∧ a ≤ 200000) := by simp [eraOk]
theorem eraOk_year {a : Int} (h : a ≠ 0) : eraOk a = inYear (eraV a) := by
  unfold eraOk inYear eraV
  by_cases k : a < 0
  · rw [if_pos k, decide_eq_decide]; omega
  · rw [if_neg k, decide_eq_decide]; omega
theorem eraV_bound {a : Int} (h : eraOk a = true) : -200000 ≤ eraV a ∧ eraV a ≤ 200000 := by
  have := eraOk_iff.1 h
  unfold eraV; split <;> omega
theorem int_of {k : IntKind} {a b : Int} (h : a = b) : Ending.returned (.int k a) = .returned (.int k b) := by rw [h]
theorem eraYear_any (a : Int) (w : World) (h : -9223372036854775808 ≤ a) :
    Calls Try.prog 31 #[.int .i64 a] w fun e w' => e = .returned (.int .i64 (eraV a)) ∧ w = w' := by
  by_cases k : a < 0
  · go_enter Try.func31, Try.ntmps31
    go_wp2
    go_ret
    exact ⟨int_of (by unfold eraV; split <;> omega), rfl⟩
  · go_enter Try.func31, Try.ntmps31
    go_wp2
    go_ret
    exact ⟨int_of (by unfold eraV; split <;> omega), rfl⟩
theorem span_of {a b : Int} (ha : a ≠ 0) (hb : b ≠ 0) : distance (eraV a) (eraV b) = span a b ∧ twoYears (eraV a) (eraV b) = spanOk a b := by
  have h : twoYears (eraV a) (eraV b) = spanOk a b := by unfold twoYears spanOk; rw [eraOk_year ha, eraOk_year hb]
  exact ⟨by unfold distance span; rw [h], h⟩
theorem implYearSpan_any (a b : Int) (w : World) (h1 : -9223372036854775808 ≤ a) (h2 : -9223372036854775808 ≤ b) :
    Calls Try.prog 21 #[.int .i64 a, .int .i64 b] w fun e w' => e = .returned (.tuple #[.int .i64 (span a b), .bool (spanOk a b)]) ∧ w = w' := by
  by_cases ha : a = 0
  · subst ha
    go_enter Try.func21, Try.ntmps21
    go_wp2
    go_ret2
    exact ⟨two_of (by simp [span, spanOk, eraOk]) (by simp [spanOk, eraOk]), rfl⟩
  · have ka : (a == 0) = false := by simpa using ha
    by_cases hb : b = 0
    · subst hb
      go_enter Try.func21, Try.ntmps21
      go_wp2
      go_ret2
      exact ⟨two_of (by simp [span, spanOk, eraOk]) (by simp [spanOk, eraOk]), rfl⟩
    · have kb : (b == 0) = false := by simpa using hb
      have hs := Lib.hid (span_of ha hb)
      clear ha hb
      go_enter Try.func21, Try.ntmps21
      go_wp2_with (first | (go_at_call 31; refine (eraYear_any _ _ (by assumption)).mono ?_; rintro e w' ⟨rfl, rfl⟩) | (go_at_call 27; refine (until_all _ _ _).mono ?_; rintro e w' ⟨rfl, rfl⟩))
      go_ret2
      exact ⟨two_of hs.out.1 hs.out.2, rfl⟩
theorem l1Era_any (a : Int) (w : World) :
    Calls Try.prog 32 #[.int .i64 a] w fun e w' => e = .returned (.tuple #[.int .i64 (eraN a), .bool (eraOk a)]) ∧ w = w' := by
  cases k : isIn a (-200001) 200000
  · have he : eraOk a = false := by simp [isIn, eraOk] at k ⊢; omega
    go_enter Try.func32, Try.ntmps32
    go_wp2_with (go_at_call 33; refine (l6In_any _ _ _ _).mono ?_; rintro e w' ⟨rfl, rfl⟩)
    go_ret2
    exact ⟨two_of (by simp [eraN, he]) he.symm, rfl⟩
  · by_cases ha : a = 0
    · subst ha
      have he : eraOk 0 = false := rfl
      go_enter Try.func32, Try.ntmps32
      go_wp2_with (go_at_call 33; refine (l6In_any _ _ _ _).mono ?_; rintro e w' ⟨rfl, rfl⟩)
      go_ret2
      exact ⟨two_of rfl rfl, rfl⟩
    · have he : eraOk a = true := by simp [isIn, eraOk] at k ⊢; omega
      have r := eraOk_iff.1 he
      have ka : (a == 0) = false := by simpa using ha
      have r1 := r.2.1
      have r2 := r.2.2
      clear r
      by_cases kn : a < 0
      · have hv := Lib.hid (show a + 1 = eraN a by simp [eraN, he, eraV, kn])
        go_enter Try.func32, Try.ntmps32
        go_wp2_with (go_at_call 33; refine (l6In_any _ _ _ _).mono ?_; rintro e w' ⟨rfl, rfl⟩)
        go_ret2
        exact ⟨two_of hv.out he.symm, rfl⟩
      · have hv := Lib.hid (show a = eraN a by simp [eraN, he, eraV, kn])
        go_enter Try.func32, Try.ntmps32
        go_wp2_with (go_at_call 33; refine (l6In_any _ _ _ _).mono ?_; rintro e w' ⟨rfl, rfl⟩)
        go_ret2
        exact ⟨two_of hv.out he.symm, rfl⟩
theorem specYearSpan_any (a b : Int) (w : World) :
    Calls Try.prog 22 #[.int .i64 a, .int .i64 b] w fun e w' => e = .returned (.tuple #[.int .i64 (span a b), .bool (spanOk a b)]) ∧ w = w' := by
  cases ha : eraOk a
  · go_enter Try.func22, Try.ntmps22
    go_wp2_with (go_at_call 32; refine (l1Era_any _ _).mono ?_; rintro e w' ⟨rfl, rfl⟩)
    go_ret2
    exact ⟨two_of (by simp [span, spanOk, ha]) (by simp [spanOk, ha]), rfl⟩
  · cases hb : eraOk b
    · go_enter Try.func22, Try.ntmps22
      go_wp2_with (go_at_call 32; refine (l1Era_any _ _).mono ?_; rintro e w' ⟨rfl, rfl⟩)
      go_ret2
      exact ⟨two_of (by simp [span, spanOk, hb]) (by simp [spanOk, hb]), rfl⟩
    · have na : eraN a = eraV a := by simp [eraN, ha]
      have nb : eraN b = eraV b := by simp [eraN, hb]
      have ba := eraV_bound ha
      have bb := eraV_bound hb
      go_enter Try.func22, Try.ntmps22
      go_wp2_with (go_at_call 32; refine (l1Era_any _ _).mono ?_; rintro e w' ⟨rfl, rfl⟩)
      go_ret2
      exact ⟨two_of (by simp [span, spanOk, ha, hb]) (by simp [spanOk, ha, hb]), rfl⟩
theorem span_parts {x y : Int} (h : spanOk x y = true) : (eraOk x = true ∧ eraOk y = true) ∧ span x y = eraV y - eraV x := by
  have k := h
  unfold spanOk at k
  exact ⟨by simpa using k, by simp [span, h]⟩
theorem span_more {x y : Int} (h : spanOk x y = true) : spanOk y x = true ∧ span y x = 0 - span x y ∧ spanOk x x = true ∧ span x x = 0 ∧ (-400000 ≤ span x y ∧ span x y ≤ 400000) := by
  obtain ⟨⟨hx, hy⟩, h1⟩ := span_parts h
  have k1 : spanOk y x = true := by simp [spanOk, hx, hy]
  have k2 : spanOk x x = true := by simp [spanOk, hx]
  have bx := eraV_bound hx
  have bv := eraV_bound hy
  have e1 := (span_parts k1).2
  have e2 := (span_parts k2).2
  exact ⟨k1, by omega, k2, by omega, by omega, by omega⟩
theorem span_era {x y : Int} (h : spanOk x y = true) : (0 < x ∧ 0 < y → span x y = y - x) ∧ (¬ 0 < x ∧ ¬ 0 < y → span x y = y - x) ∧ (0 < x ∧ ¬ 0 < y → span x y = y - x + 1 ∧ y < 0) ∧ (¬ 0 < x ∧ 0 < y → span x y = y - x - 1 ∧ x < 0) := by
  obtain ⟨⟨hx, hy⟩, h1⟩ := span_parts h
  have rx := eraOk_iff.1 hx
  have ry := eraOk_iff.1 hy
  rw [h1]
  unfold eraV
  refine ⟨?_, ?_, ?_, ?_⟩ <;> intro k <;> repeat' split <;> omega
theorem span_three {x y c : Int} (h : spanOk x y = true) (hc : c ≠ 0) (h1 : -200 ≤ c) (h2 : c ≤ 200) : spanOk x c = true ∧ spanOk c y = true ∧ span x c + span c y = span x y := by
  obtain ⟨⟨hx, hy⟩, e⟩ := span_parts h
  have kc : eraOk c = true := eraOk_iff.2 ⟨hc, by omega, by omega⟩
  have k1 : spanOk x c = true := by simp [spanOk, hx, kc]
  have k2 : spanOk c y = true := by simp [spanOk, hy, kc]
  have e1 := (span_parts k1).2
  have e2 := (span_parts k2).2
  exact ⟨k1, k2, by omega⟩
end Go.Proofs.Ytkcnblojkdaboaa
